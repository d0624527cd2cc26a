/- Contract of BookKept: it answers true. -/
import Derived.Test.YtpcajmkmmkmekaaDoorXB8
import Derived.Test.YtpcajmkmmkmekaaDoorXB9
import Derived.Test.YtpcajmkmmkmekaaDoorXB7
set_option linter.unusedVariables false
set_option linter.unusedSimpArgs false
namespace Go.Proofs.YtpcajmkmmkmekaaDoor
open Go Go.RowKit
set_option maxHeartbeats 8000000
set_option maxRecDepth 100000 in
theorem kept_no (r : Rack) (n0 n1 n2 n3 on : Int) (w : World) (hl : Lim w) (hr : RackAt w w.heap.size r) (hv : validB r = false) :
    Calls Tryd.prog 7 #[r.val, .agg #[vi n0, vi n1, vi n2, vi n3], vi on] w fun e w' => e = .returned (.bool true) ∧ Below w.heap.size w w' := by
  go_enter Tryd.func7, Tryd.ntmps7
  go_wp2_with (first | (go_at_call 20; refine (sound_no r _ (by repeat (first | assumption | refine Lim.alloc ?_ _ | refine Lim.setCell ?_ (by first | (simp; done) | (simp; omega) | omega) _ | refine Lim.drew ?_)) (hr.to (by (repeat (first | exact Below.refl _ _ | refine Below.setCell ?_ (by first | omega | (simp; omega) | (simp; done)) _ | refine Below.alloc ?_ (by first | omega | (simp; omega) | (simp; done)) _ | refine Below.drew ?_ | refine below_drewN ?_ _ | refine Below.trans ?_ (Below.mono (by assumption) (by first | omega | (simp; omega) | (simp; done))))))) hv).mono ?_; rintro e w1 ⟨rfl, hb1⟩; obtain ⟨⟨hc1, hf1, hs1⟩, hz1⟩ := after hb1; (try simp only [World.size_alloc, World.size_setCell, World.size_drew] at hz1); have hl1 : Lim w1 := Lim.next (by repeat (first | assumption | refine Lim.alloc ?_ _ | refine Lim.setCell ?_ (by first | (simp; done) | (simp; omega) | omega) _ | refine Lim.drew ?_)) hb1) | (go_at_call 19; refine (works_any _ (by repeat (first | assumption | refine Lim.alloc ?_ _ | refine Lim.setCell ?_ (by first | (simp; done) | (simp; omega) | omega) _ | refine Lim.drew ?_))).mono ?_; rintro e w1 ⟨rfl, hb1⟩; obtain ⟨⟨hc1, hf1, hs1⟩, hz1⟩ := after hb1; (try simp only [World.size_alloc, World.size_setCell, World.size_drew] at hz1); have hl1 : Lim w1 := Lim.next (by repeat (first | assumption | refine Lim.alloc ?_ _ | refine Lim.setCell ?_ (by first | (simp; done) | (simp; omega) | omega) _ | refine Lim.drew ?_)) hb1))
  go_ret
  refine ⟨rfl, ?_⟩
  (repeat (first | exact Below.refl _ _ | refine Below.setCell ?_ (by first | omega | (simp; omega) | (simp; done)) _ | refine Below.alloc ?_ (by first | omega | (simp; omega) | (simp; done)) _ | refine Below.drew ?_ | refine below_drewN ?_ _ | refine Below.trans ?_ (Below.mono (by assumption) (by first | omega | (simp; omega) | (simp; done)))))
set_option maxRecDepth 100000 in
theorem kept_yes (r : Rack) (n0 n1 n2 n3 on : Int) (w : World) (hl : Lim w) (hr : RackAt w w.heap.size r) (hv : validB r = true)
    (a0 : -9223372036854775808 ≤ n0) (a1 : n0 ≤ 9223372036854775807) (b0 : -9223372036854775808 ≤ n1) (b1 : n1 ≤ 9223372036854775807)
    (d0 : -9223372036854775808 ≤ n2) (d1 : n2 ≤ 9223372036854775807) (e0 : -9223372036854775808 ≤ n3) (e1 : n3 ≤ 9223372036854775807) (f0 : -9223372036854775808 ≤ on) (f1 : on ≤ 9223372036854775807) :
    Calls Tryd.prog 7 #[r.val, .agg #[vi n0, vi n1, vi n2, vi n3], vi on] w fun e w' => e = .returned (.bool true) ∧ Below w.heap.size w w' := by
  have hok := rack_ok hv
  have k2 := hok.n2
  obtain ⟨k, x, hk1, hk2, hk3, hk4⟩ := some_at hok n0
  have hxo := hok.issues x (List.mem_of_getElem? hk4)
  have x1 := hxo.d1
  have x2 := hxo.h1
  have x3 := hxo.h2
  obtain ⟨dd, hdd⟩ : ∃ dd, dd = lotI x.lo x.held on := ⟨_, rfl⟩
  obtain ⟨t0, t1⟩ := lot_range (n := on) x2
  rw [← hdd] at t0 t1
  obtain ⟨IT, hIT⟩ : ∃ IT, IT = someT r n0 n1 n2 n3 := ⟨_, rfl⟩
  have SA : ∀ W : World, RackAt W W.heap.size r → Calls Tryd.prog 29 #[r.val, .agg #[vi n0, vi n1, vi n2, vi n3]] W fun e w' => e = .returned (.tuple #[IT.val, vi (k : Nat)]) ∧ Below W.heap.size W w' := fun W h => by
    have := some_any r n0 n1 n2 n3 W h hok a0 a1 b0 b1 d0 d1 e0 e1
    rwa [hk2, ← hIT] at this
  have hio := someT_ok hok n0 n1 n2 n3
  rw [← hIT] at hio
  obtain ⟨hc0, hc3⟩ := item_colour hio
  obtain ⟨p1, p2⟩ := price_ask hv (d := dd) (by omega) (by omega) hio
  obtain ⟨PO, hPO⟩ : ∃ PO, PO = priceO r dd IT := ⟨_, rfl⟩
  have HLE := Lib.hid (fun (i : Nat) (y : Issue) h1 h2 h3 h4 => price_le (d := dd) (it := IT) hok (i := i) (x := y) h1 h2 h3 h4)
  have HSA := said_all hok (d := dd) (it := IT)
  rw [← hPO] at p1 p2 HLE HSA
  have HE := Lib.hid (And.intro p1 p2)
  have HSAID := Lib.hid HSA
  have HX := Lib.hid hk4
  have HXO := Lib.hid hxo
  have HOK := Lib.hid hok
  have HDD := Lib.hid hdd.symm
  have HS := Lib.hid SA
  clear hIT hk2 hk1 hk4 hok hxo hdd p1 p2 HSA hPO SA hio
  obtain ⟨rg, rA, rcap, ri⟩ := r
  obtain ⟨xlo, xhi, xhd, xA, xcap, xl⟩ := x
  obtain ⟨ig, is, ic⟩ := IT
  have hri : IssuesAt w w.heap.size rA rcap ri := hr
  have rc1 := hri.cap
  have rf1 := hri.few
  have rc2 := hri.len
  simp only at x1 x2 x3 t0 t1 k2 hk3 hc0 hc3 HX HDD
  have hkI : (k : Int) < ri.length := by omega
  have h0I : (0 : Int) ≤ k := by omega
  have hrI : (ri.length : Int) ≤ 4 := by omega
  show Calls Tryd.prog 7 #[.agg #[vi rg, .slice rA ri.length rcap], .agg #[vi n0, vi n1, vi n2, vi n3], vi on] w _
  go_enter Tryd.func7, Tryd.ntmps7
  go_wp2_with fail
  refine (sound_yes ⟨rg, rA, rcap, ri⟩ _ (by repeat (first | assumption | refine Lim.alloc ?_ _ | refine Lim.setCell ?_ (by first | (simp; done) | (simp; omega) | omega) _ | refine Lim.drew ?_)) (hr.to (by (repeat (first | exact Below.refl _ _ | refine Below.setCell ?_ (by first | omega | (simp; omega) | (simp; done)) _ | refine Below.alloc ?_ (by first | omega | (simp; omega) | (simp; done)) _ | refine Below.drew ?_ | refine below_drewN ?_ _ | refine Below.trans ?_ (Below.mono (by assumption) (by first | omega | (simp; omega) | (simp; done))))))) hv).mono ?_
  rintro e W ⟨rfl, hb⟩
  have HB0 : Below w.heap.size w W := by (repeat (first | exact Below.refl _ _ | refine Below.setCell ?_ (by first | omega | (simp; omega) | (simp; done)) _ | refine Below.alloc ?_ (by first | omega | (simp; omega) | (simp; done)) _ | refine Below.drew ?_ | refine below_drewN ?_ _ | refine Below.trans ?_ (Below.mono (by assumption) (by first | omega | (simp; omega) | (simp; done)))))
  have c0 : W.cell? ⟨w.heap.size, 0, none⟩ = some (vi rg) := cell_keep hb (by simp [go_sem])
  have c1 : W.cell? ⟨w.heap.size, 1, none⟩ = some (.slice rA ri.length rcap) := cell_keep hb (by simp [go_sem])
  have m0 : W.cell? ⟨w.heap.size + 1, 0, none⟩ = some (vi n0) := cell_keep hb (by simp [go_sem])
  have m1 : W.cell? ⟨w.heap.size + 1, 1, none⟩ = some (vi n1) := cell_keep hb (by simp [go_sem])
  have m2 : W.cell? ⟨w.heap.size + 1, 2, none⟩ = some (vi n2) := cell_keep hb (by simp [go_sem])
  have m3 : W.cell? ⟨w.heap.size + 1, 3, none⟩ = some (vi n3) := cell_keep hb (by simp [go_sem])
  clear hb
  go_wp2_with fail
  refine (HS.out _ (hr.to HB0)).mono ?_
  rintro e W1 ⟨rfl, hb1⟩
  have HB1 : Below w.heap.size w W1 := HB0.trans (hb1.mono HB0.size)
  have c01 := cell_keep hb1 c0
  have c11 := cell_keep hb1 c1
  have z01 := cell_lt c01
  simp only at z01
  obtain ⟨bb, off, rfl, hbb, y0, y1, y2, y3⟩ := row4 (hri.to HB1).row HX.out rfl
  replace y3 : W1.cell? ⟨bb, off + k * 4 + 3, none⟩ = some (.slice xA xl.length xcap) := y3
  clear m0 m1 m2 m3 c0 c1 hb1 HS
  go_wp2_with fail
  obtain ⟨W2, hW2⟩ : ∃ W2, W2 = (W1.alloc (.cells #[vi ig, vi is, vi ic] 63)).alloc (.cells #[vi xlo, vi xhi, vi xhd, .slice xA xl.length xcap] 47) := ⟨_, rfl⟩
  have hB2 : Below W1.heap.size W1 W2 := by rw [hW2]; (repeat (first | exact Below.refl _ _ | refine Below.setCell ?_ (by first | omega | (simp; omega) | (simp; done)) _ | refine Below.alloc ?_ (by first | omega | (simp; omega) | (simp; done)) _ | refine Below.drew ?_ | refine below_drewN ?_ _ | refine Below.trans ?_ (Below.mono (by assumption) (by first | omega | (simp; omega) | (simp; done)))))
  have HB2 : Below w.heap.size w W2 := HB1.trans (hB2.mono HB1.size)
  have i0 : W2.cell? ⟨W1.heap.size, 0, none⟩ = some (vi ig) := by rw [hW2]; simp [go_sem]
  have i1 : W2.cell? ⟨W1.heap.size, 1, none⟩ = some (vi is) := by rw [hW2]; simp [go_sem]
  have i2 : W2.cell? ⟨W1.heap.size, 2, none⟩ = some (vi ic) := by rw [hW2]; simp [go_sem]
  have x0 : W2.cell? ⟨W1.heap.size + 1, 0, none⟩ = some (vi xlo) := by rw [hW2]; simp [go_sem]
  have x1' : W2.cell? ⟨W1.heap.size + 1, 1, none⟩ = some (vi xhi) := by rw [hW2]; simp [go_sem]
  have x2' : W2.cell? ⟨W1.heap.size + 1, 2, none⟩ = some (vi xhd) := by rw [hW2]; simp [go_sem]
  have x3' : W2.cell? ⟨W1.heap.size + 1, 3, none⟩ = some (.slice xA xl.length xcap) := by rw [hW2]; simp [go_sem]
  have c02 := cell_keep hB2 c01
  have c12 := cell_keep hB2 c11
  rw [← hW2]
  clear hW2 c01 c11 y0 y1 y2 y3
  refine (to_any _ _ _).mono ?_
  rintro e W3 ⟨rfl, hb3⟩
  have HB3 : Below w.heap.size w W3 := HB2.trans (hb3.mono HB2.size)
  have i03 := cell_keep hb3 i0
  have i13 := cell_keep hb3 i1
  have i23 := cell_keep hb3 i2
  have x03 := cell_keep hb3 x0
  have x13 := cell_keep hb3 x1'
  have x23 := cell_keep hb3 x2'
  have x33 := cell_keep hb3 x3'
  have c03 := cell_keep hb3 c02
  have c13 := cell_keep hb3 c12
  clear hb3 i0 i1 i2 x0 x1' x2' x3' c02 c12 hB2
  go_wp2_with fail
  refine (lot_is HDD.out _ (by omega) (by omega) (by omega) (by omega) (by omega) (by omega) (by omega)).mono ?_
  rintro e W4 ⟨rfl, hb4⟩
  have HB4 : Below w.heap.size w W4 := HB3.trans (hb4.mono HB3.size)
  have i04 := cell_keep hb4 i03
  have i14 := cell_keep hb4 i13
  have i24 := cell_keep hb4 i23
  have x04 := cell_keep hb4 x03
  have x14 := cell_keep hb4 x13
  have x24 := cell_keep hb4 x23
  have x34 := cell_keep hb4 x33
  have c04 := cell_keep hb4 c03
  have c14 := cell_keep hb4 c13
  clear hb4 i03 i13 i23 x03 x13 x23 x33 c03 c13
  go_wp2_with fail
  refine (Price_any ⟨rg, some ⟨bb, off, none⟩, rcap, ri⟩ dd ⟨ig, is, ic⟩ _ (hl.next HB4) (hr.to HB4)).mono ?_
  rintro e W5 ⟨rfl, hb5⟩
  rw [HE.out.1, HE.out.2]
  have HB5 : Below w.heap.size w W5 := HB4.trans (hb5.mono HB4.size)
  have i05 := cell_keep hb5 i04
  have i15 := cell_keep hb5 i14
  have i25 := cell_keep hb5 i24
  have x05 := cell_keep hb5 x04
  have x15 := cell_keep hb5 x14
  have x25 := cell_keep hb5 x24
  have x35 := cell_keep hb5 x34
  have c05 := cell_keep hb5 c04
  have c15 := cell_keep hb5 c14
  clear hb5 i04 i14 i24 x04 x14 x24 x34 c04 c14
  have hxe5 : IssueAt W5 W5.heap.size ⟨xlo, xhi, xhd, xA, xcap, xl⟩ := (hri.to HB5).at_ HX.out
  have hpp := printed_pos (it := ⟨ig, is, ic⟩) HXO.out
  have PA := Lib.hid (printed_any _ ⟨xlo, xhi, xhd, xA, xcap, xl⟩ ⟨ig, is, ic⟩ W5 hxe5 HXO.out hc0 hc3)
  have HOWN := Lib.hid (fun h => HLE.out k ⟨xlo, xhi, xhd, xA, xcap, xl⟩ HX.out h t0 t1)
  obtain ⟨OW, hOW⟩ : ∃ OW, OW = printedF ⟨xlo, xhi, xhd, xA, xcap, xl⟩ ⟨ig, is, ic⟩ := ⟨_, rfl⟩
  rw [← hOW] at PA hpp HOWN
  obtain ⟨ow0, ow1, -, -⟩ := hpp
  clear hOW hxe5
  have hRI : IssuesAt w w.heap.size (some ⟨bb, off, none⟩) rcap ri := hri
  cases PO with
  | none =>
    simp only [Option.isSome_none, Option.isSome_some, Option.getD_none, Option.getD_some, if_true, if_false, reduceIte, Bool.false_eq_true, false_and, imp_false, true_and] at HLE HSAID HOWN ⊢
    have ho0 : OW = 0 := by have := HOWN.out; omega
    subst ho0
    go_wp2_with fail
    refine PA.out.mono ?_
    rintro e W6 ⟨rfl, hb6⟩
    have HB6 : Below w.heap.size w W6 := HB5.trans (hb6.mono HB5.size)
    have i06 := cell_keep hb6 i05
    have i16 := cell_keep hb6 i15
    have i26 := cell_keep hb6 i25
    have c06 := cell_keep hb6 c05
    have c16 := cell_keep hb6 c15
    clear hb6 i05 i15 i25 x05 x15 x25 x35 c05 c15 PA
    go_wp2_with fail
    go_loopw [14, 15] (fun s i wr => ∃ j : Nat, j ≤ ri.length ∧ i = .int .i64 j ∧ s = .bool (saidB ri ⟨ig, is, ic⟩ dd 0 j) ∧ Below W6.heap.size W6 wr) (fun _ i _ => ri.length - (intOf i).toNat)
    case atStart => exact ⟨0, Nat.zero_le _, rfl, by simp [saidB], Below.refl _ _⟩
    obtain ⟨j, hj, rfl, rfl, hC⟩ := hrel
    have HBr : Below w.heap.size w wr := HB6.trans (hC.mono HB6.size)
    have i0r := cell_keep hC i06
    have i1r := cell_keep hC i16
    have i2r := cell_keep hC i26
    have c0r := cell_keep hC c06
    have c1r := cell_keep hC c16
    have z0r := cell_lt i0r
    have z1r := cell_lt c0r
    simp only at z0r z1r
    by_cases hjt : j < ri.length
    · obtain ⟨⟨ylo, yhi, yhd, yA, ycap, yl⟩, hy⟩ : ∃ y, ri[j]? = some y := ⟨_, List.getElem?_eq_getElem hjt⟩
      obtain ⟨-, y0, y1, y2, y3⟩ := row4k (hri.to HBr).row hy rfl
      replace y3 : wr.cell? ⟨bb, off + j * 4 + 3, none⟩ = some (.slice yA yl.length ycap) := y3
      have hye : IssueAt wr wr.heap.size ⟨ylo, yhi, yhd, yA, ycap, yl⟩ := (hri.to HBr).at_ hy
      have hyo := HOK.out.issues _ (List.mem_of_getElem? hy)
      have hjI : (j : Int) < ri.length := by omega
      have h0J : (0 : Int) ≤ j := by omega
      have hbr : bb < wr.heap.size := by have := HBr.size; have := HB1.size; omega
      have hst := said_step (it := ⟨ig, is, ic⟩) (d := dd) (p := 0) hy
      have hle := HLE.out j _ hy
      have hpp := printed_pos (it := ⟨ig, is, ic⟩) hyo
      have PY := fun (w : World) h => printed_any _ ⟨ylo, yhi, yhd, yA, ycap, yl⟩ ⟨ig, is, ic⟩ w h hyo hc0 hc3
      obtain ⟨NW, hNW⟩ : ∃ NW, NW = printedF ⟨ylo, yhi, yhd, yA, ycap, yl⟩ ⟨ig, is, ic⟩ := ⟨_, rfl⟩
      rw [← hNW] at hst hle hpp PY
      obtain ⟨nw0, nw1, -, -⟩ := hpp
      have HLEJ := Lib.hid hle
      have HPY := Lib.hid PY
      obtain ⟨SB, hSB⟩ : ∃ SB, SB = saidB ri ⟨ig, is, ic⟩ dd 0 j := ⟨_, rfl⟩
      rw [← hSB] at hst ⊢
      have HST := Lib.hid hst
      clear hNW hst hle PY hy hSB
      simp only at HLEJ HST
      go_wp2_with fail
      have hba : Below wr.heap.size wr (wr.alloc (.cells #[vi ylo, vi yhi, vi yhd, .slice yA yl.length ycap] 47)) := (Below.refl _ _).alloc (Nat.le_refl _) _
      refine (HPY.out _ (hye.to hba)).mono ?_
      rintro e w7 ⟨rfl, hb7⟩
      have hB7 : Below wr.heap.size wr w7 := hba.trans (hb7.mono hba.size)
      have Y0 : w7.cell? ⟨wr.heap.size, 0, none⟩ = some (vi ylo) := cell_keep hb7 (by simp [go_sem])
      have Y2 : w7.cell? ⟨wr.heap.size, 2, none⟩ = some (vi yhd) := cell_keep hb7 (by simp [go_sem])
      have hC7 := gr_trans hC hB7
      clear hb7 hba HPY hye y0 y1 y2 y3 i0r i1r i2r c0r c1r
      by_cases hn0 : 0 < NW
      · have hg : decide (0 < NW) = true := by simpa using hn0
        by_cases ht : ylo ≤ dd ∧ dd ≤ yhd
        · exact absurd (HLEJ.out hn0 ht.1) (by omega)
        · have hq : (decide (ylo ≤ dd) && decide (dd ≤ yhd)) = false := by simpa using ht
          have HS2 : Hid (saidB ri ⟨ig, is, ic⟩ dd 0 (j + 1) = SB) := by unfold Hid; rw [HST.out, hq]; simp
          go_wp2_with (go_at_call 32; refine (tween_is hq _).mono ?_; rintro e w8 ⟨rfl, rfl⟩)
          go_roundw
          case rel => exact ⟨j + 1, by omega, by go_num, by rw [HS2.out], hC7⟩
          case measure => simp [intOf]; omega
      · have hg : decide (0 < NW) = false := by simpa using hn0
        have HS2 : Hid (saidB ri ⟨ig, is, ic⟩ dd 0 (j + 1) = SB) := by unfold Hid; rw [HST.out, hg]; simp
        go_wp2_with fail
        go_roundw
        case rel => exact ⟨j + 1, by omega, by go_num, by rw [HS2.out], hC7⟩
        case measure => simp [intOf]; omega
    · obtain rfl : j = ri.length := by omega
      rw [HSAID.out]
      go_wp2_with (go_at_call 19; refine (works_any _ (hl.next HBr)).mono ?_; rintro e w9 ⟨rfl, hb9⟩)
      go_ret
      exact ⟨rfl, HBr.trans (hb9.mono HBr.size)⟩
  | some p =>
    simp only [Option.isSome_none, Option.isSome_some, Option.getD_none, Option.getD_some, if_true, if_false, reduceIte, Bool.false_eq_true, false_and, imp_false, true_and] at HLE HSAID HOWN ⊢
    go_wp2_with fail
    refine PA.out.mono ?_
    rintro e W6 ⟨rfl, hb6⟩
    have HB6 : Below w.heap.size w W6 := HB5.trans (hb6.mono HB5.size)
    have i06 := cell_keep hb6 i05
    have i16 := cell_keep hb6 i15
    have i26 := cell_keep hb6 i25
    have c06 := cell_keep hb6 c05
    have c16 := cell_keep hb6 c15
    clear hb6 i05 i15 i25 x05 x15 x25 x35 c05 c15 PA
    go_upto_region 8 with fail
    go_cut [73] from 51 to 72 (fun s8 wx => s8 = .bool false ∧ W6 = wx)
    case first =>
      by_cases ho : 0 < OW
      · have ho2 := HOWN.out ho
        go_wp2_with fail
        go_meet
        case rel => exact ⟨by simp; omega, rfl⟩
      · go_wp2_with fail
        go_meet
        case rel => exact ⟨rfl, rfl⟩
    obtain ⟨rfl, rfl⟩ := hcut
    go_wp2_with fail
    go_loopw [14, 15] (fun s i wr => ∃ j : Nat, j ≤ ri.length ∧ i = .int .i64 j ∧ s = .bool (saidB ri ⟨ig, is, ic⟩ dd p j) ∧ Below W6.heap.size W6 wr) (fun _ i _ => ri.length - (intOf i).toNat)
    case atStart => exact ⟨0, Nat.zero_le _, rfl, by simp [saidB], Below.refl _ _⟩
    obtain ⟨j, hj, rfl, rfl, hC⟩ := hrel
    have HBr : Below w.heap.size w wr := HB6.trans (hC.mono HB6.size)
    have i0r := cell_keep hC i06
    have i1r := cell_keep hC i16
    have i2r := cell_keep hC i26
    have c0r := cell_keep hC c06
    have c1r := cell_keep hC c16
    have z0r := cell_lt i0r
    have z1r := cell_lt c0r
    simp only at z0r z1r
    by_cases hjt : j < ri.length
    · obtain ⟨⟨ylo, yhi, yhd, yA, ycap, yl⟩, hy⟩ : ∃ y, ri[j]? = some y := ⟨_, List.getElem?_eq_getElem hjt⟩
      obtain ⟨-, y0, y1, y2, y3⟩ := row4k (hri.to HBr).row hy rfl
      replace y3 : wr.cell? ⟨bb, off + j * 4 + 3, none⟩ = some (.slice yA yl.length ycap) := y3
      have hye : IssueAt wr wr.heap.size ⟨ylo, yhi, yhd, yA, ycap, yl⟩ := (hri.to HBr).at_ hy
      have hyo := HOK.out.issues _ (List.mem_of_getElem? hy)
      have hjI : (j : Int) < ri.length := by omega
      have h0J : (0 : Int) ≤ j := by omega
      have hbr : bb < wr.heap.size := by have := HBr.size; have := HB1.size; omega
      have hst := said_step (it := ⟨ig, is, ic⟩) (d := dd) (p := p) hy
      have hle := HLE.out j _ hy
      have hpp := printed_pos (it := ⟨ig, is, ic⟩) hyo
      have PY := fun (w : World) h => printed_any _ ⟨ylo, yhi, yhd, yA, ycap, yl⟩ ⟨ig, is, ic⟩ w h hyo hc0 hc3
      obtain ⟨NW, hNW⟩ : ∃ NW, NW = printedF ⟨ylo, yhi, yhd, yA, ycap, yl⟩ ⟨ig, is, ic⟩ := ⟨_, rfl⟩
      rw [← hNW] at hst hle hpp PY
      obtain ⟨nw0, nw1, -, -⟩ := hpp
      have HLEJ := Lib.hid hle
      have HPY := Lib.hid PY
      obtain ⟨SB, hSB⟩ : ∃ SB, SB = saidB ri ⟨ig, is, ic⟩ dd p j := ⟨_, rfl⟩
      rw [← hSB] at hst ⊢
      have HST := Lib.hid hst
      clear hNW hst hle PY hy hSB
      simp only at HLEJ HST
      go_wp2_with fail
      have hba : Below wr.heap.size wr (wr.alloc (.cells #[vi ylo, vi yhi, vi yhd, .slice yA yl.length ycap] 47)) := (Below.refl _ _).alloc (Nat.le_refl _) _
      refine (HPY.out _ (hye.to hba)).mono ?_
      rintro e w7 ⟨rfl, hb7⟩
      have hB7 : Below wr.heap.size wr w7 := hba.trans (hb7.mono hba.size)
      have Y0 : w7.cell? ⟨wr.heap.size, 0, none⟩ = some (vi ylo) := cell_keep hb7 (by simp [go_sem])
      have Y2 : w7.cell? ⟨wr.heap.size, 2, none⟩ = some (vi yhd) := cell_keep hb7 (by simp [go_sem])
      have hC7 := gr_trans hC hB7
      clear hb7 hba HPY hye y0 y1 y2 y3 i0r i1r i2r c0r c1r
      by_cases hn0 : 0 < NW
      · have hg : decide (0 < NW) = true := by simpa using hn0
        by_cases ht : ylo ≤ dd ∧ dd ≤ yhd
        · have hpn := HLEJ.out hn0 ht.1 ht.2
          have HS2 : Hid (saidB ri ⟨ig, is, ic⟩ dd p (j + 1) = (SB || (NW == p))) := by unfold Hid; rw [HST.out]; simp [hn0, ht]
          have hlt : decide (NW < p) = false := by simp; omega
          go_wp2_with (go_at_call 32; refine (tween_yes _ _ _ _ (by omega) (by omega)).mono ?_; rintro e w8 ⟨rfl, rfl⟩)
          all_goals (rename_i hsb; refine ⟨⟨j + 1, by omega, by go_num, by rw [HS2.out]; simp [hsb], hC7⟩, by simp [intOf]; omega⟩)
        · have hq : (decide (ylo ≤ dd) && decide (dd ≤ yhd)) = false := by simpa using ht
          have HS2 : Hid (saidB ri ⟨ig, is, ic⟩ dd p (j + 1) = SB) := by unfold Hid; rw [HST.out, hq]; simp
          go_wp2_with (go_at_call 32; refine (tween_is hq _).mono ?_; rintro e w8 ⟨rfl, rfl⟩)
          go_roundw
          case rel => exact ⟨j + 1, by omega, by go_num, by rw [HS2.out], hC7⟩
          case measure => simp [intOf]; omega
      · have hg : decide (0 < NW) = false := by simpa using hn0
        have HS2 : Hid (saidB ri ⟨ig, is, ic⟩ dd p (j + 1) = SB) := by unfold Hid; rw [HST.out, hg]; simp
        go_wp2_with fail
        go_roundw
        case rel => exact ⟨j + 1, by omega, by go_num, by rw [HS2.out], hC7⟩
        case measure => simp [intOf]; omega
    · obtain rfl : j = ri.length := by omega
      rw [HSAID.out]
      go_wp2_with (go_at_call 19; refine (works_any _ (hl.next HBr)).mono ?_; rintro e w9 ⟨rfl, hb9⟩)
      go_ret
      exact ⟨rfl, HBr.trans (hb9.mono HBr.size)⟩
end Go.Proofs.YtpcajmkmmkmekaaDoor
