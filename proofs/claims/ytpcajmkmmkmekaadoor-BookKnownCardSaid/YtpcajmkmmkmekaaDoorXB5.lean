/- Contract of BookBack: it answers true. -/
import Derived.Test.YtpcajmkmmkmekaaDoorXK5
import Derived.Test.YtpcajmkmmkmekaaDoorGp
import Derived.Test.YtpcajmkmmkmekaaDoorGq
set_option linter.unusedVariables false
set_option linter.unusedSimpArgs false
namespace Go.Proofs.YtpcajmkmmkmekaaDoor
open Go Go.RowKit
set_option maxHeartbeats 8000000
theorem row4k {w : World} {B b off : Nat} {α : Type} {enc : α → List Value} {l : List α} (h : RowAt w B 4 (some ⟨b, off, none⟩) (l.map enc)) {k : Nat} {x : α} {c0 c1 c2 c3 : Value} (hx : l[k]? = some x) (he : enc x = [c0, c1, c2, c3]) :
    b < B ∧ w.cell? ⟨b, off + k * 4, none⟩ = some c0 ∧ w.cell? ⟨b, off + k * 4 + 1, none⟩ = some c1 ∧ w.cell? ⟨b, off + k * 4 + 2, none⟩ = some c2 ∧ w.cell? ⟨b, off + k * 4 + 3, none⟩ = some c3 := by
  obtain ⟨b', off', e, h1, h2⟩ := row4 h hx he
  cases e
  exact ⟨h1, h2⟩
set_option maxRecDepth 100000 in
theorem back_no (r : Rack) (n0 n1 n2 : Int) (w : World) (hl : Lim w) (hr : RackAt w w.heap.size r) (hv : validB r = false) :
    Calls Tryd.prog 5 #[r.val, .agg #[vi n0, vi n1, vi n2]] w fun e w' => e = .returned (.bool true) ∧ Below w.heap.size w w' := by
  go_enter Tryd.func5, Tryd.ntmps5
  go_wp2_with (first | (go_at_call 20; refine (sound_no r _ (by repeat (first | assumption | refine Lim.alloc ?_ _ | refine Lim.setCell ?_ (by first | (simp; done) | (simp; omega) | omega) _ | refine Lim.drew ?_)) (hr.to (by (repeat (first | exact Below.refl _ _ | refine Below.setCell ?_ (by first | omega | (simp; omega) | (simp; done)) _ | refine Below.alloc ?_ (by first | omega | (simp; omega) | (simp; done)) _ | refine Below.drew ?_ | refine below_drewN ?_ _ | refine Below.trans ?_ (Below.mono (by assumption) (by first | omega | (simp; omega) | (simp; done))))))) hv).mono ?_; rintro e w1 ⟨rfl, hb1⟩; obtain ⟨⟨hc1, hf1, hs1⟩, hz1⟩ := after hb1; (try simp only [World.size_alloc, World.size_setCell, World.size_drew] at hz1); have hl1 : Lim w1 := Lim.next (by repeat (first | assumption | refine Lim.alloc ?_ _ | refine Lim.setCell ?_ (by first | (simp; done) | (simp; omega) | omega) _ | refine Lim.drew ?_)) hb1) | (go_at_call 19; refine (works_any _ (by repeat (first | assumption | refine Lim.alloc ?_ _ | refine Lim.setCell ?_ (by first | (simp; done) | (simp; omega) | omega) _ | refine Lim.drew ?_))).mono ?_; rintro e w1 ⟨rfl, hb1⟩; obtain ⟨⟨hc1, hf1, hs1⟩, hz1⟩ := after hb1; (try simp only [World.size_alloc, World.size_setCell, World.size_drew] at hz1); have hl1 : Lim w1 := Lim.next (by repeat (first | assumption | refine Lim.alloc ?_ _ | refine Lim.setCell ?_ (by first | (simp; done) | (simp; omega) | omega) _ | refine Lim.drew ?_)) hb1))
  go_ret
  refine ⟨rfl, ?_⟩
  (repeat (first | exact Below.refl _ _ | refine Below.setCell ?_ (by first | omega | (simp; omega) | (simp; done)) _ | refine Below.alloc ?_ (by first | omega | (simp; omega) | (simp; done)) _ | refine Below.drew ?_ | refine below_drewN ?_ _ | refine Below.trans ?_ (Below.mono (by assumption) (by first | omega | (simp; omega) | (simp; done)))))
set_option maxRecDepth 100000 in
theorem back_yes (r : Rack) (n0 n1 n2 : Int) (w : World) (hl : Lim w) (hr : RackAt w w.heap.size r) (hv : validB r = true)
    (a0 : -9223372036854775808 ≤ n0) (a1 : n0 ≤ 9223372036854775807) (b0 : -9223372036854775808 ≤ n1) (b1 : n1 ≤ 9223372036854775807) (d0 : -9223372036854775808 ≤ n2) (d1 : n2 ≤ 9223372036854775807) :
    Calls Tryd.prog 5 #[r.val, .agg #[vi n0, vi n1, vi n2]] w fun e w' => e = .returned (.bool true) ∧ Below w.heap.size w w' := by
  obtain ⟨rg, rA, rcap, ri⟩ := r
  have hok := rack_ok hv
  have k1 : 1 ≤ ri.length := hok.n1
  have k2 : ri.length ≤ 4 := hok.n2
  have hcap := IssuesAt.cap hr
  have hfew := IssuesAt.few hr
  have hlen := IssuesAt.len hr
  have hri : IssuesAt w w.heap.size rA rcap ri := hr
  obtain ⟨p0, p1⟩ := spin_range n0 ri.length (by omega)
  obtain ⟨q0, q1⟩ := spin_range n1 ri.length (by omega)
  obtain ⟨ka, hka⟩ := Int.eq_ofNat_of_zero_le p0
  obtain ⟨kb, hkb⟩ := Int.eq_ofNat_of_zero_le q0
  rw [hka] at p1
  rw [hkb] at q1
  have kaL : ka < ri.length := by omega
  have kbL : kb < ri.length := by omega
  obtain ⟨⟨xlo, xhi, xhd, xA, xcap, xl⟩, hx⟩ : ∃ x, ri[ka]? = some x := ⟨_, List.getElem?_eq_getElem kaL⟩
  obtain ⟨⟨zlo, zhi, zhd, zA, zcap, zl⟩, hz⟩ : ∃ z, ri[kb]? = some z := ⟨_, List.getElem?_eq_getElem kbL⟩
  have hxo := hok.issues _ (List.mem_of_getElem? hx)
  have hzo := hok.issues _ (List.mem_of_getElem? hz)
  obtain ⟨bb, off, rfl, hbb, -⟩ := row4 hri.row hx rfl
  have OK := Lib.hid hok
  have HX := Lib.hid hx
  have HZ := Lib.hid hz
  have HXO := Lib.hid hxo
  have HZO := Lib.hid hzo
  clear hok p0 q0 hx hz hxo hzo
  have p0 : (0 : Int) ≤ ka := by omega
  have q0 : (0 : Int) ≤ kb := by omega
  go_enter Tryd.func5, Tryd.ntmps5
  go_wp2_with fail
  refine (sound_yes ⟨rg, some ⟨bb, off, none⟩, rcap, ri⟩ _ (by repeat (first | assumption | refine Lim.alloc ?_ _ | refine Lim.setCell ?_ (by first | (simp; done) | (simp; omega) | omega) _ | refine Lim.drew ?_)) (hr.to (by (repeat (first | exact Below.refl _ _ | refine Below.setCell ?_ (by first | omega | (simp; omega) | (simp; done)) _ | refine Below.alloc ?_ (by first | omega | (simp; omega) | (simp; done)) _ | refine Below.drew ?_ | refine below_drewN ?_ _ | refine Below.trans ?_ (Below.mono (by assumption) (by first | omega | (simp; omega) | (simp; done))))))) hv).mono ?_
  rintro e W ⟨rfl, hb⟩
  have HB0 : Below w.heap.size w W := by (repeat (first | exact Below.refl _ _ | refine Below.setCell ?_ (by first | omega | (simp; omega) | (simp; done)) _ | refine Below.alloc ?_ (by first | omega | (simp; omega) | (simp; done)) _ | refine Below.drew ?_ | refine below_drewN ?_ _ | refine Below.trans ?_ (Below.mono (by assumption) (by first | omega | (simp; omega) | (simp; done)))))
  have c0 : W.cell? ⟨w.heap.size, 0, none⟩ = some (vi rg) := (hb.cell (p := ⟨w.heap.size, 0, none⟩) (by first | omega | (simp; omega) | (simp; done))).trans (by simp [go_sem])
  have c1 : W.cell? ⟨w.heap.size, 1, none⟩ = some (.slice (some ⟨bb, off, none⟩) ri.length rcap) := (hb.cell (p := ⟨w.heap.size, 1, none⟩) (by first | omega | (simp; omega) | (simp; done))).trans (by simp [go_sem])
  have m0 : W.cell? ⟨w.heap.size + 1, 0, none⟩ = some (vi n0) := (hb.cell (p := ⟨w.heap.size + 1, 0, none⟩) (by first | omega | (simp; omega) | (simp; done))).trans (by simp [go_sem])
  have m1 : W.cell? ⟨w.heap.size + 1, 1, none⟩ = some (vi n1) := (hb.cell (p := ⟨w.heap.size + 1, 1, none⟩) (by first | omega | (simp; omega) | (simp; done))).trans (by simp [go_sem])
  have m2 : W.cell? ⟨w.heap.size + 1, 2, none⟩ = some (vi n2) := (hb.cell (p := ⟨w.heap.size + 1, 2, none⟩) (by first | omega | (simp; omega) | (simp; done))).trans (by simp [go_sem])
  have z0 : w.heap.size < W.heap.size := by have := hb.size; simp at this; omega
  have z1 : w.heap.size + 1 < W.heap.size := by have := hb.size; simp at this; omega
  have zz := HB0.size
  clear hb
  go_wp2_with fail
  (refine wp_region_grow_lit (by kernel_rfl) (by kernel_rfl) ?_; (repeat (go_big_quiet_step ((go_at_call 21; refine Calls.grow_same (spin_any _ _ _ (by omega) (by omega) (by omega)))))); refine wpQuiet_nil ?_; intro w1 hw1; have hb1 := below_of_plus hw1; clear hw1; obtain ⟨⟨hc1, hf1, hs1⟩, hz1⟩ := after hb1; (try simp only [World.size_alloc, World.size_setCell, World.size_drew] at hz1))
  obtain ⟨W1, rfl⟩ : ∃ W1, W1 = w1 := ⟨_, rfl⟩
  have HB1 : Below w.heap.size w W1 := HB0.trans (hb1.mono zz)
  have c10 := (hb1.cell (p := ⟨w.heap.size, 0, none⟩) z0).trans c0
  have c11 := (hb1.cell (p := ⟨w.heap.size, 1, none⟩) z0).trans c1
  have m12 := (hb1.cell (p := ⟨w.heap.size + 1, 2, none⟩) z1).trans m2
  obtain ⟨zbb, x0, x1, x2, x3⟩ := row4k (hri.to HB1).row HX.out rfl
  replace x3 : W1.cell? ⟨bb, off + ka * 4 + 3, none⟩ = some (.slice xA xl.length xcap) := x3
  have zw : w.heap.size < W1.heap.size := by omega
  have zw2 : w.heap.size + 1 < W1.heap.size := by omega
  have hxe : EntriesAt W1 w.heap.size xA xcap xl := (hri.below HB1).at_ HX.out
  have xcap2 := hxe.cap
  have xlen2 := hxe.len
  clear hc1 hf1 hs1 hb1 c0 c1 m0 m1 m2
  by_cases hx0 : xl.length = 0
  · obtain rfl : xl = [] := List.eq_nil_of_length_eq_zero hx0
    obtain ⟨t0, t1⟩ := spin_range n2 9999 (by omega)
    have hE : numErr ⟨rg, some ⟨bb, off, none⟩, rcap, ri⟩ ka (1 + spinI n2 9999) kb = 4 := by
      have h1 : numAsk ⟨rg, some ⟨bb, off, none⟩, rcap, ri⟩ ka (1 + spinI n2 9999) kb = true := numAsk_at kaL kbL (by omega) (by omega)
      have h2 : numO ⟨rg, some ⟨bb, off, none⟩, rcap, ri⟩ ka (1 + spinI n2 9999) kb = none := by
        simp [numO, goodsF, HX.out, numGood]
      simp [numErr, hv, h1, h2]
    clear xlen2 hx0
    go_wp2_with fail
    (refine wp_region_grow_lit (by kernel_rfl) (by kernel_rfl) ?_; (repeat (go_big_quiet_step (first | (go_at_call 21; refine Calls.grow_same (spin_any _ _ _ (by omega) (by omega) (by omega))) | (go_at_call 25; refine Calls.grow_of (number_any ⟨rg, some ⟨bb, off, none⟩, rcap, ri⟩ _ _ _ _ (hl.next (HB1.trans ((plus_below W1 _).mono HB1.size))) (hr.to (HB1.trans ((plus_below W1 _).mono HB1.size)))))))); refine wpQuiet_nil ?_; intro w1 hw1; have hb1 := below_of_plus hw1; clear hw1; obtain ⟨⟨hc1, hf1, hs1⟩, hz1⟩ := after hb1; (try simp only [World.size_alloc, World.size_setCell, World.size_drew] at hz1))
    obtain ⟨W2, rfl⟩ : ∃ W2, W2 = w1 := ⟨_, rfl⟩
    have HB2 : Below w.heap.size w W2 := HB1.trans (hb1.mono HB1.size)
    clear hc1 hf1 hs1 hb1
    go_wp2_with (go_at_call 19; refine (works_any _ (hl.next HB2)).mono ?_; rintro e w3 ⟨rfl, hb3⟩)
    go_ret
    exact ⟨rfl, HB2.trans (hb3.mono HB2.size)⟩
  · obtain ⟨s0, s1⟩ := spin_range n2 xl.length (by omega)
    obtain ⟨ky, hky⟩ := Int.eq_ofNat_of_zero_le s0
    rw [hky] at s1
    have kyL : ky < xl.length := by omega
    obtain ⟨⟨yn, yg, yc, yA, ycap, yl⟩, hy⟩ : ∃ y, xl[ky]? = some y := ⟨_, List.getElem?_eq_getElem kyL⟩
    obtain ⟨yb, yoff, rfl, hyb, y0, y1, y2, y3⟩ := row4 hxe.row hy rfl
    have hyo := HXO.out.entries _ (List.mem_of_getElem? hy)
    have u1 := hyo.n1
    have u2 := hyo.n2
    simp only at u1 u2
    have hxlI : ((xl.length : Int) == 0) = false := by rw [beq_eq_false_iff_ne]; omega
    have hkI : (ky : Int) < xl.length := by omega
    have h0I : (0 : Int) ≤ ky := by omega
    have zyb : yb < W1.heap.size := by omega
    have EY := find_gd HXO.out hy
    have N1 := numO_at OK.out HX.out HX.out hy
    have N2 := numO_at OK.out HX.out HZ.out hy
    simp only at N1 N2 EY
    rw [EY] at N1
    have A1 := numAsk_at (r := ⟨rg, some ⟨bb, off, none⟩, rcap, ri⟩) (n := yn) kaL kaL u1 u2
    have A2 := numAsk_at (r := ⟨rg, some ⟨bb, off, none⟩, rcap, ri⟩) (n := yn) kaL kbL u1 u2
    have E1 : Hid (numErr ⟨rg, some ⟨bb, off, none⟩, rcap, ri⟩ ka yn ka = 0 ∧ numV ⟨rg, some ⟨bb, off, none⟩, rcap, ri⟩ ka yn ka = yn) := by simp [numErr, numV, hv, A1, N1, Hid]
    have HY := Lib.hid hy
    clear hy hyo A1 N1 EY
    go_wp2_with fail
    refine (spin_any n2 xl.length _ d0 d1 (by omega)).mono ?_
    rintro e w3 ⟨rfl, rfl⟩
    rw [hky]
    go_wp2_with fail
    obtain ⟨W2, hW2⟩ : ∃ W2, W2 = W1.alloc (.cells #[vi yn, vi yg, vi yc, .slice yA yl.length ycap] 50) := ⟨_, rfl⟩
    have hBW2 : Below W1.heap.size W1 W2 := by rw [hW2]; exact (Below.refl _ _).alloc (Nat.le_refl _) _
    have HB2 : Below w.heap.size w W2 := HB1.trans (hBW2.mono HB1.size)
    have zW2 : W1.heap.size < W2.heap.size := by rw [hW2]; simp
    have v0 : W2.cell? ⟨W1.heap.size, 0, none⟩ = some (vi yn) := by rw [hW2]; simp [go_sem]
    have v1 : W2.cell? ⟨W1.heap.size, 1, none⟩ = some (vi yg) := by rw [hW2]; simp [go_sem]
    rw [← hW2]
    clear hW2 y0 y1 y2 y3 x0 x1 x2 x3
    refine (number_any ⟨rg, some ⟨bb, off, none⟩, rcap, ri⟩ _ _ _ _ (hl.next HB2) (hr.to HB2)).mono ?_
    rintro e W3 ⟨rfl, hb3⟩
    rw [E1.out.1, E1.out.2]
    have HB3 : Below w.heap.size w W3 := HB2.trans (hb3.mono HB2.size)
    have hBW3 : Below W1.heap.size W1 W3 := hBW2.trans (hb3.mono hBW2.size)
    have v03 := (hb3.cell (p := ⟨W1.heap.size, 0, none⟩) zW2).trans v0
    have v13 := (hb3.cell (p := ⟨W1.heap.size, 1, none⟩) zW2).trans v1
    have c30 := (hBW3.cell (p := ⟨w.heap.size, 0, none⟩) zw).trans c10
    have c31 := (hBW3.cell (p := ⟨w.heap.size, 1, none⟩) zw).trans c11
    have zW3 : W1.heap.size < W3.heap.size := by have := hb3.size; omega
    have zw3 : w.heap.size < W3.heap.size := by omega
    clear hb3 v0 v1 c10 c11 m12
    have hzlen : zl.length ≤ 24 := HZO.out.n1
    rcases hfz : (zl.find? fun o => o.good == yg) with _ | o
    · rw [hfz] at N2
      have E2 : Hid (numErr ⟨rg, some ⟨bb, off, none⟩, rcap, ri⟩ ka yn kb = 4 ∧ numV ⟨rg, some ⟨bb, off, none⟩, rcap, ri⟩ ka yn kb = 0) := by simp [numErr, numV, hv, A2, N2, Hid]
      have ET : Hid (thereOf zl yg = 0) := there_none hfz
      clear N2 A2 hfz
      go_wp2_with fail
      refine (number_any ⟨rg, some ⟨bb, off, none⟩, rcap, ri⟩ _ _ _ _ (hl.next HB3) (hr.to HB3)).mono ?_
      rintro e W4 ⟨rfl, hb4⟩
      rw [E2.out.1, E2.out.2]
      have HB4 : Below w.heap.size w W4 := HB3.trans (hb4.mono HB3.size)
      have v04 := (hb4.cell (p := ⟨W1.heap.size, 0, none⟩) zW3).trans v03
      have v14 := (hb4.cell (p := ⟨W1.heap.size, 1, none⟩) zW3).trans v13
      have c40 := (hb4.cell (p := ⟨w.heap.size, 0, none⟩) zw3).trans c30
      have c41 := (hb4.cell (p := ⟨w.heap.size, 1, none⟩) zw3).trans c31
      have zy4 : W1.heap.size < W4.heap.size := by have := hb4.size; omega
      have zw4 : w.heap.size < W4.heap.size := by omega
      have hz4 : EntriesAt W4 w.heap.size zA zcap zl := (hri.below HB4).at_ HZ.out
      have zcap4 := hz4.cap
      have zlen4 := hz4.len
      have hzI : (zl.length : Int) ≤ 24 := by omega
      clear hb4 v03 v13 c30 c31
      go_wp2_with fail
      go_loopw [15, 16] (fun t i wr => ∃ j : Nat, j ≤ zl.length ∧ i = .int .i64 j ∧ t = vi (thereOf (zl.take j) yg) ∧ Below W4.heap.size W4 wr) (fun _ i _ => zl.length - (intOf i).toNat)
      case atStart => exact ⟨0, Nat.zero_le _, rfl, by simp [thereOf], Below.refl _ _⟩
      obtain ⟨j, hj, rfl, rfl, hC⟩ := hrel
      have HBr : Below w.heap.size w wr := HB4.trans (hC.mono HB4.size)
      have v0r := (hC.cell (p := ⟨W1.heap.size, 0, none⟩) zy4).trans v04
      have v1r := (hC.cell (p := ⟨W1.heap.size, 1, none⟩) zy4).trans v14
      have c0r := (hC.cell (p := ⟨w.heap.size, 0, none⟩) zw4).trans c40
      have c1r := (hC.cell (p := ⟨w.heap.size, 1, none⟩) zw4).trans c41
      have zyr : W1.heap.size < wr.heap.size := by have := hC.size; omega
      have zwr : w.heap.size < wr.heap.size := by omega
      obtain ⟨-, g0, g1, g2, g3⟩ := row4k (hri.below HBr).row HZ.out rfl
      replace g3 : wr.cell? ⟨bb, off + kb * 4 + 3, none⟩ = some (.slice zA zl.length zcap) := g3
      have zbr : bb < wr.heap.size := by omega
      by_cases hlt : j < zl.length
      · obtain ⟨⟨en, eg, ec, eA, ecap, el⟩, he⟩ : ∃ e, zl[j]? = some e := ⟨_, List.getElem?_eq_getElem hlt⟩
        have hzr : EntriesAt wr w.heap.size zA zcap zl := (hri.below HBr).at_ HZ.out
        obtain ⟨qb, qoff, rfl, hqb, e0, e1, e2, e3⟩ := row4 hzr.row he rfl
        have zqb : qb < wr.heap.size := by omega
        have hjI : (j : Int) < zl.length := by omega
        have h0J : (0 : Int) ≤ j := by omega
        have hst := there_step (g := yg) he
        rcases hg : (eg == yg) with _ | _
        · have HST : Hid (thereOf (zl.take (j + 1)) yg = thereOf (zl.take j) yg) := by unfold Hid; rw [hst]; simp [hg]
          clear hst he
          go_wp2_with fail
          (refine wp_region_grow_lit (by kernel_rfl) (by kernel_rfl) ?_; (repeat (go_big_quiet_step (fail))); refine wpQuiet_nil ?_; intro w1 hw1; have hb1 := below_of_plus hw1; clear hw1; obtain ⟨⟨hc1, hf1, hs1⟩, hz1⟩ := after hb1; (try simp only [World.size_alloc, World.size_setCell, World.size_drew] at hz1))
          go_wp2
          go_roundw
          case rel => exact ⟨j + 1, by omega, by go_num, by rw [HST.out], hC.trans (hb1.mono hC.size)⟩
          case measure => simp [intOf]; omega
        · have HST : Hid (thereOf (zl.take (j + 1)) yg = en) := by unfold Hid; rw [hst]; simp [hg]
          clear hst he
          go_wp2_with fail
          (refine wp_region_grow_lit (by kernel_rfl) (by kernel_rfl) ?_; (repeat (go_big_quiet_step (fail))); refine wpQuiet_nil ?_; intro w1 hw1; have hb1 := below_of_plus hw1; clear hw1; obtain ⟨⟨hc1, hf1, hs1⟩, hz1⟩ := after hb1; (try simp only [World.size_alloc, World.size_setCell, World.size_drew] at hz1))
          go_wp2
          go_roundw
          case rel => exact ⟨j + 1, by omega, by go_num, by rw [HST.out], hC.trans (hb1.mono hC.size)⟩
          case measure => simp [intOf]; omega
      · obtain rfl : j = zl.length := by omega
        have ET2 : Hid (thereOf (zl.take zl.length) yg = thereOf zl yg) := by rw [List.take_length]; rfl
        rw [ET2.out, ET.out]
        go_wp2_with (go_at_call 19; refine (works_any _ (hl.next HBr)).mono ?_; rintro e w9 ⟨rfl, hb9⟩)
        go_ret
        exact ⟨rfl, HBr.trans (hb9.mono HBr.size)⟩
    · rw [hfz] at N2
      have E2 : Hid (numErr ⟨rg, some ⟨bb, off, none⟩, rcap, ri⟩ ka yn kb = 0 ∧ numV ⟨rg, some ⟨bb, off, none⟩, rcap, ri⟩ ka yn kb = o.number) := by simp [numErr, numV, hv, A2, N2, Hid]
      have ET : Hid (thereOf zl yg = o.number) := there_some HZO.out hfz
      obtain ⟨ko, hko⟩ := List.getElem?_of_mem (List.mem_of_find?_eq_some hfz)
      have hog : o.good = yg := by have := List.find?_some hfz; simpa using this
      have hoo := HZO.out.entries _ (List.mem_of_getElem? hko)
      have N3 := numO_at OK.out HZ.out HX.out hko
      rw [hog] at N3
      have EY := find_gd HXO.out HY.out
      simp only at N3 EY
      rw [EY] at N3
      have A3 := numAsk_at (r := ⟨rg, some ⟨bb, off, none⟩, rcap, ri⟩) (n := o.number) kbL kaL hoo.n1 hoo.n2
      have E3 : Hid (numErr ⟨rg, some ⟨bb, off, none⟩, rcap, ri⟩ kb o.number ka = 0 ∧ numV ⟨rg, some ⟨bb, off, none⟩, rcap, ri⟩ kb o.number ka = yn) := by simp [numErr, numV, hv, A3, N3, Hid]
      clear N2 A2 hfz N3 EY A3 hko hog hoo
      go_wp2_with fail
      refine (number_any ⟨rg, some ⟨bb, off, none⟩, rcap, ri⟩ _ _ _ _ (hl.next HB3) (hr.to HB3)).mono ?_
      rintro e W4 ⟨rfl, hb4⟩
      rw [E2.out.1, E2.out.2]
      have HB4 : Below w.heap.size w W4 := HB3.trans (hb4.mono HB3.size)
      have v04 := (hb4.cell (p := ⟨W1.heap.size, 0, none⟩) zW3).trans v03
      have v14 := (hb4.cell (p := ⟨W1.heap.size, 1, none⟩) zW3).trans v13
      have c40 := (hb4.cell (p := ⟨w.heap.size, 0, none⟩) zw3).trans c30
      have c41 := (hb4.cell (p := ⟨w.heap.size, 1, none⟩) zw3).trans c31
      have zy4 : W1.heap.size < W4.heap.size := by have := hb4.size; omega
      have zw4 : w.heap.size < W4.heap.size := by omega
      have hz4 : EntriesAt W4 w.heap.size zA zcap zl := (hri.below HB4).at_ HZ.out
      have zcap4 := hz4.cap
      have zlen4 := hz4.len
      have hzI : (zl.length : Int) ≤ 24 := by omega
      clear hb4 v03 v13 c30 c31
      go_wp2_with fail
      go_loopw [15, 16] (fun t i wr => ∃ j : Nat, j ≤ zl.length ∧ i = .int .i64 j ∧ t = vi (thereOf (zl.take j) yg) ∧ Below W4.heap.size W4 wr) (fun _ i _ => zl.length - (intOf i).toNat)
      case atStart => exact ⟨0, Nat.zero_le _, rfl, by simp [thereOf], Below.refl _ _⟩
      obtain ⟨j, hj, rfl, rfl, hC⟩ := hrel
      have HBr : Below w.heap.size w wr := HB4.trans (hC.mono HB4.size)
      have v0r := (hC.cell (p := ⟨W1.heap.size, 0, none⟩) zy4).trans v04
      have v1r := (hC.cell (p := ⟨W1.heap.size, 1, none⟩) zy4).trans v14
      have c0r := (hC.cell (p := ⟨w.heap.size, 0, none⟩) zw4).trans c40
      have c1r := (hC.cell (p := ⟨w.heap.size, 1, none⟩) zw4).trans c41
      have zyr : W1.heap.size < wr.heap.size := by have := hC.size; omega
      have zwr : w.heap.size < wr.heap.size := by omega
      obtain ⟨-, g0, g1, g2, g3⟩ := row4k (hri.below HBr).row HZ.out rfl
      replace g3 : wr.cell? ⟨bb, off + kb * 4 + 3, none⟩ = some (.slice zA zl.length zcap) := g3
      have zbr : bb < wr.heap.size := by omega
      by_cases hlt : j < zl.length
      · obtain ⟨⟨en, eg, ec, eA, ecap, el⟩, he⟩ : ∃ e, zl[j]? = some e := ⟨_, List.getElem?_eq_getElem hlt⟩
        have hzr : EntriesAt wr w.heap.size zA zcap zl := (hri.below HBr).at_ HZ.out
        obtain ⟨qb, qoff, rfl, hqb, e0, e1, e2, e3⟩ := row4 hzr.row he rfl
        have zqb : qb < wr.heap.size := by omega
        have hjI : (j : Int) < zl.length := by omega
        have h0J : (0 : Int) ≤ j := by omega
        have hst := there_step (g := yg) he
        rcases hg : (eg == yg) with _ | _
        · have HST : Hid (thereOf (zl.take (j + 1)) yg = thereOf (zl.take j) yg) := by unfold Hid; rw [hst]; simp [hg]
          clear hst he
          go_wp2_with fail
          (refine wp_region_grow_lit (by kernel_rfl) (by kernel_rfl) ?_; (repeat (go_big_quiet_step (fail))); refine wpQuiet_nil ?_; intro w1 hw1; have hb1 := below_of_plus hw1; clear hw1; obtain ⟨⟨hc1, hf1, hs1⟩, hz1⟩ := after hb1; (try simp only [World.size_alloc, World.size_setCell, World.size_drew] at hz1))
          go_wp2
          go_roundw
          case rel => exact ⟨j + 1, by omega, by go_num, by rw [HST.out], hC.trans (hb1.mono hC.size)⟩
          case measure => simp [intOf]; omega
        · have HST : Hid (thereOf (zl.take (j + 1)) yg = en) := by unfold Hid; rw [hst]; simp [hg]
          clear hst he
          go_wp2_with fail
          (refine wp_region_grow_lit (by kernel_rfl) (by kernel_rfl) ?_; (repeat (go_big_quiet_step (fail))); refine wpQuiet_nil ?_; intro w1 hw1; have hb1 := below_of_plus hw1; clear hw1; obtain ⟨⟨hc1, hf1, hs1⟩, hz1⟩ := after hb1; (try simp only [World.size_alloc, World.size_setCell, World.size_drew] at hz1))
          go_wp2
          go_roundw
          case rel => exact ⟨j + 1, by omega, by go_num, by rw [HST.out], hC.trans (hb1.mono hC.size)⟩
          case measure => simp [intOf]; omega
      · obtain rfl : j = zl.length := by omega
        have ET2 : Hid (thereOf (zl.take zl.length) yg = thereOf zl yg) := by rw [List.take_length]; rfl
        rw [ET2.out, ET.out]
        go_wp2_with fail
        refine (number_any ⟨rg, some ⟨bb, off, none⟩, rcap, ri⟩ _ _ _ _ (hl.next HBr) (hr.to HBr)).mono ?_
        rintro e W6 ⟨rfl, hb6⟩
        rw [E3.out.1, E3.out.2]
        have HB6 : Below w.heap.size w W6 := HBr.trans (hb6.mono HBr.size)
        have v06 := (hb6.cell (p := ⟨W1.heap.size, 0, none⟩) zyr).trans v0r
        have zy6 : W1.heap.size < W6.heap.size := by have := hb6.size; omega
        clear hb6
        go_wp2_with (go_at_call 19; refine (works_any _ (hl.next HB6)).mono ?_; rintro e w9 ⟨rfl, hb9⟩)
        go_ret
        exact ⟨rfl, HB6.trans (hb9.mono HB6.size)⟩
end Go.Proofs.YtpcajmkmmkmekaaDoor
