/- Contract of some: an item of a valid rack that numbers choose, and its book. -/
import Derived.Test.YtpcajmkmmkmekaaDoorXK8
import Derived.Test.YtpcajmkmmkmekaaDoorGb
set_option linter.unusedVariables false
set_option linter.unusedSimpArgs false
namespace Go.Proofs.YtpcajmkmmkmekaaDoor
open Go Go.RowKit
set_option maxHeartbeats 8000000
theorem stays_spare {n0 L : Nat} {W : World} (hn : n0 ≤ W.heap.size) : Stays (fun w' => Spare n0 L W w') := fun _ _ h h' => h.trans (spare_of_below L h' (Nat.le_trans hn h.size))
theorem spare_set {n0 L : Nat} {W w : World} (h : Spare n0 L W w) {p : Addr} (hp : p.block = L) (v : Value) : Spare n0 L W (w.setCell p v) :=
  h.trans ⟨rfl, rfl, rfl, by simp [World.setCell], fun k _ hl => Below.heap_setCell _ _ _ _ (by rw [hp]; exact hl)⟩
theorem spin_is {n m v : Int} (h : spinI n m = v) (w : World) (h0 : -9223372036854775808 ≤ n) (h1 : n ≤ 9223372036854775807) (h2 : m ≤ 9223372036854775807) :
    Calls Tryd.prog 21 #[vi n, vi m] w fun e w' => e = .returned (vi v) ∧ w = w' := by
  subst h
  exact spin_any n m w h0 h1 h2
theorem set4_below {B : Nat} {w w1 : World} (h : Below B w w1) {L : Nat} (hL : B ≤ L) (a b c d : Value) : Below B w ((((w1.setCell ⟨L, 0, none⟩ a).setCell ⟨L, 1, none⟩ b).setCell ⟨L, 2, none⟩ c).setCell ⟨L, 3, none⟩ d) :=
  (((h.setCell (p := ⟨L, 0, none⟩) hL a).setCell (p := ⟨L, 1, none⟩) hL b).setCell (p := ⟨L, 2, none⟩) hL c).setCell (p := ⟨L, 3, none⟩) hL d
theorem set3_below {B : Nat} {w w1 : World} (h : Below B w w1) {L : Nat} (hL : B ≤ L) (a b c : Value) : Below B w (((w1.setCell ⟨L, 0, none⟩ a).setCell ⟨L, 1, none⟩ b).setCell ⟨L, 2, none⟩ c) :=
  ((h.setCell (p := ⟨L, 0, none⟩) hL a).setCell (p := ⟨L, 1, none⟩) hL b).setCell (p := ⟨L, 2, none⟩) hL c
set_option maxRecDepth 100000 in
theorem some_any (r : Rack) (n0 n1 n2 n3 : Int) (w : World) (hr : RackAt w w.heap.size r) (hok : RackOk r)
    (a0 : -9223372036854775808 ≤ n0) (a1 : n0 ≤ 9223372036854775807) (b0 : -9223372036854775808 ≤ n1) (b1 : n1 ≤ 9223372036854775807)
    (d0 : -9223372036854775808 ≤ n2) (d1 : n2 ≤ 9223372036854775807) (e0 : -9223372036854775808 ≤ n3) (e1 : n3 ≤ 9223372036854775807) :
    Calls Tryd.prog 29 #[r.val, .agg #[vi n0, vi n1, vi n2, vi n3]] w fun e w' => e = .returned (.tuple #[(someT r n0 n1 n2 n3).val, vi (someI r n0 : Nat)]) ∧ Below w.heap.size w w' := by
  obtain ⟨k, x, hk1, hk2, hk3, hk4⟩ := some_at hok n0
  have hxo := hok.issues x (List.mem_of_getElem? hk4)
  have g1 := hok.g1
  have g2 := hok.g2
  have k2 := hok.n2
  have HT := Lib.hid (fun h => someT_bare (n1 := n1) (n2 := n2) (n3 := n3) hk2 hk4 h)
  have HT2 := Lib.hid (fun (j m : Nat) (y : Entry) (z : Fit) h1 h2 h3 h4 => someT_of (n1 := n1) (n2 := n2) (n3 := n3) (j := j) (m := m) (y := y) (z := z) hk2 hk4 h1 h2 h3 h4)
  rw [hk2]
  obtain ⟨IT, hIT⟩ : ∃ IT, IT = someT r n0 n1 n2 n3 := ⟨_, rfl⟩
  rw [← hIT] at HT HT2 ⊢
  have HX := Lib.hid hk4
  have HXO := Lib.hid hxo
  clear hIT hk2 hk4 hxo hok
  obtain ⟨rg, rA, rcap, ri⟩ := r
  have hri : IssuesAt w w.heap.size rA rcap ri := hr
  have rc1 := hri.cap
  have rf1 := hri.few
  have rc2 := hri.len
  simp only at hk1 hk3 g1 g2 k2 HX HT HT2
  have hkI : (k : Int) < ri.length := by omega
  have h0I : (0 : Int) ≤ k := by omega
  obtain ⟨xlo, xhi, xhd, xA, xcap, xl⟩ := x
  obtain ⟨bb, off, rfl, hbb, x0, x1, x2, x3⟩ := row4 hri.row HX.out rfl
  replace x3 : w.cell? ⟨bb, off + k * 4 + 3, none⟩ = some (.slice xA xl.length xcap) := x3
  have hxe : EntriesAt w w.heap.size xA xcap xl := hri.at_ HX.out
  have xc1 := hxe.cap
  have xc2 := hxe.len
  show Calls Tryd.prog 29 #[.agg #[vi rg, .slice (some ⟨bb, off, none⟩) ri.length rcap], .agg #[vi n0, vi n1, vi n2, vi n3]] w _
  go_enter Tryd.func29, Tryd.ntmps29
  go_wp2_with fail
  refine (spin_any n0 ri.length _ (by omega) (by omega) (by omega)).mono ?_
  rintro e w1 ⟨rfl, rfl⟩
  rw [hk1]
  obtain ⟨W, hW⟩ : ∃ W, W = (((w.alloc (.cells #[vi rg, .slice (some ⟨bb, off, none⟩) ri.length rcap] 24)).alloc (.cells #[vi n0, vi n1, vi n2, vi n3] 61)).alloc (.cells #[vi 0, vi 0, vi 0] 63)) := ⟨_, rfl⟩
  have HB0 : Below w.heap.size w W := by rw [hW]; (repeat (first | exact Below.refl _ _ | refine Below.setCell ?_ (by first | omega | (simp; omega) | (simp; done)) _ | refine Below.alloc ?_ (by first | omega | (simp; omega) | (simp; done)) _ | refine Below.drew ?_ | refine below_drewN ?_ _ | refine Below.trans ?_ (Below.mono (by assumption) (by first | omega | (simp; omega) | (simp; done)))))
  have r0 : W.cell? ⟨w.heap.size, 0, none⟩ = some (vi rg) := by rw [hW]; simp [go_sem]
  have r1 : W.cell? ⟨w.heap.size, 1, none⟩ = some (.slice (some ⟨bb, off, none⟩) ri.length rcap) := by rw [hW]; simp [go_sem]
  have m1 : W.cell? ⟨w.heap.size + 1, 1, none⟩ = some (vi n1) := by rw [hW]; simp [go_sem]
  have m2 : W.cell? ⟨w.heap.size + 1, 2, none⟩ = some (vi n2) := by rw [hW]; simp [go_sem]
  have m3 : W.cell? ⟨w.heap.size + 1, 3, none⟩ = some (vi n3) := by rw [hW]; simp [go_sem]
  have s0 : W.cell? ⟨w.heap.size + 1 + 1, 0, none⟩ = some (vi 0) := by rw [hW]; simp [go_sem]
  have s1 : W.cell? ⟨w.heap.size + 1 + 1, 1, none⟩ = some (vi 0) := by rw [hW]; simp [go_sem]
  have s2 : W.cell? ⟨w.heap.size + 1 + 1, 2, none⟩ = some (vi 0) := by rw [hW]; simp [go_sem]
  have sf : W.frozen? ⟨w.heap.size + 1 + 1, 0, none⟩ = false := by rw [hW]; simp [go_sem]
  have sg : W.frozen? ⟨w.heap.size + 1 + 1, 1, none⟩ = false := by rw [hW]; simp [go_sem]
  have sh : W.frozen? ⟨w.heap.size + 1 + 1, 2, none⟩ = false := by rw [hW]; simp [go_sem]
  have zW : w.heap.size + 1 + 1 < W.heap.size := by rw [hW]; simp
  have X0 := cell_keep HB0 x0
  have X1 := cell_keep HB0 x1
  have X2 := cell_keep HB0 x2
  have X3 := cell_keep HB0 x3
  have hxW : EntriesAt W w.heap.size xA xcap xl := hxe.below HB0
  have zbb : bb < W.heap.size := by omega
  rw [← hW]
  clear hW x0 x1 x2 x3 hxe
  by_cases hx0 : xl.length = 0
  · have hq0 : ((xl.length : Int) == 0) = true := by simp [hx0]
    have HX0 := Lib.hid hx0
    clear hx0
    go_wp2_with fail
    obtain ⟨W2, hW2⟩ : ∃ W2, W2 = W.alloc (.cells #[vi xlo, vi xhi, vi xhd, .slice xA xl.length xcap] 47) := ⟨_, rfl⟩
    have hB2 : Below W.heap.size W W2 := by rw [hW2]; exact (Below.refl _ _).alloc (Nat.le_refl _) _
    have zB2 := hB2.size
    have r0' := cell_keep hB2 r0
    have n1' := cell_keep hB2 m1
    have n2' := cell_keep hB2 m2
    have n3' := cell_keep hB2 m3
    rw [← hW2]
    have t1 := spin_range n2 99 (by omega)
    have hwr : wrap64 (1 + spinI n2 99) = 1 + spinI n2 99 := IntWalk.wrap64_in _ ⟨by omega, by omega⟩
    refine' wp_region_box (fun w' => Spare W.heap.size (w.heap.size + 1 + 1) W2 w') (stays_spare (by omega)) [0, 1, 2, 3, 4, 5, 6, 7, 8, 9, 10, 11, 12, 13] 2 66 (by kernel_rfl) (by kernel_rfl) rfl (by kernel_rfl) (by kernel_rfl) rfl (by kernel_rfl) ?hl (Spare.refl _ _ _) ?hq ?hr
    case hl => 
      simp only [List.map_cons, List.map_nil, List.getD_cons_zero, List.getD_cons_succ]
      exact rfl
    case hq =>
      intro w0 hw0
      have zw0 := hw0.size
      have q0 : w0.cell? ⟨w.heap.size, 0, none⟩ = some (vi rg) := (hw0.cell (by first | omega | (simp; omega) | (simp; done)) (by first | omega | (simp; omega) | (simp; done))).trans r0'
      have q1 : w0.cell? ⟨w.heap.size + 1, 1, none⟩ = some (vi n1) := (hw0.cell (by first | omega | (simp; omega) | (simp; done)) (by first | omega | (simp; omega) | (simp; done))).trans n1'
      have q2 : w0.cell? ⟨w.heap.size + 1, 2, none⟩ = some (vi n2) := (hw0.cell (by first | omega | (simp; omega) | (simp; done)) (by first | omega | (simp; omega) | (simp; done))).trans n2'
      have q3 : w0.cell? ⟨w.heap.size + 1, 3, none⟩ = some (vi n3) := (hw0.cell (by first | omega | (simp; omega) | (simp; done)) (by first | omega | (simp; omega) | (simp; done))).trans n3'
      have z1 : w.heap.size < w0.heap.size := by omega
      have z2 : w.heap.size + 1 < w0.heap.size := by omega
      (repeat (go_big_quiet_step (first | (go_at_call 21; refine Calls.grow_same (spin_any _ _ _ (by omega) (by omega) (by omega))) | (go_at_call 41; refine Calls.grow_of (thing_any _ _ _ _)))))
      exact wpQuiet_nil rfl
    refine wpUp_one (i := 14) (by kernel_rfl) rfl rfl (fun w1 h1 h2 K hK => ?_)
    have hW1 := gr_trans hB2 h1
    have S0 := cell_keep hW1 s0
    have S1 := cell_keep hW1 s1
    have S2 := cell_keep hW1 s2
    have F0 := soft_keep hW1 (by first | omega | (simp; omega) | (simp; done)) sf
    have F1 := soft_keep hW1 (by first | omega | (simp; omega) | (simp; done)) sg
    have F2 := soft_keep hW1 (by first | omega | (simp; omega) | (simp; done)) sh
    go_simp
    refine hK _ _ (spare_set (spare_set (spare_set h2 rfl _) rfl _) rfl _) ?_
    obtain ⟨V, hV⟩ : ∃ V, V = (((w1.setCell ⟨w.heap.size + 1 + 1, 0, none⟩ (vi (spinI n1 rg))).setCell ⟨w.heap.size + 1 + 1, 1, none⟩ (vi (1 + spinI n2 99))).setCell ⟨w.heap.size + 1 + 1, 2, none⟩ (vi (spinI n3 4))) := ⟨_, rfl⟩
    have V0 : V.cell? ⟨w.heap.size + 1 + 1, 0, none⟩ = some (vi (spinI n1 rg)) := by rw [hV]; simp [go_sem, S0, S1, S2]
    have V1 : V.cell? ⟨w.heap.size + 1 + 1, 1, none⟩ = some (vi (1 + spinI n2 99)) := by rw [hV]; simp [go_sem, S0, S1, S2]
    have V2 : V.cell? ⟨w.heap.size + 1 + 1, 2, none⟩ = some (vi (spinI n3 4)) := by rw [hV]; simp [go_sem, S0, S1, S2]
    have HBV : Below w.heap.size w V := by rw [hV]; exact set3_below (HB0.trans (hW1.mono HB0.size)) (by omega) _ _ _
    rw [← hV]
    clear hV
    refine wpUp_one (i := 15) (by kernel_rfl) rfl rfl (fun w3 h3 h4 K' hK' => ?_)
    go_simp
    refine hK' _ _ h4 (wpUp_done (by kernel_rfl) (fun w4 h5 _ => NoPanic.normal ?_))
    have hV4 := gr_trans h3 h5
    have U0 := cell_keep hV4 V0
    have U1 := cell_keep hV4 V1
    have U2 := cell_keep hV4 V2
    have HB4 : Below w.heap.size w w4 := HBV.trans (hV4.mono HBV.size)
    go_wp2_with fail
    (try simp only [Exit.inBlock, Exit.then])
    refine bodyPost_ret (by simp [results, Tryd.results29, go_sem, U0, U1, U2]; try rfl) rfl ?_
    refine ⟨by rw [HT.out HX0.out], HB4⟩
  · have hq0 : ((xl.length : Int) == 0) = false := by rw [beq_eq_false_iff_ne]; omega
    obtain ⟨j, j1, j2, j3⟩ := spin_nat n1 (m := xl.length) (by omega)
    obtain ⟨⟨yn, yg, yc, yA, ycap, yl⟩, hy⟩ : ∃ y, xl[j]? = some y := ⟨_, List.getElem?_eq_getElem j2⟩
    obtain ⟨yb, yoff, rfl, hyb, y0, y1, y2, y3⟩ := row4 hxW.row hy rfl
    have hyo := HXO.out.entries _ (List.mem_of_getElem? hy)
    have hye : FitsAt W w.heap.size yA ycap yl := hxW.at_ hy
    have yc1 := hye.cap
    have yc2 := hye.len
    have l1 := hyo.z1
    have l2 := hyo.z2
    simp only at l1 l2
    obtain ⟨m, q1, q2, q3⟩ := spin_nat n2 (m := yl.length) l1
    obtain ⟨⟨zs, zlo, zhi, zp⟩, hz⟩ : ∃ z, yl[m]? = some z := ⟨_, List.getElem?_eq_getElem q2⟩
    obtain ⟨zb, zoff, rfl, hzb, z0, z1, z2, z3⟩ := row4 hye.row hz rfl
    have HIT := Lib.hid (HT2.out j m _ _ j3 hy q3 hz)
    have hjI : (j : Int) < xl.length := by omega
    have h0J : (0 : Int) ≤ j := by omega
    have hmI : (m : Int) < yl.length := by omega
    have h0M : (0 : Int) ≤ m := by omega
    simp only at HIT
    clear hx0 hy hz hyo HT2 HT
    go_wp2_with fail
    obtain ⟨W2, hW2⟩ : ∃ W2, W2 = W.alloc (.cells #[vi xlo, vi xhi, vi xhd, .slice (some ⟨yb, yoff, none⟩) xl.length xcap] 47) := ⟨_, rfl⟩
    have hB2 : Below W.heap.size W W2 := by rw [hW2]; exact (Below.refl _ _).alloc (Nat.le_refl _) _
    have zB2 : W.heap.size < W2.heap.size := by rw [hW2]; simp
    have v3' : W2.cell? ⟨W.heap.size, 3, none⟩ = some (.slice (some ⟨yb, yoff, none⟩) xl.length xcap) := by rw [hW2]; simp [go_sem]
    rw [← hW2]
    clear hW2
    refine' wp_region_box (fun w' => Below W2.heap.size W2 w') (stays_below _) [0, 1, 2, 3, 4, 5, 6, 7, 8, 9] 2 66 (by kernel_rfl) (by kernel_rfl) rfl (by kernel_rfl) (by kernel_rfl) rfl (by kernel_rfl) ?hl2 (Below.refl _ _) ?hq2 ?hr2
    case hl2 =>
      simp only [List.map_cons, List.map_nil, List.getD_cons_zero, List.getD_cons_succ]
      exact rfl
    case hq2 =>
      intro w0 hw0
      have hWw := gr_trans hB2 hw0
      have zw0 := hw0.size
      have u1 := cell_keep hWw m1
      have u3 := cell_keep hw0 v3'
      have g0 := cell_keep hWw y0
      have g1 := cell_keep hWw y1
      have g2 := cell_keep hWw y2
      have g3 := cell_keep hWw y3
      have e1 : yb < w0.heap.size := by omega
      have e2 : w.heap.size + 1 < w0.heap.size := by omega
      have e3 : W.heap.size < w0.heap.size := by omega
      (repeat (go_big_quiet_step (first | (go_at_call 21; refine Calls.grow_same (spin_is j1 _ (by omega) (by omega) (by omega))))))
      exact wpQuiet_nil rfl
    refine wpUp_one (i := 10) (by kernel_rfl) rfl rfl (fun w1 h1 h2 K hK => ?_)
    go_simp
    refine hK _ _ (h2.alloc h2.size _) ?_
    refine wpUp_one (i := 11) (by kernel_rfl) rfl rfl (fun w2 h3 h4 K2 hK2 => ?_)
    have f0 : w2.frozen? ⟨w1.heap.size, 0, none⟩ = false := soft_keep h3 (by simp) (by simp [go_sem])
    have f1 : w2.frozen? ⟨w1.heap.size, 1, none⟩ = false := soft_keep h3 (by simp) (by simp [go_sem])
    have f2 : w2.frozen? ⟨w1.heap.size, 2, none⟩ = false := soft_keep h3 (by simp) (by simp [go_sem])
    have f3 : w2.frozen? ⟨w1.heap.size, 3, none⟩ = false := soft_keep h3 (by simp) (by simp [go_sem])
    have k0 : w2.cell? ⟨w1.heap.size, 0, none⟩ = some (vi 0) := cell_keep h3 (by simp [go_sem])
    have k1 : w2.cell? ⟨w1.heap.size, 1, none⟩ = some (vi 0) := cell_keep h3 (by simp [go_sem])
    have k2 : w2.cell? ⟨w1.heap.size, 2, none⟩ = some (vi 0) := cell_keep h3 (by simp [go_sem])
    have k3 : w2.cell? ⟨w1.heap.size, 3, none⟩ = some (.slice none 0 0) := cell_keep h3 (by simp [go_sem])
    go_simp
    have hw1 := h1.size
    refine hK2 _ _ (set4_below h4 (by omega) _ _ _ _) ?_
    obtain ⟨Y, hY⟩ : ∃ Y, Y = ((((w2.setCell ⟨w1.heap.size, 0, none⟩ (vi yn)).setCell ⟨w1.heap.size, 1, none⟩ (vi yg)).setCell ⟨w1.heap.size, 2, none⟩ (vi yc)).setCell ⟨w1.heap.size, 3, none⟩ (.slice (some ⟨zb, zoff, none⟩) yl.length ycap)) := ⟨_, rfl⟩
    have Y1 : Y.cell? ⟨w1.heap.size, 1, none⟩ = some (vi yg) := by rw [hY]; simp [go_sem, k0, k1, k2, k3]
    have Y3 : Y.cell? ⟨w1.heap.size, 3, none⟩ = some (.slice (some ⟨zb, zoff, none⟩) yl.length ycap) := by rw [hY]; simp [go_sem, k0, k1, k2, k3]
    have HBY : Below W2.heap.size W2 Y := by rw [hY]; exact set4_below h4 (by omega) _ _ _ _
    have zY : w1.heap.size < Y.heap.size := cell_lt Y1
    rw [← hY]
    clear hY f0 f1 f2 f3 k0 k1 k2 k3 h4 h3
    refine wpUp_done (by kernel_rfl) (fun w5 h5 _ => NoPanic.normal ?_)
    have hB5 : Below W.heap.size W w5 := hB2.trans ((HBY.trans (h5.mono HBY.size)).mono hB2.size)
    have Y1' := cell_keep h5 Y1
    have Y3' := cell_keep h5 Y3
    have zY' : w1.heap.size < w5.heap.size := cell_lt Y1'
    have G2 := cell_keep hB5 m2
    have G3 := cell_keep hB5 m3
    have ZZ := cell_keep hB5 z0
    have zB5 := hB5.size
    have zL : w1.heap.size ≠ w.heap.size + 1 + 1 := by omega
    have zL2 : zb ≠ w.heap.size + 1 + 1 := by omega
    clear h1 h2 hK hK2 K K2 hw1 HBY Y1 Y3 zY h5
    go_wp2_with fail
    refine' wp_region_box (fun w' => Spare w5.heap.size (w.heap.size + 1 + 1) w5 w') (stays_spare (Nat.le_refl _)) [0, 1, 2, 3, 4, 5, 6, 7, 8, 9, 10, 11, 12, 13, 14, 15, 16, 17] 2 66 (by kernel_rfl) (by kernel_rfl) rfl (by kernel_rfl) (by kernel_rfl) rfl (by kernel_rfl) ?hl3 (Spare.refl _ _ _) ?hq3 ?hr3
    case hl3 =>
      simp only [List.map_cons, List.map_nil, List.getD_cons_zero, List.getD_cons_succ]
      exact rfl
    case hq3 =>
      intro w0 hw0
      have zw0 := hw0.size
      have u1 : w0.cell? ⟨w1.heap.size, 1, none⟩ = some (vi yg) := (hw0.cell zY' zL).trans Y1'
      have u3 : w0.cell? ⟨w1.heap.size, 3, none⟩ = some (.slice (some ⟨zb, zoff, none⟩) yl.length ycap) := (hw0.cell zY' zL).trans Y3'
      have g2 : w0.cell? ⟨w.heap.size + 1, 2, none⟩ = some (vi n2) := (hw0.cell (by first | omega | (simp; omega) | (simp; done)) (by first | omega | (simp; omega) | (simp; done))).trans G2
      have g3 : w0.cell? ⟨w.heap.size + 1, 3, none⟩ = some (vi n3) := (hw0.cell (by first | omega | (simp; omega) | (simp; done)) (by first | omega | (simp; omega) | (simp; done))).trans G3
      have gz : w0.cell? ⟨zb, zoff + m * 4, none⟩ = some (vi zs) := (hw0.cell (by first | omega | (simp; omega) | (simp; done)) zL2).trans ZZ
      have e1 : zb < w0.heap.size := by omega
      have e2 : w.heap.size + 1 < w0.heap.size := by omega
      have e3 : w1.heap.size < w0.heap.size := by omega
      (repeat (go_big_quiet_step (first | (go_at_call_of 21 n2; refine Calls.grow_same (spin_is q1 _ (by omega) (by omega) (by omega))) | (go_at_call_of 21 n3; refine Calls.grow_same (spin_any n3 4 _ (by omega) (by omega) (by omega))) | (go_at_call 41; refine Calls.grow_of (thing_any _ _ _ _)))))
      exact wpQuiet_nil rfl
    refine wpUp_one (i := 18) (by kernel_rfl) rfl rfl (fun w6 h6 h7 K3 hK3 => ?_)
    have hW6 := gr_trans hB5 h6
    have S0 := cell_keep hW6 s0
    have S1 := cell_keep hW6 s1
    have S2 := cell_keep hW6 s2
    have F0 := soft_keep hW6 (by first | omega | (simp; omega) | (simp; done)) sf
    have F1 := soft_keep hW6 (by first | omega | (simp; omega) | (simp; done)) sg
    have F2 := soft_keep hW6 (by first | omega | (simp; omega) | (simp; done)) sh
    go_simp
    refine hK3 _ _ (spare_set (spare_set (spare_set h7 rfl _) rfl _) rfl _) ?_
    obtain ⟨V, hV⟩ : ∃ V, V = (((w6.setCell ⟨w.heap.size + 1 + 1, 0, none⟩ (vi yg)).setCell ⟨w.heap.size + 1 + 1, 1, none⟩ (vi zs)).setCell ⟨w.heap.size + 1 + 1, 2, none⟩ (vi (spinI n3 4))) := ⟨_, rfl⟩
    have V0 : V.cell? ⟨w.heap.size + 1 + 1, 0, none⟩ = some (vi yg) := by rw [hV]; simp [go_sem, S0, S1, S2]
    have V1 : V.cell? ⟨w.heap.size + 1 + 1, 1, none⟩ = some (vi zs) := by rw [hV]; simp [go_sem, S0, S1, S2]
    have V2 : V.cell? ⟨w.heap.size + 1 + 1, 2, none⟩ = some (vi (spinI n3 4)) := by rw [hV]; simp [go_sem, S0, S1, S2]
    have HBV : Below w.heap.size w V := by rw [hV]; exact set3_below (HB0.trans (hW6.mono HB0.size)) (by omega) _ _ _
    rw [← hV]
    clear hV
    refine wpUp_one (i := 19) (by kernel_rfl) rfl rfl (fun w9 h9 h10 K' hK' => ?_)
    go_simp
    refine hK' _ _ h10 (wpUp_done (by kernel_rfl) (fun w10 h11 _ => NoPanic.normal ?_))
    have hV4 := gr_trans h9 h11
    have U0 := cell_keep hV4 V0
    have U1 := cell_keep hV4 V1
    have U2 := cell_keep hV4 V2
    have HB10 : Below w.heap.size w w10 := HBV.trans (hV4.mono HBV.size)
    go_wp2_with fail
    (try simp only [Exit.inBlock, Exit.then])
    refine bodyPost_ret (by simp [results, Tryd.results29, go_sem, U0, U1, U2]; try rfl) rfl ?_
    refine ⟨by rw [HIT.out], HB10⟩
end Go.Proofs.YtpcajmkmmkmekaaDoor
