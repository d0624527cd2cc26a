/- Contract of BookFoot: it answers true. -/
import Derived.Test.YtpcajmkmmkmekaaDoorXK11
import Derived.Test.YtpcajmkmmkmekaaDoorXB10
set_option linter.unusedVariables false
set_option linter.unusedSimpArgs false
namespace Go.Proofs.YtpcajmkmmkmekaaDoor
open Go Go.RowKit
set_option maxHeartbeats 8000000
theorem place_is {l : List Int} {n v : Int} (h : placeF l n = v) (A : Option Addr) (cap : Nat) (w : World) (hh : IntsAt w w.heap.size A cap l) :
    Calls Tryd.prog 28 #[.slice A l.length cap, vi n] w fun e w' => e = .returned (vi v) ∧ w' = w := by
  subst h
  exact place_any A cap l n w hh
theorem has_is {a b n : Int} {v : Bool} (h : (decide (a ≤ n) && decide (n ≤ b)) = v) (w : World) :
    Calls Tryd.prog 39 #[.agg #[vi a, vi b], vi n] w fun e w' => e = .returned (.bool v) ∧ Below w.heap.size w w' := by
  subst h
  exact has_any a b n w
theorem lot_wide {a b n : Int} (h : a ≤ b) : a ≤ lotI a b n ∧ lotI a b n ≤ b := lot_range h
set_option maxRecDepth 100000 in
theorem foot_no (r : Rack) (n0 n1 k0 k1 k2 k3 : Int) (w : World) (hl : Lim w) (hr : RackAt w w.heap.size r) (hv : validB r = false) :
    Calls Tryd.prog 12 #[r.val, .agg #[vi n0, vi n1], .agg #[vi k0, vi k1, vi k2, vi k3]] w fun e w' => e = .returned (.bool true) ∧ Below w.heap.size w w' := by
  go_enter Tryd.func12, Tryd.ntmps12
  go_wp2_with (first | (go_at_call 20; refine (sound_no r _ (by repeat (first | assumption | refine Lim.alloc ?_ _ | refine Lim.setCell ?_ (by first | (simp; done) | (simp; omega) | omega) _ | refine Lim.drew ?_)) (hr.to (by (repeat (first | exact Below.refl _ _ | refine Below.setCell ?_ (by first | omega | (simp; omega) | (simp; done)) _ | refine Below.alloc ?_ (by first | omega | (simp; omega) | (simp; done)) _ | refine Below.drew ?_ | refine below_drewN ?_ _ | refine Below.trans ?_ (Below.mono (by assumption) (by first | omega | (simp; omega) | (simp; done))))))) hv).mono ?_; rintro e w1 ⟨rfl, hb1⟩; obtain ⟨⟨hc1, hf1, hs1⟩, hz1⟩ := after hb1; (try simp only [World.size_alloc, World.size_setCell, World.size_drew] at hz1); have hl1 : Lim w1 := Lim.next (by repeat (first | assumption | refine Lim.alloc ?_ _ | refine Lim.setCell ?_ (by first | (simp; done) | (simp; omega) | omega) _ | refine Lim.drew ?_)) hb1) | (go_at_call 19; refine (works_any _ (by repeat (first | assumption | refine Lim.alloc ?_ _ | refine Lim.setCell ?_ (by first | (simp; done) | (simp; omega) | omega) _ | refine Lim.drew ?_))).mono ?_; rintro e w1 ⟨rfl, hb1⟩; obtain ⟨⟨hc1, hf1, hs1⟩, hz1⟩ := after hb1; (try simp only [World.size_alloc, World.size_setCell, World.size_drew] at hz1); have hl1 : Lim w1 := Lim.next (by repeat (first | assumption | refine Lim.alloc ?_ _ | refine Lim.setCell ?_ (by first | (simp; done) | (simp; omega) | omega) _ | refine Lim.drew ?_)) hb1))
  go_ret
  refine ⟨rfl, ?_⟩
  (repeat (first | exact Below.refl _ _ | refine Below.setCell ?_ (by first | omega | (simp; omega) | (simp; done)) _ | refine Below.alloc ?_ (by first | omega | (simp; omega) | (simp; done)) _ | refine Below.drew ?_ | refine below_drewN ?_ _ | refine Below.trans ?_ (Below.mono (by assumption) (by first | omega | (simp; omega) | (simp; done)))))
set_option maxRecDepth 100000 in
theorem foot_yes (r : Rack) (n0 n1 k0 k1 k2 k3 : Int) (w : World) (hl : Lim w) (hr : RackAt w w.heap.size r) (hv : validB r = true)
    (a0 : -9223372036854775808 ≤ n0) (a1 : n0 ≤ 9223372036854775807) (b0 : -9223372036854775808 ≤ n1) (b1 : n1 ≤ 9223372036854775807)
    (d0 : -9223372036854775808 ≤ k0) (d1 : k0 ≤ 9223372036854775807) (e0 : -9223372036854775808 ≤ k1) (e1 : k1 ≤ 9223372036854775807)
    (f0 : -9223372036854775808 ≤ k2) (f1 : k2 ≤ 9223372036854775807) (g0 : -9223372036854775808 ≤ k3) (g1 : k3 ≤ 9223372036854775807) :
    Calls Tryd.prog 12 #[r.val, .agg #[vi n0, vi n1], .agg #[vi k0, vi k1, vi k2, vi k3]] w fun e w' => e = .returned (.bool true) ∧ Below w.heap.size w w' := by
  have hok := rack_ok hv
  have q2 := hok.n2
  obtain ⟨k, x, hk1, hk2, hk3, hk4⟩ := some_at hok n0
  have hxo := hok.issues x (List.mem_of_getElem? hk4)
  obtain ⟨s0, s1⟩ := spin_range k0 400 (by omega)
  obtain ⟨s2, s3⟩ := spin_range k1 30 (by omega)
  obtain ⟨lo, hlo⟩ : ∃ lo, lo = 1 + spinI k0 400 := ⟨_, rfl⟩
  obtain ⟨hi, hhi⟩ : ∃ hi, hi = min 400 (lo + spinI k1 30) := ⟨_, rfl⟩
  have l0 : 1 ≤ lo := by omega
  have l1 : lo ≤ hi := by omega
  have l2 : hi ≤ 400 := by omega
  obtain ⟨t0, t1⟩ := lot_range (n := k2) l1
  obtain ⟨tr, htr⟩ : ∃ tr, tr = lotI lo hi k2 := ⟨_, rfl⟩
  rw [← htr] at t0 t1
  obtain ⟨u0, u1⟩ := lot_range (n := k3) t0
  obtain ⟨p1, hp1⟩ : ∃ p1, p1 = lotI lo tr k3 := ⟨_, rfl⟩
  rw [← hp1] at u0 u1
  obtain ⟨u2, u3⟩ := lot_range (n := k3) t1
  obtain ⟨p2, hp2⟩ : ∃ p2, p2 = lotI tr hi k3 := ⟨_, rfl⟩
  rw [← hp2] at u2 u3
  have HLO := Lib.hid hlo.symm
  have HHI := Lib.hid hhi.symm
  have HTR := Lib.hid htr.symm
  have HP1 := Lib.hid hp1.symm
  have HP2 := Lib.hid hp2.symm
  have HLB := Lib.hid (fun h => look_bare hv (a := lo) (b := hi) hk4 h l0 l1 l2)
  have HLE := Lib.hid (fun (j : Nat) (y : Entry) hy p => look_entry hv hok (k := k) (x := x) (j := j) (y := y) (a := lo) (b := hi) hk4 hy l0 l1 l2 p)
  have HLF := Lib.hid (fun (j : Nat) (y : Entry) hy p => look_entry hv hok (k := k) (x := x) (j := j) (y := y) (a := p1) (b := p2) hk4 hy (by omega) (by omega) (by omega) p)
  have HSE := Lib.hid (fun (j : Nat) (y : Entry) hy => sure_entry hv hok (k := k) (x := x) (j := j) (y := y) (a := lo) (b := hi) hk4 hy l0 l1 l2)
  have HSF := Lib.hid (fun (j : Nat) (y : Entry) hy => sure_entry hv hok (k := k) (x := x) (j := j) (y := y) (a := p1) (b := p2) hk4 hy (by omega) (by omega) (by omega))
  have HX := Lib.hid hk4
  have HXO := Lib.hid hxo
  clear hk2 hk4 hxo hok hlo hhi htr hp1 hp2
  obtain ⟨rg, rA, rcap, ri⟩ := r
  obtain ⟨xlo, xhi, xhd, xA, xcap, xl⟩ := x
  have hri : IssuesAt w w.heap.size rA rcap ri := hr
  have rc1 := hri.cap
  have rf1 := hri.few
  have rc2 := hri.len
  simp only at hk1 hk3 q2 HX HLB HLE HLF HSE HSF
  have hkI : (k : Int) < ri.length := by omega
  have h0I : (0 : Int) ≤ k := by omega
  have hrI : (ri.length : Int) ≤ 4 := by omega
  obtain ⟨bb, off, rfl, hbb, X0, X1, X2, X3⟩ := row4 hri.row HX.out rfl
  replace X3 : w.cell? ⟨bb, off + k * 4 + 3, none⟩ = some (.slice xA xl.length xcap) := X3
  have hxe : EntriesAt w w.heap.size xA xcap xl := hri.at_ HX.out
  have xc1 := hxe.cap
  have xc2 := hxe.len
  clear X0 X1 X2
  show Calls Tryd.prog 12 #[.agg #[vi rg, .slice (some ⟨bb, off, none⟩) ri.length rcap], .agg #[vi n0, vi n1], .agg #[vi k0, vi k1, vi k2, vi k3]] w _
  go_enter Tryd.func12, Tryd.ntmps12
  go_wp2_with fail
  refine (sound_yes ⟨rg, some ⟨bb, off, none⟩, rcap, ri⟩ _ (by repeat (first | assumption | refine Lim.alloc ?_ _ | refine Lim.setCell ?_ (by first | (simp; done) | (simp; omega) | omega) _ | refine Lim.drew ?_)) (hr.to (by (repeat (first | exact Below.refl _ _ | refine Below.setCell ?_ (by first | omega | (simp; omega) | (simp; done)) _ | refine Below.alloc ?_ (by first | omega | (simp; omega) | (simp; done)) _ | refine Below.drew ?_ | refine below_drewN ?_ _ | refine Below.trans ?_ (Below.mono (by assumption) (by first | omega | (simp; omega) | (simp; done))))))) hv).mono ?_
  rintro e W ⟨rfl, hb⟩
  have HB0 : Below w.heap.size w W := by (repeat (first | exact Below.refl _ _ | refine Below.setCell ?_ (by first | omega | (simp; omega) | (simp; done)) _ | refine Below.alloc ?_ (by first | omega | (simp; omega) | (simp; done)) _ | refine Below.drew ?_ | refine below_drewN ?_ _ | refine Below.trans ?_ (Below.mono (by assumption) (by first | omega | (simp; omega) | (simp; done)))))
  have c0 : W.cell? ⟨w.heap.size, 0, none⟩ = some (vi rg) := cell_keep hb (by simp [go_sem])
  have c1 : W.cell? ⟨w.heap.size, 1, none⟩ = some (.slice (some ⟨bb, off, none⟩) ri.length rcap) := cell_keep hb (by simp [go_sem])
  have m0 : W.cell? ⟨w.heap.size + 1, 0, none⟩ = some (vi n0) := cell_keep hb (by simp [go_sem])
  have m1 : W.cell? ⟨w.heap.size + 1, 1, none⟩ = some (vi n1) := cell_keep hb (by simp [go_sem])
  have v0 : W.cell? ⟨w.heap.size + 1 + 1, 0, none⟩ = some (vi k0) := cell_keep hb (by simp [go_sem])
  have v1 : W.cell? ⟨w.heap.size + 1 + 1, 1, none⟩ = some (vi k1) := cell_keep hb (by simp [go_sem])
  have v2 : W.cell? ⟨w.heap.size + 1 + 1, 2, none⟩ = some (vi k2) := cell_keep hb (by simp [go_sem])
  have v3 : W.cell? ⟨w.heap.size + 1 + 1, 3, none⟩ = some (vi k3) := cell_keep hb (by simp [go_sem])
  have x3 := cell_keep HB0 X3
  have zW : w.heap.size + 1 + 1 < W.heap.size := cell_lt v0
  have zbb : bb < W.heap.size := cell_lt x3
  clear hb X3
  go_wp2_with fail
  refine (spin_is hk1 _ (by omega) (by omega) (by omega)).mono ?_
  rintro e w1 ⟨rfl, rfl⟩
  go_wp2_with fail
  refine (spin_any k0 400 _ (by omega) (by omega) (by omega)).mono ?_
  rintro e w1 ⟨rfl, rfl⟩
  go_wp2_with fail
  rw [HLO.out]
  refine (spin_any k1 30 _ (by omega) (by omega) (by omega)).mono ?_
  rintro e w1 ⟨rfl, rfl⟩
  go_wp2_with fail
  rw [HHI.out]
  refine (to_any _ _ _).mono ?_
  rintro e W1 ⟨rfl, hb1⟩
  have HB1 : Below w.heap.size w W1 := HB0.trans (hb1.mono HB0.size)
  have v21 := cell_keep hb1 v2
  have zv1 : w.heap.size + 1 + 1 < W1.heap.size := cell_lt v21
  go_wp2_with fail
  obtain ⟨W2, hW2⟩ : ∃ W2, W2 = W1.alloc (.cells #[vi lo, vi hi] 27) := ⟨_, rfl⟩
  have hb2 : Below W.heap.size W W2 := by rw [hW2]; exact hb1.alloc hb1.size _
  have ft0 : W2.cell? ⟨W1.heap.size, 0, none⟩ = some (vi lo) := by rw [hW2]; simp [go_sem]
  have ft1 : W2.cell? ⟨W1.heap.size, 1, none⟩ = some (vi hi) := by rw [hW2]; simp [go_sem]
  rw [← hW2]
  clear hW2
  have HB2 : Below w.heap.size w W2 := HB0.trans (hb2.mono HB0.size)
  have c02 := cell_keep hb2 c0
  have c12 := cell_keep hb2 c1
  have m12 := cell_keep hb2 m1
  have v32 := cell_keep hb2 v3
  have zF : W.heap.size ≤ W1.heap.size := hb1.size
  clear hb1 hb2 c0 c1 m0 m1 v0 v1 v2 v3
  refine (lot_is HTR.out _ (by omega) (by omega) (by omega) (by omega) (by omega) (by omega) (by omega)).mono ?_
  rintro e W3 ⟨rfl, hb3⟩
  have HB3 : Below w.heap.size w W3 := HB2.trans (hb3.mono HB2.size)
  have c03 := cell_keep hb3 c02
  have c13 := cell_keep hb3 c12
  have m13 := cell_keep hb3 m12
  have v33 := cell_keep hb3 v32
  have ft03 := cell_keep hb3 ft0
  have ft13 := cell_keep hb3 ft1
  have zft : W1.heap.size < W3.heap.size := cell_lt ft03
  have zv3 : w.heap.size + 1 + 1 < W3.heap.size := cell_lt v33
  clear hb3 c02 c12 m12 v32 ft0 ft1
  go_upto_region 8 with fail
  refine' wp_region_box (fun w' => Below W3.heap.size W3 w') (stays_below _) [0, 1, 2, 3, 4, 5, 6, 7, 8, 9, 10, 11, 12, 13, 14] 2 267 (by kernel_rfl) (by kernel_rfl) rfl (by kernel_rfl) (by kernel_rfl) rfl (by kernel_rfl) ?hl8 (Below.refl _ _) ?hq8 ?hr8
  case hl8 =>
    simp only [List.map_cons, List.map_nil, List.getD_cons_zero, List.getD_cons_succ]
    exact rfl
  case hq8 =>
    intro w0 hw0
    have zw0 := hw0.size
    have j1 := cell_keep hw0 ft03
    have j2 := cell_keep hw0 ft13
    have j3 := cell_keep hw0 v33
    have y1 : W1.heap.size < w0.heap.size := by omega
    have y2 : w.heap.size + 1 + 1 < w0.heap.size := by omega
    (repeat (go_big_quiet_step (first | (go_at_call 22; refine Calls.grow_of (to_any _ _ _)) | (go_at_call_of 23 lo; refine Calls.grow_of (lot_is HP1.out _ (by omega) (by omega) (by omega) (by omega) (by omega) (by omega) (by omega))) | (go_at_call_of 23 hi; refine Calls.grow_of (lot_is HP2.out _ (by omega) (by omega) (by omega) (by omega) (by omega) (by omega) (by omega))))))
    exact wpQuiet_nil rfl
  refine wpUp_one (i := 15) (by kernel_rfl) rfl rfl (fun w1 h1 h2 K hK => ?_)
  go_simp
  refine hK _ _ (h2.alloc h2.size _) ?_
  refine wpUp_one (i := 16) (by kernel_rfl) rfl rfl (fun w2 h3 h4 K2 hK2 => ?_)
  have fz0 : w2.frozen? ⟨w1.heap.size, 0, none⟩ = false := soft_keep h3 (by simp) (by simp [go_sem])
  have fz1 : w2.frozen? ⟨w1.heap.size, 1, none⟩ = false := soft_keep h3 (by simp) (by simp [go_sem])
  have kk0 : w2.cell? ⟨w1.heap.size, 0, none⟩ = some (vi 0) := cell_keep h3 (by simp [go_sem])
  have kk1 : w2.cell? ⟨w1.heap.size, 1, none⟩ = some (vi 0) := cell_keep h3 (by simp [go_sem])
  go_simp
  have hw1 := h1.size
  have HBV : Below W3.heap.size W3 ((w2.setCell ⟨w1.heap.size, 0, none⟩ (vi p1)).setCell ⟨w1.heap.size, 1, none⟩ (vi p2)) := (h4.setCell (p := ⟨w1.heap.size, 0, none⟩) hw1 _).setCell (p := ⟨w1.heap.size, 1, none⟩) hw1 _
  refine hK2 _ _ HBV ?_
  refine wpUp_done (by kernel_rfl) (fun W4 h5 h6 => NoPanic.normal ?_)
  have bt04 : W4.cell? ⟨w1.heap.size, 0, none⟩ = some (vi p1) := cell_keep h5 (by simp [go_sem, kk0, kk1])
  have bt14 : W4.cell? ⟨w1.heap.size, 1, none⟩ = some (vi p2) := cell_keep h5 (by simp [go_sem, kk0, kk1])
  obtain ⟨bt, hbt⟩ : ∃ bt, bt = w1.heap.size := ⟨_, rfl⟩
  rw [← hbt] at bt04 bt14 ⊢
  have HB4 : Below w.heap.size w W4 := HB3.trans (h6.mono HB3.size)
  have c04 := cell_keep h6 c03
  have c14 := cell_keep h6 c13
  have m14 := cell_keep h6 m13
  have ft04 := cell_keep h6 ft03
  have ft14 := cell_keep h6 ft13
  clear hK hK2 K K2 h1 h2 h3 h4 h5 h6 fz0 fz1 kk0 kk1 hw1 HBV hbt c03 c13 m13 v33 ft03 ft13 w1 w2
  by_cases hx0 : xl.length = 0
  · have HB := Lib.hid (HLB.out hx0)
    have hq0 : ((xl.length : Int) == 0) = true := by simp [hx0]
    clear hx0
    go_wp2_with fail
    refine (fits_any ⟨rg, some ⟨bb, off, none⟩, rcap, ri⟩ k 1 lo hi _ (hl.next HB4) (hr.to HB4)).mono ?_
    rintro e W5 ⟨v, rfl, hm⟩
    rw [HB.out]
    have HB5 : Below w.heap.size w W5 := HB4.trans (hm.2.mono HB4.size)
    go_wp2_with (go_at_call 19; refine (works_any _ (hl.next HB5)).mono ?_; rintro e w9 ⟨rfl, hb9⟩)
    go_ret
    exact ⟨rfl, HB5.trans (hb9.mono HB5.size)⟩
  · have hq0 : ((xl.length : Int) == 0) = false := by rw [beq_eq_false_iff_ne]; omega
    obtain ⟨j, j1, j2, j3⟩ := spin_nat n1 (m := xl.length) (by omega)
    obtain ⟨⟨yn, yg, yc, yA, ycap, yl⟩, hy⟩ : ∃ y, xl[j]? = some y := ⟨_, List.getElem?_eq_getElem j2⟩
    have hx4 : EntriesAt W4 w.heap.size xA xcap xl := hxe.below HB4
    obtain ⟨yb, yoff, rfl, hyb, y0, y1, y2, y3⟩ := row4 hx4.row hy rfl
    replace y3 : W4.cell? ⟨yb, yoff + j * 4 + 3, none⟩ = some (.slice yA yl.length ycap) := y3
    have hyo := HXO.out.entries _ (List.mem_of_getElem? hy)
    have hye : FitsAt W4 w.heap.size yA ycap yl := hx4.at_ hy
    have hyw : FitsAt w w.heap.size yA ycap yl := hxe.at_ hy
    have yc1 := hye.cap
    have yc2 := hye.len
    have l8 := hyo.z2
    simp only at l8
    have E1 := HLE.out j _ hy (fitsP lo hi)
    have E2 := HLF.out j _ hy (fitsP p1 p2)
    have E3 := HSE.out j _ hy
    have E4 := HSF.out j _ hy
    have hfew := fun h => first_fewer (a := lo) (b := hi) (c := p1) (d := p2) (l := yl) (by omega) (by omega) h
    have hall := surely_all (a := lo) (b := hi) hyo
    simp only at E1 E2 E3 E4 hall
    have hjI : (j : Int) < xl.length := by omega
    have h0J : (0 : Int) ≤ j := by omega
    have hylI : (yl.length : Int) ≤ 8 := by omega
    obtain ⟨L, hL⟩ : ∃ L, L = sizesV (fitsP lo hi) yl := ⟨_, rfl⟩
    obtain ⟨M, hM⟩ : ∃ M, M = sizesV (fitsP p1 p2) yl := ⟨_, rfl⟩
    rw [← hL] at E1
    rw [← hM] at E2
    have hLs : L.length ≤ yl.length := by rw [hL]; exact sizes_short _ _
    have HIN1 := Lib.hid (fun (z : Fit) (hz : z ∈ yl) => (hL ▸ sizes_in hyo (p := fitsP lo hi) hz : z.size ∈ L ↔ fitsP lo hi z = true))
    have HIN2 := Lib.hid (fun (z : Fit) (hz : z ∈ yl) => (hM ▸ sizes_in hyo (p := fitsP p1 p2) hz : z.size ∈ M ↔ fitsP p1 p2 z = true))
    obtain ⟨FO, hFO⟩ : ∃ FO, FO = firstO lo hi yl := ⟨_, rfl⟩
    obtain ⟨FP, hFP⟩ : ∃ FP, FP = firstO p1 p2 yl := ⟨_, rfl⟩
    rw [← hFO] at E3 hfew hall
    rw [← hFP] at E4 hfew
    obtain ⟨ge, hge⟩ : ∃ ge : Int, ge = (if FO.isSome then 0 else 4) := ⟨_, rfl⟩
    obtain ⟨he, hhe⟩ : ∃ he : Int, he = (if FP.isSome then 0 else 4) := ⟨_, rfl⟩
    obtain ⟨av, hav⟩ : ∃ av : Int, av = (FO.map Fit.size).getD 0 := ⟨_, rfl⟩
    have hc : (ge = 0 ∧ he = 0) ∨ (ge = 4 ∧ av = 0 ∧ (he = 0 ∨ he = 4)) := by
      cases FO with
      | none =>
        right
        refine ⟨by simp [hge], by simp [hav], ?_⟩
        cases FP <;> simp [hhe]
      | some f => exact .inl ⟨by simp [hge], by rw [hhe, if_pos (hfew rfl)]⟩
    have ha2 : surelyB yl av lo hi yl.length = (ge == 0) := by rw [hav, hall, hge]; cases FO <;> simp
    rw [← hge, ← hav] at E3
    have E4 := E4.1
    rw [← hhe] at E4
    have HC := Lib.hid hc
    have HE1 := Lib.hid E1
    have HE2 := Lib.hid E2
    have HE3 := Lib.hid E3
    have HE4 := Lib.hid E4
    have HALL := Lib.hid ha2
    have HYO := Lib.hid hyo
    clear hx0 hy hyo hL hM hFO hFP E1 E2 E3 E4 hfew hall hge hhe hav hc ha2 HLE HLF HSE HSF HLB
    have zc4 : w.heap.size < W4.heap.size := cell_lt c04
    have zf4 : W1.heap.size < W4.heap.size := cell_lt ft04
    go_wp2_with fail
    refine (spin_is j1 _ (by omega) (by omega) (by omega)).mono ?_
    rintro e w1 ⟨rfl, rfl⟩
    go_wp2_with fail
    obtain ⟨W5, hW5⟩ : ∃ W5, W5 = W4.alloc (.cells #[vi yn, vi yg, vi yc, .slice yA yl.length ycap] 50) := ⟨_, rfl⟩
    have hb5 : Below W4.heap.size W4 W5 := by rw [hW5]; exact (Below.refl _ _).alloc (Nat.le_refl _) _
    have yy0 : W5.cell? ⟨W4.heap.size, 0, none⟩ = some (vi yn) := by rw [hW5]; simp [go_sem]
    have yy3 : W5.cell? ⟨W4.heap.size, 3, none⟩ = some (.slice yA yl.length ycap) := by rw [hW5]; simp [go_sem]
    rw [← hW5]
    clear hW5 y0 y1 y2 y3
    have HB5 : Below w.heap.size w W5 := HB4.trans (hb5.mono HB4.size)
    have c05 := cell_keep hb5 c04
    have c15 := cell_keep hb5 c14
    have ft05 := cell_keep hb5 ft04
    have ft15 := cell_keep hb5 ft14
    have bt05 := cell_keep hb5 bt04
    have bt15 := cell_keep hb5 bt14
    clear hb5 c04 c14 m14 ft04 ft14 bt04 bt14
    refine (fits_any ⟨rg, some ⟨bb, off, none⟩, rcap, ri⟩ k yn lo hi _ (hl.next HB5) (hr.to HB5)).mono ?_
    rintro e W6 ⟨lv, rfl, hm⟩
    have hb6 := hm.2
    rw [HE1.out.1]
    rw [HE1.out.2] at hm
    obtain ⟨⟨lA, lc, rfl, hl6⟩, -⟩ := hm
    have HB6 : Below w.heap.size w W6 := HB5.trans (hb6.mono HB5.size)
    have yy06 := cell_keep hb6 yy0
    have yy36 := cell_keep hb6 yy3
    have c06 := cell_keep hb6 c05
    have c16 := cell_keep hb6 c15
    have ft06 := cell_keep hb6 ft05
    have ft16 := cell_keep hb6 ft15
    have bt06 := cell_keep hb6 bt05
    have bt16 := cell_keep hb6 bt15
    clear hb6 yy0 yy3 c05 c15 ft05 ft15 bt05 bt15
    go_wp2_with fail
    refine (fits_any ⟨rg, some ⟨bb, off, none⟩, rcap, ri⟩ k yn p1 p2 _ (hl.next HB6) (hr.to HB6)).mono ?_
    rintro e W7 ⟨mv, rfl, hm⟩
    have hb7 := hm.2
    rw [HE2.out.1]
    rw [HE2.out.2] at hm
    obtain ⟨⟨mA, mc, rfl, hm7⟩, -⟩ := hm
    have hl7 := hl6.to hb7
    have HB7 : Below w.heap.size w W7 := HB6.trans (hb7.mono HB6.size)
    have yy07 := cell_keep hb7 yy06
    have yy37 := cell_keep hb7 yy36
    have c07 := cell_keep hb7 c06
    have c17 := cell_keep hb7 c16
    have ft07 := cell_keep hb7 ft06
    have ft17 := cell_keep hb7 ft16
    have bt07 := cell_keep hb7 bt06
    have bt17 := cell_keep hb7 bt16
    clear hb7 yy06 yy36 c06 c16 ft06 ft16 bt06 bt16 hl6
    go_wp2_with fail
    refine (sure_any ⟨rg, some ⟨bb, off, none⟩, rcap, ri⟩ k yn lo hi _ (hl.next HB7) (hr.to HB7)).mono ?_
    rintro e W8 ⟨rfl, hb8⟩
    rw [HE3.out.1, HE3.out.2]
    have hl8 := hl7.to hb8
    have hm8 := hm7.to hb8
    have HB8 : Below w.heap.size w W8 := HB7.trans (hb8.mono HB7.size)
    have yy08 := cell_keep hb8 yy07
    have yy38 := cell_keep hb8 yy37
    have c08 := cell_keep hb8 c07
    have c18 := cell_keep hb8 c17
    have ft08 := cell_keep hb8 ft07
    have ft18 := cell_keep hb8 ft17
    have bt08 := cell_keep hb8 bt07
    have bt18 := cell_keep hb8 bt17
    clear hb8 yy07 yy37 c07 c17 ft07 ft17 bt07 bt17 hl7 hm7
    go_wp2_with fail
    refine (sure_any ⟨rg, some ⟨bb, off, none⟩, rcap, ri⟩ k yn p1 p2 _ (hl.next HB8) (hr.to HB8)).mono ?_
    rintro e W9 ⟨rfl, hb9⟩
    rw [HE4.out]
    have hl9 := hl8.to hb9
    have hm9 := hm8.to hb9
    have HB9 : Below w.heap.size w W9 := HB8.trans (hb9.mono HB8.size)
    have yy09 := cell_keep hb9 yy08
    have yy39 := cell_keep hb9 yy38
    have ft09 := cell_keep hb9 ft08
    have ft19 := cell_keep hb9 ft18
    clear hb9 yy08 yy38 c08 c18 ft08 ft18 bt08 bt18 hl8 hm8
    go_upto_region 17 with fail
    go_cut [167] from 134 to 166 (fun s8 wx => s8 = .bool false ∧ W9 = wx)
    case first =>
      rcases HC.out with ⟨rfl, rfl⟩ | ⟨rfl, rfl, rfl | rfl⟩
      all_goals
        go_wp2_with fail
        go_meet
        exact ⟨rfl, rfl⟩
    obtain ⟨rfl, rfl⟩ := hcut
    go_wp2_with fail
    go_loopw [24, 25] (fun s i wr => ∃ c : Nat, c ≤ yl.length ∧ i = .int .i64 c ∧ s = .bool (surelyB yl av lo hi c) ∧ Below W9.heap.size W9 wr) (fun _ i _ => yl.length - (intOf i).toNat)
    case atStart => exact ⟨0, Nat.zero_le _, rfl, by simp [surelyB], Below.refl _ _⟩
    obtain ⟨c, hc, rfl, rfl, hD⟩ := hrel
    have HBr : Below w.heap.size w wr := HB9.trans (hD.mono HB9.size)
    have yy3r := cell_keep hD yy39
    have ft0r := cell_keep hD ft09
    have ft1r := cell_keep hD ft19
    have hlr := hl9.to hD
    have hmr := hm9.to hD
    have zyr : W4.heap.size < wr.heap.size := cell_lt yy3r
    have zfr : W1.heap.size < wr.heap.size := cell_lt ft0r
    by_cases hct : c < yl.length
    · obtain ⟨⟨zs, zlo, zhi, zp⟩, hz⟩ : ∃ z, yl[c]? = some z := ⟨_, List.getElem?_eq_getElem hct⟩
      obtain ⟨fb, foff, rfl, hfb, z0, z1, z2, z3⟩ := row4 (hyw.below HBr).row hz rfl
      have hzm := List.mem_of_getElem? hz
      have hin1 := HIN1.out _ hzm
      have hin2 := HIN2.out _ hzm
      have hzo := HYO.out.fits _ hzm
      have zf1 := hzo.f1
      have zf2 := hzo.f2
      have hst := surely_step (s := av) (a := lo) (b := hi) hz
      simp only at hin1 hin2 zf1 zf2 hst
      have pl := place_in L zs
      have pm := place_in M zs
      have hcI : (c : Int) < yl.length := by omega
      have h0C : (0 : Int) ≤ c := by omega
      have zfb : fb < wr.heap.size := cell_lt z0
      have hco : fitsP lo hi ⟨zs, zlo, zhi, zp⟩ = (decide (zlo ≤ hi) && decide (lo ≤ zhi)) := rfl
      have hbm : fitsP p1 p2 ⟨zs, zlo, zhi, zp⟩ = (decide (zlo ≤ p2) && decide (p1 ≤ zhi)) := rfl
      have hsu : sureP lo hi ⟨zs, zlo, zhi, zp⟩ = (decide (zlo ≤ lo) && decide (hi ≤ zhi)) := rfl
      rw [hco] at hin1
      rw [hbm] at hin2
      rw [hsu] at hst
      obtain ⟨SB, hSB⟩ : ∃ SB, SB = surelyB yl av lo hi c := ⟨_, rfl⟩
      rw [← hSB] at hst ⊢
      have HST := Lib.hid hst
      have HPL : Hid (((decide (zlo ≤ hi) && decide (lo ≤ zhi)) = true → 0 ≤ placeF L zs) ∧ (¬ (decide (zlo ≤ hi) && decide (lo ≤ zhi)) = true → placeF L zs = -1)) := ⟨fun h => pl.1 (hin1.2 h), fun h => pl.2 (fun h2 => h (hin1.1 h2))⟩
      have HPM : Hid (((decide (zlo ≤ p2) && decide (p1 ≤ zhi)) = true → 0 ≤ placeF M zs) ∧ (¬ (decide (zlo ≤ p2) && decide (p1 ≤ zhi)) = true → placeF M zs = -1)) := ⟨fun h => pm.1 (hin2.2 h), fun h => pm.2 (fun h2 => h (hin2.1 h2))⟩
      clear hst pl pm hin1 hin2 hzo hzm hz hSB hco hbm hsu
      go_upto_region 24 with fail
      obtain ⟨V, hV⟩ : ∃ V, V = wr.alloc (.cells #[vi zs, vi zlo, vi zhi, vi zp] 86) := ⟨_, rfl⟩
      have hbV : Below wr.heap.size wr V := by rw [hV]; exact (Below.refl _ _).alloc (Nat.le_refl _) _
      have zz0 : V.cell? ⟨wr.heap.size, 0, none⟩ = some (vi zs) := by rw [hV]; simp [go_sem]
      have zz1 : V.cell? ⟨wr.heap.size, 1, none⟩ = some (vi zlo) := by rw [hV]; simp [go_sem]
      have zz2 : V.cell? ⟨wr.heap.size, 2, none⟩ = some (vi zhi) := by rw [hV]; simp [go_sem]
      rw [← hV]
      clear hV z0 z1 z2 z3
      have ft0V := cell_keep hbV ft0r
      have ft1V := cell_keep hbV ft1r
      have hlV := hlr.to hbV
      have hmV := hmr.to hbV
      have hDV := gr_trans hD hbV
      clear hbV yy3r ft0r ft1r hlr hmr
      go_cut [27] from 180 to 193 (fun s8 wx => s8 = .bool (decide (zlo ≤ hi) && decide (lo ≤ zhi)) ∧ V = wx)
      case first =>
        by_cases h1 : zlo ≤ hi
        · by_cases h2 : lo ≤ zhi
          · go_wp2_with fail
            go_meet
            exact ⟨(by first | omega | (simp; omega) | (simp; done)), rfl⟩
          · go_wp2_with fail
            go_meet
            exact ⟨(by first | omega | (simp; omega) | (simp; done)), rfl⟩
        · go_wp2_with fail
          go_meet
          exact ⟨(by first | omega | (simp; omega) | (simp; done)), rfl⟩
      obtain ⟨rfl, rfl⟩ := hcut
      go_upto_region 25 with fail
      obtain ⟨CO, hCO⟩ : ∃ CO, CO = (decide (zlo ≤ hi) && decide (lo ≤ zhi)) := ⟨_, rfl⟩
      rw [← hCO] at HPL ⊢
      have HCO := Lib.hid hCO.symm
      clear hCO
      obtain ⟨PL, hPL⟩ : ∃ PL, PL = placeF L zs := ⟨_, rfl⟩
      obtain ⟨PM, hPM⟩ : ∃ PM, PM = placeF M zs := ⟨_, rfl⟩
      rw [← hPL] at HPL
      rw [← hPM] at HPM
      have PLA := Lib.hid (fun (W' : World) h => place_is hPL.symm lA lc W' h)
      have PMA := Lib.hid (fun (W' : World) h => place_is hPM.symm mA mc W' h)
      clear hPL hPM
      have zzV : wr.heap.size < V.heap.size := cell_lt zz0
      go_cut [224] from 194 to 223 (fun s8 wx => s8 = .bool false ∧ Below V.heap.size V wx)
      case first =>
        rcases CO with _ | _
        rotate_left
        · have hco : zlo ≤ hi ∧ lo ≤ zhi := by simpa using HCO.out
          have hp0 := HPL.out.1 rfl
          have hpg : decide (PL < 0) = false := by simp; omega
          have hpg2 : decide (0 ≤ PL) = true := by simpa using hp0
          by_cases hbm : zlo ≤ p2 ∧ p1 ≤ zhi
          · have hq0 := HPM.out.1 (by simpa using hbm)
            have hqg : decide (PM < 0) = false := by simp; omega
            have hqg2 : decide (0 ≤ PM) = true := by simpa using hq0
            by_cases hh : zlo ≤ tr ∧ tr ≤ zhi
            · have hht : (decide (zlo ≤ tr) && decide (tr ≤ zhi)) = true := by simpa using hh
              clear hco hbm hh
              go_wp2_with (first | (go_at_call_of 28 lA; refine (PLA.out _ hlV).mono ?_; rintro e wp ⟨rfl, rfl⟩) | (go_at_call 39; refine (has_is hht _).mono ?_; rintro e wh ⟨rfl, hbh⟩; have hmh := hmV.to hbh; have zzh := cell_keep hbh zz0; have zph := cell_lt zzh) | (go_at_call_of 28 mA; refine (PMA.out _ hmh).mono ?_; rintro e wq ⟨rfl, rfl⟩))
              go_meet
              exact ⟨(by first | omega | (simp; omega) | (simp; done)), hbh⟩
            · have hht : (decide (zlo ≤ tr) && decide (tr ≤ zhi)) = false := by simpa using hh
              clear hco hbm hh
              go_wp2_with (first | (go_at_call_of 28 lA; refine (PLA.out _ hlV).mono ?_; rintro e wp ⟨rfl, rfl⟩) | (go_at_call 39; refine (has_is hht _).mono ?_; rintro e wh ⟨rfl, hbh⟩; have hmh := hmV.to hbh; have zzh := cell_keep hbh zz0; have zph := cell_lt zzh) | (go_at_call_of 28 mA; refine (PMA.out _ hmh).mono ?_; rintro e wq ⟨rfl, rfl⟩))
              go_meet
              exact ⟨(by first | omega | (simp; omega) | (simp; done)), hbh⟩
          · have hq0 := HPM.out.2 (by simpa using hbm)
            have hht : (decide (zlo ≤ tr) && decide (tr ≤ zhi)) = false := by simp; omega
            subst hq0
            clear hco hbm
            go_wp2_with (first | (go_at_call_of 28 lA; refine (PLA.out _ hlV).mono ?_; rintro e wp ⟨rfl, rfl⟩) | (go_at_call 39; refine (has_is hht _).mono ?_; rintro e wh ⟨rfl, hbh⟩; have hmh := hmV.to hbh; have zzh := cell_keep hbh zz0; have zph := cell_lt zzh) | (go_at_call_of 28 mA; refine (PMA.out _ hmh).mono ?_; rintro e wq ⟨rfl, rfl⟩))
            go_meet
            exact ⟨(by first | omega | (simp; omega) | (simp; done)), hbh⟩
        · have hco : ¬ (zlo ≤ hi ∧ lo ≤ zhi) := by simpa using HCO.out
          have hp0 := HPL.out.2 (by simp)
          have hq0 := HPM.out.2 (by simp; omega)
          have hht : (decide (zlo ≤ tr) && decide (tr ≤ zhi)) = false := by simp; omega
          subst hp0 hq0
          clear hco
          go_wp2_with (first | (go_at_call_of 28 lA; refine (PLA.out _ hlV).mono ?_; rintro e wp ⟨rfl, rfl⟩) | (go_at_call 39; refine (has_is hht _).mono ?_; rintro e wh ⟨rfl, hbh⟩; have hmh := hmV.to hbh; have zzh := cell_keep hbh zz0; have zph := cell_lt zzh) | (go_at_call_of 28 mA; refine (PMA.out _ hmh).mono ?_; rintro e wq ⟨rfl, rfl⟩))
          go_meet
          exact ⟨(by first | omega | (simp; omega) | (simp; done)), hbh⟩
      obtain ⟨rfl, hbX⟩ := hcut
      obtain ⟨X, rfl⟩ : ∃ X, X = wc := ⟨_, rfl⟩
      have zz0X := cell_keep hbX zz0
      have zz1X := cell_keep hbX zz1
      have zz2X := cell_keep hbX zz2
      have ft0X := cell_keep hbX ft0V
      have ft1X := cell_keep hbX ft1V
      have hDX := gr_trans hDV hbX
      have zX0 : wr.heap.size < X.heap.size := cell_lt zz0X
      have zX1 : W1.heap.size < X.heap.size := cell_lt ft0X
      clear zz0 zz1 zz2 ft0V ft1V hbX hDV hlV hmV PLA PMA HPL HPM HCO zzV
      go_upto_region 27 with fail
      obtain ⟨SN, hSN⟩ : ∃ SN, SN = (SB || ((zs == av) && (decide (zlo ≤ lo) && decide (hi ≤ zhi)))) := ⟨_, rfl⟩
      have HSN := Lib.hid hSN
      have HST2 := Lib.hid (HST.out.trans hSN.symm)
      clear hSN HST
      rcases SB with _ | _
      · by_cases hsa : zs = av
        · obtain rfl := hsa
          have hse : (zs == zs) = true := by simp
          by_cases hh : zlo ≤ tr ∧ tr ≤ zhi
          · have hht : (decide (zlo ≤ tr) && decide (tr ≤ zhi)) = true := by simpa using hh
            by_cases h3 : zlo ≤ lo ∧ lo ≤ zhi
            · have hhl : (decide (zlo ≤ lo) && decide (lo ≤ zhi)) = true := by simpa using h3
              obtain ⟨HV, hHV⟩ : ∃ HV, HV = (decide (zlo ≤ hi) && decide (hi ≤ zhi)) := ⟨_, rfl⟩
              have hfin : Hid (SN = HV) := by
                unfold Hid
                rw [HSN.out, hHV, Bool.eq_iff_iff]
                simp
                omega
              clear HSN
              go_wp2_with (first | (go_at_call_of 39 tr; refine (has_is hht _).mono ?_; rintro e wh ⟨rfl, hbh⟩; have zh0 := cell_keep hbh zz0X; have zh1 := cell_keep hbh zz1X; have zh2 := cell_keep hbh zz2X; have fh0 := cell_keep hbh ft0X; have fh1 := cell_keep hbh ft1X; have zhz := cell_lt zh0; have zhf := cell_lt fh0) | (go_at_call_of 39 lo; refine (has_is hhl _).mono ?_; rintro e wi ⟨rfl, hbi⟩; have yh0 := cell_keep hbi zh0; have yh1 := cell_keep hbi zh1; have yh2 := cell_keep hbi zh2; have gh0 := cell_keep hbi fh0; have gh1 := cell_keep hbi fh1; have yhz := cell_lt yh0; have yhf := cell_lt gh0) | (go_at_call_of 39 hi; refine (has_is hHV.symm _).mono ?_; rintro e wj ⟨rfl, hbj⟩))
              go_roundw
              case rel => exact ⟨c + 1, by omega, by go_num, by rw [HST2.out, hfin.out, hHV], gr_trans hDX (gr_trans hbh (gr_trans hbi hbj))⟩
              case measure => simp [intOf]; omega
            · have hhl : (decide (zlo ≤ lo) && decide (lo ≤ zhi)) = false := by simpa using h3
              have hfin : Hid (SN = false) := by
                unfold Hid
                rw [HSN.out, Bool.eq_false_iff]
                simp
                omega
              clear HSN
              go_wp2_with (first | (go_at_call_of 39 tr; refine (has_is hht _).mono ?_; rintro e wh ⟨rfl, hbh⟩; have zh0 := cell_keep hbh zz0X; have zh1 := cell_keep hbh zz1X; have zh2 := cell_keep hbh zz2X; have fh0 := cell_keep hbh ft0X; have fh1 := cell_keep hbh ft1X; have zhz := cell_lt zh0; have zhf := cell_lt fh0) | (go_at_call_of 39 lo; refine (has_is hhl _).mono ?_; rintro e wi ⟨rfl, hbi⟩))
              go_roundw
              case rel => exact ⟨c + 1, by omega, by go_num, by rw [HST2.out, hfin.out], gr_trans hDX (gr_trans hbh hbi)⟩
              case measure => simp [intOf]; omega
          · have hht : (decide (zlo ≤ tr) && decide (tr ≤ zhi)) = false := by simpa using hh
            have hfin : Hid (SN = false) := by
              unfold Hid
              rw [HSN.out, Bool.eq_false_iff]
              simp
              omega
            clear HSN
            go_wp2_with (go_at_call_of 39 tr; refine (has_is hht _).mono ?_; rintro e wh ⟨rfl, hbh⟩)
            go_roundw
            case rel => exact ⟨c + 1, by omega, by go_num, by rw [HST2.out, hfin.out], gr_trans hDX (hbh)⟩
            case measure => simp [intOf]; omega
        · have hse : (zs == av) = false := by simpa using hsa
          have hfin : Hid (SN = false) := by unfold Hid; rw [HSN.out, hse]; rfl
          clear HSN
          go_wp2_with fail
          go_roundw
          case rel => exact ⟨c + 1, by omega, by go_num, by rw [HST2.out, hfin.out], gr_trans hDX (Below.refl _ _)⟩
          case measure => simp [intOf]; omega
      · have hfin : Hid (SN = true) := by unfold Hid; rw [HSN.out]; rfl
        clear HSN
        go_wp2_with fail
        go_roundw
        case rel => exact ⟨c + 1, by omega, by go_num, by rw [HST2.out, hfin.out], gr_trans hDX (Below.refl _ _)⟩
        case measure => simp [intOf]; omega
    · obtain rfl : c = yl.length := by omega
      rw [HALL.out]
      have hLI : (L.length : Int) ≤ yl.length := by omega
      rcases HC.out with ⟨rfl, rfl⟩ | ⟨rfl, rfl, -⟩
      all_goals
        go_wp2_with (go_at_call 19; refine (works_any _ (hl.next HBr)).mono ?_; rintro e w9 ⟨rfl, hb9⟩)
        go_ret
        exact ⟨rfl, HBr.trans (hb9.mono HBr.size)⟩
end Go.Proofs.YtpcajmkmmkmekaaDoor
