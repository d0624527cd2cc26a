/- Contract of BookMeant: it answers true. -/
import Derived.Test.YtpcajmkmmkmekaaDoorXK7
import Derived.Test.YtpcajmkmmkmekaaDoorXB6
import Derived.Test.YtpcajmkmmkmekaaDoorGb
import Derived.Deep.RegionHeld3
import Derived.BigQuiet
import Derived.Deep.CutRange
set_option linter.unusedVariables false
set_option linter.unusedSimpArgs false
namespace Go.Proofs.YtpcajmkmmkmekaaDoor
open Go Go.RowKit
set_option maxHeartbeats 8000000
set_option maxRecDepth 100000 in
theorem meant_no_ (r : Rack) (n0 n1 n2 n3 n4 : Int) (w : World) (hl : Lim w) (hr : RackAt w w.heap.size r) (hv : validB r = false) :
    Calls Tryd.prog 4 #[r.val, .agg #[vi n0, vi n1, vi n2, vi n3, vi n4]] w fun e w' => e = .returned (.bool true) ∧ Below w.heap.size w w' := by
  go_enter Tryd.func4, Tryd.ntmps4
  go_wp2_with (first | (go_at_call 20; refine (sound_no r _ (by repeat (first | assumption | refine Lim.alloc ?_ _ | refine Lim.setCell ?_ (by first | (simp; done) | (simp; omega) | omega) _ | refine Lim.drew ?_)) (hr.to (by (repeat (first | exact Below.refl _ _ | refine Below.setCell ?_ (by first | omega | (simp; omega) | (simp; done)) _ | refine Below.alloc ?_ (by first | omega | (simp; omega) | (simp; done)) _ | refine Below.drew ?_ | refine below_drewN ?_ _ | refine Below.trans ?_ (Below.mono (by assumption) (by first | omega | (simp; omega) | (simp; done))))))) hv).mono ?_; rintro e w1 ⟨rfl, hb1⟩; obtain ⟨⟨hc1, hf1, hs1⟩, hz1⟩ := after hb1; (try simp only [World.size_alloc, World.size_setCell, World.size_drew] at hz1); have hl1 : Lim w1 := Lim.next (by repeat (first | assumption | refine Lim.alloc ?_ _ | refine Lim.setCell ?_ (by first | (simp; done) | (simp; omega) | omega) _ | refine Lim.drew ?_)) hb1) | (go_at_call 19; refine (works_any _ (by repeat (first | assumption | refine Lim.alloc ?_ _ | refine Lim.setCell ?_ (by first | (simp; done) | (simp; omega) | omega) _ | refine Lim.drew ?_))).mono ?_; rintro e w1 ⟨rfl, hb1⟩; obtain ⟨⟨hc1, hf1, hs1⟩, hz1⟩ := after hb1; (try simp only [World.size_alloc, World.size_setCell, World.size_drew] at hz1); have hl1 : Lim w1 := Lim.next (by repeat (first | assumption | refine Lim.alloc ?_ _ | refine Lim.setCell ?_ (by first | (simp; done) | (simp; omega) | omega) _ | refine Lim.drew ?_)) hb1))
  go_ret
  refine ⟨rfl, ?_⟩
  (repeat (first | exact Below.refl _ _ | refine Below.setCell ?_ (by first | omega | (simp; omega) | (simp; done)) _ | refine Below.alloc ?_ (by first | omega | (simp; omega) | (simp; done)) _ | refine Below.drew ?_ | refine below_drewN ?_ _ | refine Below.trans ?_ (Below.mono (by assumption) (by first | omega | (simp; omega) | (simp; done)))))
theorem means_span {r : Rack} {a b n : Int} (hv : validB r = true) (h0 : 0 ≤ a) (h1 : b ≤ 20000) (hab : a ≤ b) (h2 : 1 ≤ n) (h3 : n ≤ 9999) : meansErr r a b n = 0 ∧ meansL r a b n = meantL n (bk r.issues (inUseQ a b) r.issues.length) := by
  have h4 : limS 3 a b = true := by rw [limS_iff]; simp [limLo, limHi]; omega
  have h5 : limB 4 n = true := by rw [limB_iff]; simp [limLo, limHi]; omega
  simp [meansErr, meansL, meansAsk, hv, h4, h5]
theorem lot_is {a b n v : Int} (h : lotI a b n = v) (w : World) (ha : -9223372036854775808 ≤ a) (hb : b ≤ 9223372036854775807) (hab : b - a < 9223372036854775807) (hn : -9223372036854775808 ≤ n) (hn' : n ≤ 9223372036854775807) (ha' : a ≤ 9223372036854775807) (hb' : -9223372036854775808 ≤ b) :
    Calls Tryd.prog 23 #[.agg #[vi a, vi b], vi n] w fun e w' => e = .returned (vi v) ∧ Below w.heap.size w w' := by
  subst h
  exact lot_any a b n w ha hb hab hn hn' ha' hb'
set_option maxRecDepth 100000 in
theorem meant_yes_ (r : Rack) (n0 n1 n2 n3 n4 : Int) (w : World) (hl : Lim w) (hr : RackAt w w.heap.size r) (hv : validB r = true)
    (a0 : -9223372036854775808 ≤ n0) (a1 : n0 ≤ 9223372036854775807) (b0 : -9223372036854775808 ≤ n1) (b1 : n1 ≤ 9223372036854775807)
    (d0 : -9223372036854775808 ≤ n2) (d1 : n2 ≤ 9223372036854775807) (e0 : -9223372036854775808 ≤ n3) (e1 : n3 ≤ 9223372036854775807) (f0 : -9223372036854775808 ≤ n4) (f1 : n4 ≤ 9223372036854775807) :
    Calls Tryd.prog 4 #[r.val, .agg #[vi n0, vi n1, vi n2, vi n3, vi n4]] w fun e w' => e = .returned (.bool true) ∧ Below w.heap.size w w' := by
  have hok := rack_ok hv
  have k2 := hok.n2
  obtain ⟨p0, p1⟩ := spin_range n0 600 (by omega)
  obtain ⟨q0, q1⟩ := spin_range n1 300 (by omega)
  obtain ⟨s0, s1⟩ := spin_range n4 40 (by omega)
  obtain ⟨lo, hlo⟩ : ∃ lo, lo = spinI n0 600 := ⟨_, rfl⟩
  obtain ⟨hi, hhi⟩ : ∃ hi, hi = lo + spinI n1 300 := ⟨_, rfl⟩
  obtain ⟨nb, hnb⟩ : ∃ nb, nb = 1 + spinI n4 40 := ⟨_, rfl⟩
  obtain ⟨t0, t1⟩ := lot_range (n := n2) (show lo ≤ hi by omega)
  obtain ⟨g1, hg1⟩ : ∃ g1, g1 = lotI lo hi n2 := ⟨_, rfl⟩
  rw [← hg1] at t0 t1
  obtain ⟨u0, u1⟩ := lot_range (n := n3) t1
  obtain ⟨g2, hg2⟩ : ∃ g2, g2 = lotI g1 hi n3 := ⟨_, rfl⟩
  rw [← hg2] at u0 u1
  have l0 : 0 ≤ lo := by omega
  have l1 : lo ≤ hi := by omega
  have l2 : hi ≤ 20000 := by omega
  have l3 : 1 ≤ nb := by omega
  have l4 : nb ≤ 9999 := by omega
  obtain ⟨M, hM⟩ : ∃ M, M = meantL nb (bk r.issues (inUseQ lo hi) r.issues.length) := ⟨_, rfl⟩
  obtain ⟨F, hF⟩ : ∃ F, F = meantL nb (bk r.issues (inUseQ g1 g2) r.issues.length) := ⟨_, rfl⟩
  have hMl : M.length ≤ 4 := by rw [hM]; exact Nat.le_trans meant_short k2
  have hFl : F.length ≤ 4 := by rw [hF]; exact Nat.le_trans meant_short k2
  have HM1 := Lib.hid (means_span hv l0 l2 l1 l3 l4)
  have HF1 := Lib.hid (means_span (a := g1) (b := g2) hv (by omega) (by omega) u0 l3 l4)
  rw [← hM] at HM1
  rw [← hF] at HF1
  have HFM : Hid (∀ p ∈ F, amongB M p M.length = true) := fun p hp => by
    rw [among_all, hM]
    rw [hF] at hp
    exact meant_fewer (inUse_fewer t0 u1) hp
  have HM := Lib.hid hM
  have HLO := Lib.hid hlo
  have HHI := Lib.hid hhi
  have HNB := Lib.hid hnb
  have HG1 := Lib.hid hg1
  have HG2 := Lib.hid hg2
  have HOK := Lib.hid hok
  clear hM hF hok hlo hhi hnb hg1 hg2
  obtain ⟨rg, rA, rcap, ri⟩ := r
  have hri : IssuesAt w w.heap.size rA rcap ri := hr
  go_enter Tryd.func4, Tryd.ntmps4
  go_wp2_with fail
  refine (sound_yes ⟨rg, rA, rcap, ri⟩ _ (by repeat (first | assumption | refine Lim.alloc ?_ _ | refine Lim.setCell ?_ (by first | (simp; done) | (simp; omega) | omega) _ | refine Lim.drew ?_)) (hr.to (by (repeat (first | exact Below.refl _ _ | refine Below.setCell ?_ (by first | omega | (simp; omega) | (simp; done)) _ | refine Below.alloc ?_ (by first | omega | (simp; omega) | (simp; done)) _ | refine Below.drew ?_ | refine below_drewN ?_ _ | refine Below.trans ?_ (Below.mono (by assumption) (by first | omega | (simp; omega) | (simp; done))))))) hv).mono ?_
  rintro e W ⟨rfl, hb⟩
  have HB0 : Below w.heap.size w W := by (repeat (first | exact Below.refl _ _ | refine Below.setCell ?_ (by first | omega | (simp; omega) | (simp; done)) _ | refine Below.alloc ?_ (by first | omega | (simp; omega) | (simp; done)) _ | refine Below.drew ?_ | refine below_drewN ?_ _ | refine Below.trans ?_ (Below.mono (by assumption) (by first | omega | (simp; omega) | (simp; done)))))
  have c0 : W.cell? ⟨w.heap.size, 0, none⟩ = some (vi rg) := (hb.cell (p := ⟨w.heap.size, 0, none⟩) (by first | omega | (simp; omega) | (simp; done))).trans (by simp [go_sem])
  have c1 : W.cell? ⟨w.heap.size, 1, none⟩ = some (.slice rA ri.length rcap) := (hb.cell (p := ⟨w.heap.size, 1, none⟩) (by first | omega | (simp; omega) | (simp; done))).trans (by simp [go_sem])
  have m0 : W.cell? ⟨w.heap.size + 1, 0, none⟩ = some (vi n0) := (hb.cell (p := ⟨w.heap.size + 1, 0, none⟩) (by first | omega | (simp; omega) | (simp; done))).trans (by simp [go_sem])
  have m1 : W.cell? ⟨w.heap.size + 1, 1, none⟩ = some (vi n1) := (hb.cell (p := ⟨w.heap.size + 1, 1, none⟩) (by first | omega | (simp; omega) | (simp; done))).trans (by simp [go_sem])
  have m2 : W.cell? ⟨w.heap.size + 1, 2, none⟩ = some (vi n2) := (hb.cell (p := ⟨w.heap.size + 1, 2, none⟩) (by first | omega | (simp; omega) | (simp; done))).trans (by simp [go_sem])
  have m3 : W.cell? ⟨w.heap.size + 1, 3, none⟩ = some (vi n3) := (hb.cell (p := ⟨w.heap.size + 1, 3, none⟩) (by first | omega | (simp; omega) | (simp; done))).trans (by simp [go_sem])
  have m4 : W.cell? ⟨w.heap.size + 1, 4, none⟩ = some (vi n4) := (hb.cell (p := ⟨w.heap.size + 1, 4, none⟩) (by first | omega | (simp; omega) | (simp; done))).trans (by simp [go_sem])
  have z0 : w.heap.size < W.heap.size := by have := hb.size; simp at this; omega
  have z1 : w.heap.size + 1 < W.heap.size := by have := hb.size; simp at this; omega
  have zz := HB0.size
  clear hb
  go_wp2_with fail
  refine (spin_any _ _ _ (by omega) (by omega) (by omega)).mono ?_
  rintro e W1 ⟨rfl, he⟩
  rw [← he, ← HLO.out]
  clear he W1
  go_wp2_with fail
  refine (spin_any _ _ _ (by omega) (by omega) (by omega)).mono ?_
  rintro e W1 ⟨rfl, he⟩
  rw [← he]
  clear he W1
  go_wp2_with fail
  rw [← HHI.out]
  refine (to_any _ _ _).mono ?_
  rintro e W3 ⟨rfl, hb3⟩
  have HB3 : Below w.heap.size w W3 := HB0.trans (hb3.mono zz)
  have zW3 := hb3.size
  have c03 := (hb3.cell (p := ⟨w.heap.size, 0, none⟩) z0).trans c0
  have c13 := (hb3.cell (p := ⟨w.heap.size, 1, none⟩) z0).trans c1
  have m23 := (hb3.cell (p := ⟨w.heap.size + 1, 2, none⟩) z1).trans m2
  have m33 := (hb3.cell (p := ⟨w.heap.size + 1, 3, none⟩) z1).trans m3
  have m43 := (hb3.cell (p := ⟨w.heap.size + 1, 4, none⟩) z1).trans m4
  have y0 : w.heap.size < W3.heap.size := by omega
  have y1 : w.heap.size + 1 < W3.heap.size := by omega
  clear hb3 c0 c1 m0 m1 m2 m3 m4
  go_wp2_with fail
  refine (lot_any _ _ _ _ (by omega) (by omega) (by omega) (by omega) (by omega) (by omega) (by omega)).mono ?_
  rintro e W4 ⟨rfl, hb4⟩
  rw [← HG1.out]
  have HB4 : Below w.heap.size w W4 := by (repeat (first | exact Below.refl _ _ | refine Below.setCell ?_ (by first | omega | (simp; omega) | (simp; done)) _ | refine Below.alloc ?_ (by first | omega | (simp; omega) | (simp; done)) _ | refine Below.drew ?_ | refine below_drewN ?_ _ | refine Below.trans ?_ (Below.mono (by assumption) (by first | omega | (simp; omega) | (simp; done)))))
  have zW4 : W3.heap.size + 1 ≤ W4.heap.size := by have := hb4.size; simp at this; omega
  have c04 : W4.cell? ⟨w.heap.size, 0, none⟩ = some (vi rg) := (hb4.cell (p := ⟨w.heap.size, 0, none⟩) (by first | omega | (simp; omega) | (simp; done))).trans (by simp [go_sem, *])
  have c14 : W4.cell? ⟨w.heap.size, 1, none⟩ = some (.slice rA ri.length rcap) := (hb4.cell (p := ⟨w.heap.size, 1, none⟩) (by first | omega | (simp; omega) | (simp; done))).trans (by simp [go_sem, *])
  have m34 : W4.cell? ⟨w.heap.size + 1, 3, none⟩ = some (vi n3) := (hb4.cell (p := ⟨w.heap.size + 1, 3, none⟩) (by first | omega | (simp; omega) | (simp; done))).trans (by simp [go_sem, *])
  have m44 : W4.cell? ⟨w.heap.size + 1, 4, none⟩ = some (vi n4) := (hb4.cell (p := ⟨w.heap.size + 1, 4, none⟩) (by first | omega | (simp; omega) | (simp; done))).trans (by simp [go_sem, *])
  have v04 : W4.cell? ⟨W3.heap.size, 0, none⟩ = some (vi lo) := (hb4.cell (p := ⟨W3.heap.size, 0, none⟩) (by first | omega | (simp; omega) | (simp; done))).trans (by simp [go_sem])
  have v14 : W4.cell? ⟨W3.heap.size, 1, none⟩ = some (vi hi) := (hb4.cell (p := ⟨W3.heap.size, 1, none⟩) (by first | omega | (simp; omega) | (simp; done))).trans (by simp [go_sem])
  clear hb4 c03 c13 m23 m33 m43
  go_wp2_with fail
  go_cut [8] from 39 to 47 (fun s8 wx => ∃ b : Nat, W4.heap.size ≤ b ∧ s8 = .pointer (some ⟨b, 0, none⟩) ∧ Below W4.heap.size W4 wx ∧ b < wx.heap.size ∧ wx.cell? ⟨b, 0, none⟩ = some (vi g1) ∧ wx.cell? ⟨b, 1, none⟩ = some (vi g2))
  case first =>
    have zq := HB4.size
    have z9 : W3.heap.size < W4.heap.size := by omega
    have z8 : w.heap.size + 1 < W4.heap.size := by omega
    have HL : Hid (lotI g1 hi n3 = g2) := HG2.out.symm
    refine' wp_region_box (fun w' => Below W4.heap.size W4 w') (stays_below _) [0, 1, 2, 3, 4, 5, 6, 7, 8] 2 169 (by kernel_rfl) (by kernel_rfl) rfl (by kernel_rfl) (by kernel_rfl) rfl (by kernel_rfl) ?hl (Below.refl _ _) ?hq ?hr
    case hl =>
      simp only [List.map_cons, List.map_nil, List.getD_cons_zero, List.getD_cons_succ]
      exact rfl
    case hq =>
      intro w0 hw0
      have zw0 := hw0.size
      have q1 := cell_keep hw0 v14
      have q2 := cell_keep hw0 m34
      have e1 : W3.heap.size < w0.heap.size := by omega
      have e2 : w.heap.size + 1 < w0.heap.size := by omega
      (repeat (go_big_quiet_step (first | (go_at_call 22; refine Calls.grow_of (to_any _ _ _)) | (go_at_call 23; refine Calls.grow_of (lot_is HL.out _ (by omega) (by omega) (by omega) (by omega) (by omega) (by omega) (by omega))))))
      exact wpQuiet_nil rfl
    refine wpUp_one (i := 9) (by kernel_rfl) rfl rfl (fun w1 h1 h2 K hK => ?_)
    go_simp
    refine hK _ _ (h2.alloc h2.size _) ?_
    refine wpUp_one (i := 10) (by kernel_rfl) rfl rfl (fun w2 h3 h4 K2 hK2 => ?_)
    have f0 : w2.frozen? ⟨w1.heap.size, 0, none⟩ = false := soft_keep h3 (by simp) (by simp [go_sem])
    have f1 : w2.frozen? ⟨w1.heap.size, 1, none⟩ = false := soft_keep h3 (by simp) (by simp [go_sem])
    have k0 : w2.cell? ⟨w1.heap.size, 0, none⟩ = some (vi 0) := cell_keep h3 (by simp [go_sem])
    have k1 : w2.cell? ⟨w1.heap.size, 1, none⟩ = some (vi 0) := cell_keep h3 (by simp [go_sem])
    go_simp
    have hw1 := h1.size
    have HBV : Below W4.heap.size W4 ((w2.setCell ⟨w1.heap.size, 0, none⟩ (vi g1)).setCell ⟨w1.heap.size, 1, none⟩ (vi g2)) := (h4.setCell (p := ⟨w1.heap.size, 0, none⟩) hw1 _).setCell (p := ⟨w1.heap.size, 1, none⟩) hw1 _
    refine hK2 _ _ HBV ?_
    refine wpUp_done (by kernel_rfl) (fun w4 h5 h6 => NoPanic.normal ?_)
    have k0' : w4.cell? ⟨w1.heap.size, 0, none⟩ = some (vi g1) := cell_keep h5 (by simp [go_sem, k0, k1])
    have k1' : w4.cell? ⟨w1.heap.size, 1, none⟩ = some (vi g2) := cell_keep h5 (by simp [go_sem, k0, k1])
    have k2' := cell_lt k0'
    go_wp2_with fail
    go_meet
    case rel => exact ⟨w1.heap.size, hw1, rfl, h6, k2', k0', k1'⟩
  obtain ⟨b8, hb8, rfl, HB5, zb8, u0', u1'⟩ := hcut
  have HB6 : Below w.heap.size w wc := HB4.trans (HB5.mono HB4.size)
  have zB5 := HB5.size
  have c06 : wc.cell? ⟨w.heap.size, 0, none⟩ = some (vi rg) := cell_keep HB5 c04
  have c16 : wc.cell? ⟨w.heap.size, 1, none⟩ = some (.slice rA ri.length rcap) := cell_keep HB5 c14
  have m46 : wc.cell? ⟨w.heap.size + 1, 4, none⟩ = some (vi n4) := cell_keep HB5 m44
  have v06 : wc.cell? ⟨W3.heap.size, 0, none⟩ = some (vi lo) := cell_keep HB5 v04
  have v16 : wc.cell? ⟨W3.heap.size, 1, none⟩ = some (vi hi) := cell_keep HB5 v14
  clear c04 c14 m34 m44 v04 v14
  go_wp2_with fail
  refine (spin_any _ _ _ (by omega) (by omega) (by omega)).mono ?_
  rintro e W5 ⟨rfl, he⟩
  rw [← he]
  clear he W5
  go_wp2_with fail
  rw [← HNB.out]
  refine (means_ ⟨rg, rA, rcap, ri⟩ lo hi nb _ (hl.next HB6) (hr.to HB6)).mono ?_
  rintro e W6 ⟨mv, rfl, hm⟩
  have hb6 := hm.2
  rw [HM1.out.1]
  rw [HM1.out.2] at hm
  obtain ⟨⟨mA, mc, rfl, lm1, lm2, lm3, -⟩, -⟩ := hm
  rw [List.length_map] at lm1 ⊢
  have hm6 : RowsAt W6 W6.heap.size 2 mA mc (M.map meantC) := ⟨by rw [List.length_map]; exact lm1, lm2, lm3⟩
  have HB7 : Below w.heap.size w W6 := HB6.trans (hb6.mono HB6.size)
  have zB6 := hb6.size
  have c07 := cell_keep hb6 c06
  have c17 := cell_keep hb6 c16
  have v07 := cell_keep hb6 v06
  have v17 := cell_keep hb6 v16
  have u07 := cell_keep hb6 u0'
  have u17 := cell_keep hb6 u1'
  clear hb6 c06 c16 m46 v06 v16 u0' u1' lm3
  go_wp2_with fail
  refine (means_ ⟨rg, rA, rcap, ri⟩ g1 g2 nb _ (hl.next HB7) (hr.to HB7)).mono ?_
  rintro e W7 ⟨fv, rfl, hf⟩
  have hb7 := hf.2
  rw [HF1.out.1]
  rw [HF1.out.2] at hf
  obtain ⟨⟨fA, fc, rfl, ln1, ln2, ln3, -⟩, -⟩ := hf
  rw [List.length_map] at ln1 ⊢
  have hf7 : RowsAt W7 W7.heap.size 2 fA fc (F.map meantC) := ⟨by rw [List.length_map]; exact ln1, ln2, ln3⟩
  have hm7 := hm6.to hb7
  have HB8 : Below w.heap.size w W7 := HB7.trans (hb7.mono HB7.size)
  have zB7 := hb7.size
  have c08 := cell_keep hb7 c07
  have c18 := cell_keep hb7 c17
  have v08 := cell_keep hb7 v07
  have v18 := cell_keep hb7 v17
  clear hb7 c07 c17 v07 v17 u07 u17 ln3 hm6
  go_wp2_with fail
  have hmI : (M.length : Int) ≤ 4 := by omega
  have hfI : (F.length : Int) ≤ 4 := by omega
  have hrI : (ri.length : Int) ≤ 4 := by omega
  go_loopw [14, 15] (fun nx i wr => ∃ k : Nat, k ≤ ri.length ∧ i = .int .i64 k ∧ nx = .int .i64 (nextN ri (inUseQ lo hi) nb k : Nat) ∧ Below W7.heap.size W7 wr) (fun _ i _ => ri.length - (intOf i).toNat)
  case atStart => exact ⟨0, Nat.zero_le _, rfl, by rw [next_zero]; rfl, Below.refl _ _⟩
  obtain ⟨k, hk, rfl, rfl, hC⟩ := hrel
  have HB9 : Below w.heap.size w wr := HB8.trans (hC.mono HB8.size)
  have zC := hC.size
  have c0r := cell_keep hC c08
  have c1r := cell_keep hC c18
  have v0r := cell_keep hC v08
  have v1r := cell_keep hC v18
  by_cases hlt : k < ri.length
  · obtain ⟨⟨xlo, xhi, xhd, xA, xcap, xl⟩, hx⟩ : ∃ x, ri[k]? = some x := ⟨_, List.getElem?_eq_getElem hlt⟩
    have hxo := HOK.out.issues _ (List.mem_of_getElem? hx)
    obtain ⟨bb, off, rfl, hbb, -⟩ := row4 hri.row hx rfl
    have HX := Lib.hid hx
    have HXO := Lib.hid hxo
    clear hx hxo
    obtain ⟨zbb, x0, x1, x2, x3⟩ := row4k (hri.to HB9).row HX.out rfl
    replace x0 : wr.cell? ⟨bb, off + k * 4, none⟩ = some (vi xlo) := x0
    replace x1 : wr.cell? ⟨bb, off + k * 4 + 1, none⟩ = some (vi xhi) := x1
    replace x2 : wr.cell? ⟨bb, off + k * 4 + 2, none⟩ = some (vi xhd) := x2
    replace x3 : wr.cell? ⟨bb, off + k * 4 + 3, none⟩ = some (.slice xA xl.length xcap) := x3
    have hxe : EntriesAt wr w.heap.size xA xcap xl := (hri.below HB9).at_ HX.out
    have xcap2 := hxe.cap
    have xlen2 := hxe.len
    have hkI : (k : Int) < ri.length := by omega
    have h0I : (0 : Int) ≤ k := by omega
    go_wp2_with fail
    obtain ⟨wo, rfl⟩ : ∃ wo : World, wo = wr := ⟨_, rfl⟩
    go_loopw [14, 17] (fun nx i ws => ∃ j : Nat, j ≤ xl.length ∧ i = .int .i64 j ∧ nx = .int .i64 (nextK ri (inUseQ lo hi) nb k ⟨xlo, xhi, xhd, xA, xcap, xl⟩ j : Nat) ∧ Below wo.heap.size wo ws ∧
        ws.cell? ⟨wo.heap.size, 0, none⟩ = some (vi xlo) ∧ ws.cell? ⟨wo.heap.size, 1, none⟩ = some (vi xhi) ∧ ws.cell? ⟨wo.heap.size, 3, none⟩ = some (.slice xA xl.length xcap)) (fun _ i _ => xl.length - (intOf i).toNat)
    case atStart => exact ⟨0, Nat.zero_le _, rfl, by rw [nextK_zero], (Below.refl _ _).alloc (Nat.le_refl _) _, by simp [go_sem], by simp [go_sem], by simp [go_sem]⟩
    obtain ⟨j, hj, rfl, rfl, hD, w0, w1, w3⟩ := hrel
    have zD := hD.size
    have v0s := cell_keep hD v0r
    have v1s := cell_keep hD v1r
    have hxs : EntriesAt wr w.heap.size xA xcap xl := (hri.below (HB9.trans (hD.mono HB9.size))).at_ HX.out
    obtain ⟨nk, hnk⟩ : ∃ nk, nk = nextK ri (inUseQ lo hi) nb k ⟨xlo, xhi, xhd, xA, xcap, xl⟩ j := ⟨_, rfl⟩
    rw [← hnk]
    have hnk4 : (nk : Int) ≤ 4 := by have := nextK_le (l := ri) (q := inUseQ lo hi) (n := nb) (i := k) (x := ⟨xlo, xhi, xhd, xA, xcap, xl⟩) (k := j); omega
    have HNK := Lib.hid hnk
    clear hnk
    by_cases hjt : j < xl.length
    · obtain ⟨⟨en, eg, ec, eA, ecap, el⟩, he⟩ : ∃ e, xl[j]? = some e := ⟨_, List.getElem?_eq_getElem hjt⟩
      obtain ⟨qb, qoff, rfl, hqb, e0, e1, -, -⟩ := row4 hxs.row he rfl
      have HE := Lib.hid he
      clear he
      have hjI : (j : Int) < xl.length := by omega
      have h0J : (0 : Int) ≤ j := by omega
      by_cases hnn : nb = en
      · obtain rfl : nb = en := hnn
        by_cases hq1 : xhi < lo
        · have HST : Hid (nextK ri (inUseQ lo hi) nb k ⟨xlo, xhi, xhd, some ⟨qb, qoff, none⟩, xcap, xl⟩ (j + 1) = nk) := by
            rw [HNK.out]; exact nextK_out (by simp [inUseQ, meetB]; omega)
          go_wp2_with fail
          go_roundw
          case rel => exact ⟨j + 1, by omega, by go_num, by rw [HST.out], hD, w0, w1, w3⟩
          case measure => simp [intOf]; omega
        · by_cases hq2 : hi < xlo
          · have HST : Hid (nextK ri (inUseQ lo hi) nb k ⟨xlo, xhi, xhd, some ⟨qb, qoff, none⟩, xcap, xl⟩ (j + 1) = nk) := by
              rw [HNK.out]; exact nextK_out (by simp [inUseQ, meetB]; omega)
            go_wp2_with fail
            go_roundw
            case rel => exact ⟨j + 1, by omega, by go_num, by rw [HST.out], hD, w0, w1, w3⟩
            case measure => simp [intOf]; omega
          · obtain ⟨hs1, hs2⟩ := nextK_yes (l := ri) (q := inUseQ lo hi) HXO.out HX.out HE.out rfl (by simp [inUseQ, meetB]; omega)
            simp only at hs1 hs2
            rw [← HNK.out] at hs1 hs2
            rw [← HM.out] at hs2
            have HST := Lib.hid hs1
            have hnl := (List.getElem?_eq_some_iff.1 hs2).1
            obtain ⟨mb, moff, rfl, hmb, y0, y1⟩ := row2 (hm7.to (hC.trans (hD.mono hC.size))).row hs2 rfl
            have hnI : (nk : Int) < M.length := by omega
            have h0N : (0 : Int) ≤ nk := by omega
            clear hs1 hs2
            have w3b : wr.cell? ⟨wo.heap.size, 3, none⟩ = some (.slice (some ⟨qb, qoff, none⟩) xl.length xcap) := w3
            clear w3
            have hdd : decide (M.length ≤ nk) = false := by simp; omega
            go_wp2_with fail
            go_quiet (fail)
            go_wp2
            go_roundw
            case rel => exact ⟨j + 1, by omega, by go_num, by rw [HST.out]; go_num, by (repeat (first | exact Below.refl _ _ | refine Below.setCell ?_ (by first | omega | (simp; omega) | (simp; done)) _ | refine Below.alloc ?_ (by first | omega | (simp; omega) | (simp; done)) _ | refine Below.drew ?_ | refine below_drewN ?_ _ | refine Below.trans ?_ (Below.mono (by assumption) (by first | omega | (simp; omega) | (simp; done))))), w0, w1, w3b⟩
            case measure => simp [intOf]; omega
      · have HST : Hid (nextK ri (inUseQ lo hi) nb k ⟨xlo, xhi, xhd, some ⟨qb, qoff, none⟩, xcap, xl⟩ (j + 1) = nk) := by
          rw [HNK.out]; exact nextK_not HE.out (fun h => hnn h.symm)
        go_wp2_with fail
        go_roundw
        case rel => exact ⟨j + 1, by omega, by go_num, by rw [HST.out], hD, w0, w1, w3⟩
        case measure => simp [intOf]; omega
    · obtain rfl : j = xl.length := by omega
      have HNX : Hid (nextN ri (inUseQ lo hi) nb (k + 1) = nk) := by unfold Hid; rw [next_step HX.out, HNK.out]
      go_wp2_with fail
      go_roundw
      case rel => exact ⟨k + 1, by omega, by go_num, by rw [HNX.out], hC.trans (hD.mono hC.size)⟩
      case measure => simp [intOf]; omega
  · obtain rfl : k = ri.length := by omega
    have HN : Hid (nextN ri (inUseQ lo hi) nb ri.length = M.length) := by unfold Hid; rw [HM.out]; rfl
    rw [HN.out]
    obtain ⟨wo, rfl⟩ : ∃ wo : World, wo = wr := ⟨_, rfl⟩
    have hmo := hm7.to hC
    have hfo := hf7.to hC
    clear hm7 hf7
    go_wp2_with fail
    go_loopw [18] (fun i wx => ∃ a : Nat, a ≤ F.length ∧ i = .int .i64 a ∧ Below wo.heap.size wo wx) (fun i _ => F.length - (intOf i).toNat)
    case atStart => exact ⟨0, Nat.zero_le _, rfl, Below.refl _ _⟩
    obtain ⟨a, ha, rfl, hE⟩ := hrel
    have hEs := hE.size
    have HBE : Below w.heap.size w wr := HB9.trans (hE.mono HB9.size)
    by_cases hat : a < F.length
    · obtain ⟨p, hp⟩ : ∃ p, F[a]? = some p := ⟨_, List.getElem?_eq_getElem hat⟩
      have hall := Lib.hid (HFM.out p (List.mem_of_getElem? hp))
      have hp2 := Lib.hid hp
      clear hp
      have haI : (a : Int) < F.length := by omega
      have h0A : (0 : Int) ≤ a := by omega
      obtain ⟨wi, rfl⟩ : ∃ wi : World, wi = wr := ⟨_, rfl⟩
      go_wp2_with fail
      go_loopw [19, 20] (fun f i wx => ∃ c : Nat, c ≤ M.length ∧ i = .int .i64 c ∧ f = .bool (amongB M p c) ∧ Below wi.heap.size wi wx) (fun _ i _ => M.length - (intOf i).toNat)
      case atStart => exact ⟨0, Nat.zero_le _, rfl, by simp [amongB], Below.refl _ _⟩
      obtain ⟨c, hc, rfl, rfl, hG⟩ := hrel
      have hGs := hG.size
      by_cases hct : c < M.length
      · obtain ⟨y, hy⟩ : ∃ y, M[c]? = some y := ⟨_, List.getElem?_eq_getElem hct⟩
        obtain ⟨fb, foff, rfl, hfb, x0, x1⟩ := row2 (hfo.to (hE.trans (hG.mono hE.size))).row hp2.out rfl
        obtain ⟨mb, moff, rfl, hmb, y0, y1⟩ := row2 (hmo.to (hE.trans (hG.mono hE.size))).row hy rfl
        have hst := among_step (p := p) hy
        have hcI : (c : Int) < M.length := by omega
        have h0C : (0 : Int) ≤ c := by omega
        clear hy
        rcases hdk : amongB M p c with _ | _
        · obtain ⟨q0, q1⟩ := p
          obtain ⟨r0, r1⟩ := y
          simp only at x0 x1 y0 y1
          by_cases hpq : r0 = q0 ∧ r1 = q1
          · obtain ⟨rfl, rfl⟩ := hpq
            have HD3 : Hid (amongB M (r0, r1) (c + 1) = true) := hst.trans (by simp)
            clear hst
            go_wp2_with fail
            go_quiet (fail)
            go_wp2
            go_roundw
            case rel => exact ⟨c + 1, by omega, by go_num, by rw [HD3.out], by (repeat (first | exact Below.refl _ _ | refine Below.setCell ?_ (by first | omega | (simp; omega) | (simp; done)) _ | refine Below.alloc ?_ (by first | omega | (simp; omega) | (simp; done)) _ | refine Below.drew ?_ | refine below_drewN ?_ _ | refine Below.trans ?_ (Below.mono (by assumption) (by first | omega | (simp; omega) | (simp; done)))))⟩
            case measure => simp [intOf]; omega
          · have HD3 : Hid (amongB M (q0, q1) (c + 1) = false) := by unfold Hid; rw [hst, hdk]; simpa using fun h => fun h2 => hpq ⟨h, h2⟩
            clear hst
            by_cases hr0 : r0 = q0
            · obtain rfl := hr0
              have hr1 : ¬ r1 = q1 := fun h => hpq ⟨rfl, h⟩
              have hr2 : (r1 == q1) = false := by simpa using hr1
              clear hpq
              go_wp2_with fail
              go_quiet (fail)
              go_wp2
              go_roundw
              case rel => exact ⟨c + 1, by omega, by go_num, by rw [HD3.out], by (repeat (first | exact Below.refl _ _ | refine Below.setCell ?_ (by first | omega | (simp; omega) | (simp; done)) _ | refine Below.alloc ?_ (by first | omega | (simp; omega) | (simp; done)) _ | refine Below.drew ?_ | refine below_drewN ?_ _ | refine Below.trans ?_ (Below.mono (by assumption) (by first | omega | (simp; omega) | (simp; done)))))⟩
              case measure => simp [intOf]; omega
            · have hr2 : (r0 == q0) = false := by simpa using hr0
              clear hpq
              go_wp2_with fail
              go_quiet (fail)
              go_wp2
              go_roundw
              case rel => exact ⟨c + 1, by omega, by go_num, by rw [HD3.out], by (repeat (first | exact Below.refl _ _ | refine Below.setCell ?_ (by first | omega | (simp; omega) | (simp; done)) _ | refine Below.alloc ?_ (by first | omega | (simp; omega) | (simp; done)) _ | refine Below.drew ?_ | refine below_drewN ?_ _ | refine Below.trans ?_ (Below.mono (by assumption) (by first | omega | (simp; omega) | (simp; done)))))⟩
              case measure => simp [intOf]; omega
        · rw [hdk] at hst
          have HD3 := Lib.hid hst
          clear hst hdk
          go_wp2_with fail
          (refine wp_region_grow_lit (by kernel_rfl) (by kernel_rfl) ?_; (repeat (go_big_quiet_step (fail))); refine wpQuiet_nil ?_; intro w1 hw1; have hb1 := below_of_plus hw1; clear hw1; obtain ⟨⟨hc1, hf1, hs1⟩, hz1⟩ := after hb1; (try simp only [World.size_alloc, World.size_setCell, World.size_drew] at hz1))
          go_wp2
          go_roundw
          case rel => exact ⟨c + 1, by omega, by go_num, by rw [HD3.out]; rfl, hG.trans (hb1.mono hGs)⟩
          case measure => simp [intOf]; omega
      · obtain rfl : c = M.length := by omega
        rw [hall.out]
        go_wp2_with fail
        go_roundw
        case rel => exact ⟨a + 1, by omega, by go_num, hE.trans (hG.mono hEs)⟩
        case measure => simp [intOf]; omega
    · obtain rfl : a = F.length := by omega
      go_wp2_with (go_at_call 19; refine (works_any _ (hl.next HBE)).mono ?_; rintro e w9 ⟨rfl, hb9⟩)
      go_ret
      exact ⟨rfl, HBE.trans (hb9.mono HBE.size)⟩
end Go.Proofs.YtpcajmkmmkmekaaDoor
