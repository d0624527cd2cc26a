/- Contract of BookCheapest: it answers true. -/
import Derived.Test.YtpcajmkmmkmekaaDoorXK14
import Derived.Test.YtpcajmkmmkmekaaDoorXB13
set_option linter.unusedVariables false
set_option linter.unusedSimpArgs false
namespace Go.Proofs.YtpcajmkmmkmekaaDoor
open Go Go.RowKit
set_option maxHeartbeats 8000000
set_option maxRecDepth 100000 in
theorem cheap_no (r : Rack) (A : Option Addr) (cap : Nat) (bits : List Int) (k0 k1 k2 : Int) (w : World) (hl : Lim w) (hr : RackAt w w.heap.size r) (hv : validB r = false) :
    Calls Tryd.prog 11 #[r.val, .slice A bits.length cap, .agg #[vi k0, vi k1, vi k2]] w fun e w' => e = .returned (.bool true) ∧ Below w.heap.size w w' := by
  go_enter Tryd.func11, Tryd.ntmps11
  go_wp2_with (first | (go_at_call 20; refine (sound_no r _ (by repeat (first | assumption | refine Lim.alloc ?_ _ | refine Lim.setCell ?_ (by first | (simp; done) | (simp; omega) | omega) _ | refine Lim.drew ?_)) (hr.to (by (repeat (first | exact Below.refl _ _ | refine Below.setCell ?_ (by first | omega | (simp; omega) | (simp; done)) _ | refine Below.alloc ?_ (by first | omega | (simp; omega) | (simp; done)) _ | refine Below.drew ?_ | refine below_drewN ?_ _ | refine Below.trans ?_ (Below.mono (by assumption) (by first | omega | (simp; omega) | (simp; done))))))) hv).mono ?_; rintro e w1 ⟨rfl, hb1⟩; obtain ⟨⟨hc1, hf1, hs1⟩, hz1⟩ := after hb1; (try simp only [World.size_alloc, World.size_setCell, World.size_drew] at hz1); have hl1 : Lim w1 := Lim.next (by repeat (first | assumption | refine Lim.alloc ?_ _ | refine Lim.setCell ?_ (by first | (simp; done) | (simp; omega) | omega) _ | refine Lim.drew ?_)) hb1) | (go_at_call 19; refine (works_any _ (by repeat (first | assumption | refine Lim.alloc ?_ _ | refine Lim.setCell ?_ (by first | (simp; done) | (simp; omega) | omega) _ | refine Lim.drew ?_))).mono ?_; rintro e w1 ⟨rfl, hb1⟩; obtain ⟨⟨hc1, hf1, hs1⟩, hz1⟩ := after hb1; (try simp only [World.size_alloc, World.size_setCell, World.size_drew] at hz1); have hl1 : Lim w1 := Lim.next (by repeat (first | assumption | refine Lim.alloc ?_ _ | refine Lim.setCell ?_ (by first | (simp; done) | (simp; omega) | omega) _ | refine Lim.drew ?_)) hb1))
  go_ret
  refine ⟨rfl, ?_⟩
  (repeat (first | exact Below.refl _ _ | refine Below.setCell ?_ (by first | omega | (simp; omega) | (simp; done)) _ | refine Below.alloc ?_ (by first | omega | (simp; omega) | (simp; done)) _ | refine Below.drew ?_ | refine below_drewN ?_ _ | refine Below.trans ?_ (Below.mono (by assumption) (by first | omega | (simp; omega) | (simp; done)))))
set_option maxRecDepth 100000 in
theorem cheap_yes (r : Rack) (A : Option Addr) (cap : Nat) (bits : List Int) (k0 k1 k2 : Int) (w : World) (hl : Lim w) (hr : RackAt w w.heap.size r) (hv : validB r = true) (hbits : IntsAt w w.heap.size A cap bits)
    (hrange : ∀ b ∈ bits, -9223372036854775808 ≤ b ∧ b ≤ 9223372036854775807)
    (f0 : -9223372036854775808 ≤ k0) (f1 : k0 ≤ 9223372036854775807) (g0 : -9223372036854775808 ≤ k1) (g1 : k1 ≤ 9223372036854775807) (h0 : -9223372036854775808 ≤ k2) (h1 : k2 ≤ 9223372036854775807) :
    Calls Tryd.prog 11 #[r.val, .slice A bits.length cap, .agg #[vi k0, vi k1, vi k2]] w fun e w' => e = .returned (.bool true) ∧ Below w.heap.size w w' := by
  have hok := rack_ok hv
  obtain ⟨s0, s1⟩ := spin_range k0 600 (by omega)
  obtain ⟨s2, s3⟩ := spin_range k1 400 (by omega)
  obtain ⟨lo, hlo⟩ : ∃ lo, lo = spinI k0 600 := ⟨_, rfl⟩
  obtain ⟨hi, hhi⟩ : ∃ hi, hi = lo + spinI k1 400 := ⟨_, rfl⟩
  have l0 : 0 ≤ lo := by omega
  have l1 : lo ≤ hi := by omega
  have l2 : hi ≤ 20000 := by omega
  obtain ⟨t0, t1⟩ := lot_range (n := k2) l1
  obtain ⟨dd, hdd⟩ : ∃ dd, dd = lotI lo hi k2 := ⟨_, rfl⟩
  rw [← hdd] at t0 t1
  have hlg := lines_good hok bits
  have LA := Lib.hid (fun (W : World) g b => lines_any r A cap bits W g hok b hrange)
  obtain ⟨ls, hls⟩ : ∃ ls, ls = linesF r bits := ⟨_, rfl⟩
  rw [← hls] at hlg LA
  have HSA := Lib.hid (fun (d : Int) (h2 : 0 ≤ d) (h3 : d ≤ 20000) => sum_ask hv (d := d) h2 h3 hlg)
  have HCA := Lib.hid (cheap_ask hv l0 l1 l2 hlg)
  have hch := cheap_is (r := r) l1 ls
  obtain ⟨SO, hSO⟩ : ∃ SO : Int → Option Int, SO = fun d => sumO r d ls := ⟨_, rfl⟩
  have hSO2 : ∀ d, sumO r d ls = SO d := fun d => by rw [hSO]
  obtain ⟨CO, hCO⟩ : ∃ CO, CO = cheapO r lo hi ls := ⟨_, rfl⟩
  rw [← hCO] at hch HCA
  simp only [hSO2] at hch HSA
  have hsd := HSA.out dd (by omega) (by omega)
  obtain ⟨fe, hfe⟩ : ∃ fe : Int, fe = (if (SO dd).isSome then 0 else 4) := ⟨_, rfl⟩
  obtain ⟨fv, hfv⟩ : ∃ fv : Int, fv = (SO dd).getD 0 := ⟨_, rfl⟩
  obtain ⟨ce, hce⟩ : ∃ ce : Int, ce = (if CO.isSome then 0 else 4) := ⟨_, rfl⟩
  obtain ⟨cD, hcD⟩ : ∃ cD : Int, cD = (CO.map Prod.fst).getD 0 := ⟨_, rfl⟩
  obtain ⟨cN, hcN⟩ : ∃ cN : Int, cN = (CO.map Prod.snd).getD 0 := ⟨_, rfl⟩
  have hcc : (ce = 4 ∧ cD = 0 ∧ cN = 0 ∧ fe = 4) ∨ (ce = 0 ∧ lo ≤ cD ∧ cD ≤ hi ∧ SO cD = some cN ∧ (fe = 4 ∨ (fe = 0 ∧ (cN < fv ∨ (cN = fv ∧ cD ≤ dd))))) := by
    cases hC : CO with
    | none =>
      rw [hC] at hch
      left
      refine ⟨by simp [hce, hC], by simp [hcD, hC], by simp [hcN, hC], ?_⟩
      rw [hfe, hch dd t0 t1]; rfl
    | some p =>
      obtain ⟨D, N⟩ := p
      rw [hC] at hch
      obtain ⟨q0, q1, q2, q3⟩ := hch
      have e1 : cD = D := by simp [hcD, hC]
      have e2 : cN = N := by simp [hcN, hC]
      subst e1 e2
      right
      refine ⟨by simp [hce, hC], q0, q1, q2, ?_⟩
      cases hS : SO dd with
      | none => left; simp [hfe, hS]
      | some v =>
        right
        refine ⟨by simp [hfe, hS], ?_⟩
        have := q3 dd v t0 t1 hS
        simpa [hfv, hS] using this
  rw [← hfe, ← hfv] at hsd
  have HSD := Lib.hid hsd
  have HCA2 := HCA.out
  rw [← hce, ← hcD, ← hcN] at HCA2
  clear HCA
  have HCA := Lib.hid HCA2
  have HCC := Lib.hid hcc
  have HLO := Lib.hid hlo.symm
  have HHI := Lib.hid hhi.symm
  have HDD := Lib.hid hdd.symm
  clear hok hlo hhi hdd hls hSO hSO2 hCO hch hlg hrange hsd hfe hfv hce hcD hcN HCA2 hcc CO
  obtain ⟨rg, rA, rcap, ri⟩ := r
  have hri : IssuesAt w w.heap.size rA rcap ri := hr
  show Calls Tryd.prog 11 #[.agg #[vi rg, .slice rA ri.length rcap], .slice A bits.length cap, .agg #[vi k0, vi k1, vi k2]] w _
  go_enter Tryd.func11, Tryd.ntmps11
  go_wp2_with fail
  refine (sound_yes ⟨rg, rA, rcap, ri⟩ _ (by repeat (first | assumption | refine Lim.alloc ?_ _ | refine Lim.setCell ?_ (by first | (simp; done) | (simp; omega) | omega) _ | refine Lim.drew ?_)) (hr.to (by (repeat (first | exact Below.refl _ _ | refine Below.setCell ?_ (by first | omega | (simp; omega) | (simp; done)) _ | refine Below.alloc ?_ (by first | omega | (simp; omega) | (simp; done)) _ | refine Below.drew ?_ | refine below_drewN ?_ _ | refine Below.trans ?_ (Below.mono (by assumption) (by first | omega | (simp; omega) | (simp; done))))))) hv).mono ?_
  rintro e W ⟨rfl, hb⟩
  have HB0 : Below w.heap.size w W := by (repeat (first | exact Below.refl _ _ | refine Below.setCell ?_ (by first | omega | (simp; omega) | (simp; done)) _ | refine Below.alloc ?_ (by first | omega | (simp; omega) | (simp; done)) _ | refine Below.drew ?_ | refine below_drewN ?_ _ | refine Below.trans ?_ (Below.mono (by assumption) (by first | omega | (simp; omega) | (simp; done)))))
  have c0 : W.cell? ⟨w.heap.size, 0, none⟩ = some (vi rg) := cell_keep hb (by simp [go_sem])
  have c1 : W.cell? ⟨w.heap.size, 1, none⟩ = some (.slice rA ri.length rcap) := cell_keep hb (by simp [go_sem])
  have v0 : W.cell? ⟨w.heap.size + 1, 0, none⟩ = some (vi k0) := cell_keep hb (by simp [go_sem])
  have v1 : W.cell? ⟨w.heap.size + 1, 1, none⟩ = some (vi k1) := cell_keep hb (by simp [go_sem])
  have v2 : W.cell? ⟨w.heap.size + 1, 2, none⟩ = some (vi k2) := cell_keep hb (by simp [go_sem])
  clear hb
  have z00 : w.heap.size < W.heap.size := cell_lt c0
  have z01 : w.heap.size + 1 < W.heap.size := cell_lt v0
  go_upto_region 3 with fail
  refine' wp_region_box (fun w' => Below W.heap.size W w') (stays_below _) [0, 1, 3, 4] 4 118 (by kernel_rfl) (by kernel_rfl) rfl (by kernel_rfl) (by kernel_rfl) rfl (by kernel_rfl) ?hl3 (Below.refl _ _) ?hq3 ?hr3
  case hl3 =>
    simp only [List.map_cons, List.map_nil, List.getD_cons_zero, List.getD_cons_succ]
    exact rfl
  case hq3 =>
    intro w0 hw0
    have zw0 := hw0.size
    have u0 := cell_keep hw0 c0
    have u1 := cell_keep hw0 c1
    have u2 := cell_keep hw0 v0
    have y1 : w.heap.size < w0.heap.size := by omega
    have y2 : w.heap.size + 1 < w0.heap.size := by omega
    (repeat (go_big_quiet_step (fail)))
    exact wpQuiet_nil rfl
  refine wpUp_one (i := 2) (by kernel_rfl) rfl rfl (fun w1 h1 h2 K hK => ?_)
  go_simp
  refine (LA.out _ (hr.to (HB0.trans (h2.mono HB0.size))) (hbits.to (HB0.trans (h2.mono HB0.size)))).mono ?_
  rintro e w2 ⟨lA, lc, rfl, n1, n2, n3, hb2⟩
  have H2 : Below W.heap.size W w2 := gr_trans h2 hb2
  have hla : LinesAt w2 w2.heap.size lA lc ls := ⟨n1, n2, n3⟩
  simp only [Act.put, List.setIfInBounds_toArray, List.set_cons_zero, List.set_cons_succ]
  refine hK _ _ H2 ?_
  refine wpUp_one (i := 5) (by kernel_rfl) rfl rfl (fun w0 h0' h0'' K0 hK0 => ?_)
  go_simp
  refine (spin_is HLO.out _ (by omega) (by omega) (by omega)).mono ?_
  rintro e w9 ⟨rfl, rfl⟩
  simp only [Act.put, List.setIfInBounds_toArray, List.set_cons_zero, List.set_cons_succ]
  refine hK0 _ _ h0'' ?_
  refine wpUp_one (i := 6) (by kernel_rfl) rfl rfl (fun w3 h3 h4 K2 hK2 => ?_)
  go_simp
  refine hK2 _ _ h4 ?_
  refine wpUp_one (i := 7) (by kernel_rfl) rfl rfl (fun w4 h5 h6 K3 hK3 => ?_)
  go_simp
  refine hK3 _ _ h6 (wpUp_done (by kernel_rfl) (fun W1 h7 h8 => NoPanic.normal ?_))
  have hla1 := hla.to (gr_trans h0' (gr_trans (gr_trans h3 h5) h7))
  have HB1 : Below w.heap.size w W1 := HB0.trans (h8.mono HB0.size)
  have c01 := cell_keep h8 c0
  have c11 := cell_keep h8 c1
  have v11 := cell_keep h8 v1
  have v21 := cell_keep h8 v2
  have z10 : w.heap.size < W1.heap.size := cell_lt c01
  have z11 : w.heap.size + 1 < W1.heap.size := cell_lt v11
  clear hK hK0 hK2 hK3 K K0 K2 K3 h0' h0'' h1 h2 h3 h4 h5 h6 h7 h8 n1 n2 n3 hb2 H2 hla c0 c1 v0 v1 v2 z00 z01 LA
  go_wp2_with fail
  refine (spin_any k1 400 _ (by omega) (by omega) (by omega)).mono ?_
  rintro e w1 ⟨rfl, rfl⟩
  go_wp2_with fail
  rw [HHI.out]
  refine (to_any _ _ _).mono ?_
  rintro e W3 ⟨rfl, hb3⟩
  have HB3 : Below w.heap.size w W3 := HB1.trans (hb3.mono HB1.size)
  have hla3 := hla1.to hb3
  have c03 := cell_keep hb3 c01
  have c13 := cell_keep hb3 c11
  have v23 := cell_keep hb3 v21
  have z33 : w.heap.size < W3.heap.size := cell_lt c03
  clear hb3 c01 c11 v11 v21 hla1
  go_wp2_with fail
  obtain ⟨W4, hW4⟩ : ∃ W4, W4 = W3.alloc (.cells #[vi lo, vi hi] 27) := ⟨_, rfl⟩
  have hb4 : Below W3.heap.size W3 W4 := by rw [hW4]; exact (Below.refl _ _).alloc (Nat.le_refl _) _
  have HB4 : Below w.heap.size w W4 := HB3.trans (hb4.mono HB3.size)
  have s04 : W4.cell? ⟨W3.heap.size, 0, none⟩ = some (vi lo) := by rw [hW4]; simp [go_sem]
  have s14 : W4.cell? ⟨W3.heap.size, 1, none⟩ = some (vi hi) := by rw [hW4]; simp [go_sem]
  rw [← hW4]
  clear hW4
  have hla4 := hla3.to hb4
  have c04 := cell_keep hb4 c03
  have c14 := cell_keep hb4 c13
  have v24 := cell_keep hb4 v23
  clear hb4 c03 c13 v23 hla3
  refine (Cheapest_any ⟨rg, rA, rcap, ri⟩ lo hi lA lc ls _ (hl.next HB4) (hr.to HB4) hla4).mono ?_
  rintro e W5 ⟨rfl, hb5⟩
  rw [HCA.out.1, HCA.out.2.1, HCA.out.2.2]
  have HB5 : Below w.heap.size w W5 := HB4.trans (hb5.mono HB4.size)
  have hla5 := hla4.to hb5
  have c05 := cell_keep hb5 c04
  have c15 := cell_keep hb5 c14
  have v25 := cell_keep hb5 v24
  have s05 := cell_keep hb5 s04
  have s15 := cell_keep hb5 s14
  clear hb5 c04 c14 v24 s04 s14 hla4
  go_wp2_with fail
  refine (lot_is HDD.out _ (by omega) (by omega) (by omega) (by omega) (by omega) (by omega) (by omega)).mono ?_
  rintro e W6 ⟨rfl, hb6⟩
  have HB6 : Below w.heap.size w W6 := HB5.trans (hb6.mono HB5.size)
  have hla6 := hla5.to hb6
  have c06 := cell_keep hb6 c05
  have c16 := cell_keep hb6 c15
  have s06 := cell_keep hb6 s05
  have s16 := cell_keep hb6 s15
  clear hb6 c05 c15 v25 s05 s15 hla5
  go_wp2_with fail
  refine (Sum_any ⟨rg, rA, rcap, ri⟩ dd lA lc ls _ (hl.next HB6) (hr.to HB6) hla6).mono ?_
  rintro e W7 ⟨rfl, hb7⟩
  rw [HSD.out.1, HSD.out.2]
  have HB7 : Below w.heap.size w W7 := HB6.trans (hb7.mono HB6.size)
  have hla7 := hla6.to hb7
  have c07 := cell_keep hb7 c06
  have c17 := cell_keep hb7 c16
  have s07 := cell_keep hb7 s06
  have s17 := cell_keep hb7 s16
  clear hb7 c06 c16 s06 s16 hla6 HSD
  rcases HCC.out with ⟨rfl, rfl, rfl, rfl⟩ | ⟨rfl, q0, q1, q2, hc⟩
  · clear HCC HCA HSA
    go_wp2_with (go_at_call 19; refine (works_any _ (hl.next HB7)).mono ?_; rintro e w9 ⟨rfl, hb10⟩)
    go_ret
    exact ⟨rfl, HB7.trans (hb10.mono HB7.size)⟩
  · have hpd := HSA.out cD (by omega) (by omega)
    rw [q2] at hpd
    simp only [Option.isSome_some, Option.getD_some, if_true, reduceIte] at hpd
    have HPD := Lib.hid hpd
    have hhas : (decide (lo ≤ cD) && decide (cD ≤ hi)) = true := by simp; omega
    have HC := Lib.hid hc
    clear HCC HCA HSA hpd q2 hc
    go_wp2_with fail
    refine (Sum_any ⟨rg, rA, rcap, ri⟩ cD lA lc ls _ (hl.next HB7) (hr.to HB7) hla7).mono ?_
    rintro e W8 ⟨rfl, hb8⟩
    rw [HPD.out.1, HPD.out.2]
    have HB8 : Below w.heap.size w W8 := HB7.trans (hb8.mono HB7.size)
    have s08 := cell_keep hb8 s07
    have s18 := cell_keep hb8 s17
    clear hb8 c07 c17 s07 s17 hla7 HPD
    go_wp2_with fail
    refine (has_is hhas _).mono ?_
    rintro e W9 ⟨rfl, hb9⟩
    have HB9 : Below w.heap.size w W9 := HB8.trans (hb9.mono HB8.size)
    rcases HC.out with rfl | ⟨rfl, h3 | ⟨rfl, h4⟩⟩
    · go_wp2_with (go_at_call 19; refine (works_any _ (hl.next HB9)).mono ?_; rintro e w9 ⟨rfl, hb10⟩)
      go_ret
      exact ⟨rfl, HB9.trans (hb10.mono HB9.size)⟩
    · have hg : decide (cN < fv) = true := by simpa using h3
      go_wp2_with (go_at_call 19; refine (works_any _ (hl.next HB9)).mono ?_; rintro e w9 ⟨rfl, hb10⟩)
      go_ret
      exact ⟨rfl, HB9.trans (hb10.mono HB9.size)⟩
    · have hg : decide (cD ≤ dd) = true := by simpa using h4
      go_wp2_with (go_at_call 19; refine (works_any _ (hl.next HB9)).mono ?_; rintro e w9 ⟨rfl, hb10⟩)
      go_ret
      exact ⟨rfl, HB9.trans (hb10.mono HB9.size)⟩
end Go.Proofs.YtpcajmkmmkmekaaDoor
