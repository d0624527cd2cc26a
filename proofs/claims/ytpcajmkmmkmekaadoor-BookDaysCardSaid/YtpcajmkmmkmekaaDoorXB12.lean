/- Contract of BookDays: it answers true. -/
import Derived.Test.YtpcajmkmmkmekaaDoorXK12
import Derived.Test.YtpcajmkmmkmekaaDoorXB11
namespace Go.Proofs.YtpcajmkmmkmekaaDoor
open Go Go.RowKit
set_option maxHeartbeats 8000000
set_option maxRecDepth 100000 in
theorem days_no (r : Rack) (n0 n1 n2 n3 k0 k1 k2 : Int) (w : World) (hl : Lim w) (hr : RackAt w w.heap.size r) (hv : validB r = false) :
    Calls Tryd.prog 9 #[r.val, .agg #[vi n0, vi n1, vi n2, vi n3], .agg #[vi k0, vi k1, vi k2]] w fun e w' => e = .returned (.bool true) ∧ Below w.heap.size w w' := by
  go_enter Tryd.func9, Tryd.ntmps9
  go_wp2_with (first | (go_at_call 20; refine (sound_no r _ (by repeat (first | assumption | refine Lim.alloc ?_ _ | refine Lim.setCell ?_ (by first | (simp; done) | (simp; omega) | omega) _ | refine Lim.drew ?_)) (hr.to (by (repeat (first | exact Below.refl _ _ | refine Below.setCell ?_ (by first | omega | (simp; omega) | (simp; done)) _ | refine Below.alloc ?_ (by first | omega | (simp; omega) | (simp; done)) _ | refine Below.drew ?_ | refine below_drewN ?_ _ | refine Below.trans ?_ (Below.mono (by assumption) (by first | omega | (simp; omega) | (simp; done))))))) hv).mono ?_; rintro e w1 ⟨rfl, hb1⟩; obtain ⟨⟨hc1, hf1, hs1⟩, hz1⟩ := after hb1; (try simp only [World.size_alloc, World.size_setCell, World.size_drew] at hz1); have hl1 : Lim w1 := Lim.next (by repeat (first | assumption | refine Lim.alloc ?_ _ | refine Lim.setCell ?_ (by first | (simp; done) | (simp; omega) | omega) _ | refine Lim.drew ?_)) hb1) | (go_at_call 19; refine (works_any _ (by repeat (first | assumption | refine Lim.alloc ?_ _ | refine Lim.setCell ?_ (by first | (simp; done) | (simp; omega) | omega) _ | refine Lim.drew ?_))).mono ?_; rintro e w1 ⟨rfl, hb1⟩; obtain ⟨⟨hc1, hf1, hs1⟩, hz1⟩ := after hb1; (try simp only [World.size_alloc, World.size_setCell, World.size_drew] at hz1); have hl1 : Lim w1 := Lim.next (by repeat (first | assumption | refine Lim.alloc ?_ _ | refine Lim.setCell ?_ (by first | (simp; done) | (simp; omega) | omega) _ | refine Lim.drew ?_)) hb1))
  go_ret
  refine ⟨rfl, ?_⟩
  (repeat (first | exact Below.refl _ _ | refine Below.setCell ?_ (by first | omega | (simp; omega) | (simp; done)) _ | refine Below.alloc ?_ (by first | omega | (simp; omega) | (simp; done)) _ | refine Below.drew ?_ | refine below_drewN ?_ _ | refine Below.trans ?_ (Below.mono (by assumption) (by first | omega | (simp; omega) | (simp; done)))))
set_option maxRecDepth 100000 in
theorem days_yes (r : Rack) (n0 n1 n2 n3 k0 k1 k2 : Int) (w : World) (hl : Lim w) (hr : RackAt w w.heap.size r) (hv : validB r = true)
    (a0 : -9223372036854775808 ≤ n0) (a1 : n0 ≤ 9223372036854775807) (b0 : -9223372036854775808 ≤ n1) (b1 : n1 ≤ 9223372036854775807)
    (d0 : -9223372036854775808 ≤ n2) (d1 : n2 ≤ 9223372036854775807) (e0 : -9223372036854775808 ≤ n3) (e1 : n3 ≤ 9223372036854775807)
    (f0 : -9223372036854775808 ≤ k0) (f1 : k0 ≤ 9223372036854775807) (g0 : -9223372036854775808 ≤ k1) (g1 : k1 ≤ 9223372036854775807) (h0 : -9223372036854775808 ≤ k2) (h1 : k2 ≤ 9223372036854775807) :
    Calls Tryd.prog 9 #[r.val, .agg #[vi n0, vi n1, vi n2, vi n3], .agg #[vi k0, vi k1, vi k2]] w fun e w' => e = .returned (.bool true) ∧ Below w.heap.size w w' := by
  have hok := rack_ok hv
  obtain ⟨s0, s1⟩ := spin_range k0 600 (by omega)
  obtain ⟨s2, s3⟩ := spin_range k1 400 (by omega)
  obtain ⟨lo, hlo⟩ : ∃ lo, lo = spinI k0 600 := ⟨_, rfl⟩
  obtain ⟨hi, hhi⟩ : ∃ hi, hi = lo + spinI k1 400 := ⟨_, rfl⟩
  have l0 : 0 ≤ lo := by omega
  have l1 : lo ≤ hi := by omega
  have l2 : hi ≤ 20000 := by omega
  obtain ⟨t0, t1⟩ := lot_range (n := k2) l1
  obtain ⟨dd, hdd⟩ : ∃ dd, dd = lotI lo hi k2 := ⟨_, rfl⟩
  rw [← hdd] at t0 t1
  obtain ⟨IT, hIT⟩ : ∃ IT, IT = someT r n0 n1 n2 n3 := ⟨_, rfl⟩
  have SA : ∀ W : World, RackAt W W.heap.size r → Calls Tryd.prog 29 #[r.val, .agg #[vi n0, vi n1, vi n2, vi n3]] W fun e w' => e = .returned (.tuple #[IT.val, vi (someI r n0 : Nat)]) ∧ Below W.heap.size W w' := fun W h => by
    have := some_any r n0 n1 n2 n3 W h hok a0 a1 b0 b1 d0 d1 e0 e1
    rwa [← hIT] at this
  have hio := someT_ok hok n0 n1 n2 n3
  rw [← hIT] at hio
  have HPA := Lib.hid (fun (d : Int) (h2 : 0 ≤ d) (h3 : d ≤ 20000) => price_ask hv (d := d) h2 h3 hio)
  have HPS := Lib.hid (prices_ask hv (a := lo) (b := hi) l0 l1 l2 hio)
  have HLA := Lib.hid (last_ask hv hio)
  obtain ⟨L, hL⟩ : ∃ L, L = pricesOn r lo hi IT := ⟨_, rfl⟩
  have HIN := Lib.hid (fun (p : Int) => (hL ▸ pricesOn_mem (r := r) (it := IT) (p := p) l1 : p ∈ L ↔ ∃ d, lo ≤ d ∧ d ≤ hi ∧ priceO r d IT = some p))
  have HCL := Lib.hid (hL ▸ pricesOn_climbs hok (it := IT) l1 : climbsB 100001 (-1) L = true)
  rw [← hL] at HPS
  have HN := Lib.hid (fun h => last_none hok (it := IT) h)
  have HS9 := Lib.hid (fun h => last_some hok (it := IT) h)
  obtain ⟨PO, hPO⟩ : ∃ PO : Int → Option Int, PO = fun d => priceO r d IT := ⟨_, rfl⟩
  have hPO2 : ∀ d, priceO r d IT = PO d := fun d => by rw [hPO]
  simp only [hPO2] at HPA HIN HN HS9
  obtain ⟨fe, hfe⟩ : ∃ fe : Int, fe = (if (PO dd).isSome then 0 else 4) := ⟨_, rfl⟩
  obtain ⟨fp, hfp⟩ : ∃ fp : Int, fp = (PO dd).getD 0 := ⟨_, rfl⟩
  have HPD := Lib.hid (HPA.out dd (by omega) (by omega))
  rw [← hfe, ← hfp] at HPD
  have hc : (fe = 0 ∧ PO dd = some fp) ∨ (fe = 4 ∧ PO dd = none) := by
    cases h : PO dd with
    | none => exact .inr ⟨by simp [hfe, h], rfl⟩
    | some p => exact .inl ⟨by simp [hfe, h], by simp [hfp, h]⟩
  have HC := Lib.hid hc
  have HLO := Lib.hid hlo.symm
  have HHI := Lib.hid hhi.symm
  have HDD := Lib.hid hdd.symm
  have HS := Lib.hid SA
  obtain ⟨si, hsi⟩ : ∃ si : Nat, si = someI r n0 := ⟨_, rfl⟩
  rw [← hsi] at HS
  clear hIT hok hlo hhi hdd SA hio hL hPO hPO2 hfe hfp hc hsi
  obtain ⟨rg, rA, rcap, ri⟩ := r
  obtain ⟨ig, is, ic⟩ := IT
  have hri : IssuesAt w w.heap.size rA rcap ri := hr
  have rc1 := hri.cap
  have rc2 := hri.len
  show Calls Tryd.prog 9 #[.agg #[vi rg, .slice rA ri.length rcap], .agg #[vi n0, vi n1, vi n2, vi n3], .agg #[vi k0, vi k1, vi k2]] w _
  go_enter Tryd.func9, Tryd.ntmps9
  go_wp2_with fail
  refine (sound_yes ⟨rg, rA, rcap, ri⟩ _ (by repeat (first | assumption | refine Lim.alloc ?_ _ | refine Lim.setCell ?_ (by first | (simp; done) | (simp; omega) | omega) _ | refine Lim.drew ?_)) (hr.to (by (repeat (first | exact Below.refl _ _ | refine Below.setCell ?_ (by first | omega | (simp; omega) | (simp; done)) _ | refine Below.alloc ?_ (by first | omega | (simp; omega) | (simp; done)) _ | refine Below.drew ?_ | refine below_drewN ?_ _ | refine Below.trans ?_ (Below.mono (by assumption) (by first | omega | (simp; omega) | (simp; done))))))) hv).mono ?_
  rintro e W ⟨rfl, hb⟩
  have HB0 : Below w.heap.size w W := by (repeat (first | exact Below.refl _ _ | refine Below.setCell ?_ (by first | omega | (simp; omega) | (simp; done)) _ | refine Below.alloc ?_ (by first | omega | (simp; omega) | (simp; done)) _ | refine Below.drew ?_ | refine below_drewN ?_ _ | refine Below.trans ?_ (Below.mono (by assumption) (by first | omega | (simp; omega) | (simp; done)))))
  have c0 : W.cell? ⟨w.heap.size, 0, none⟩ = some (vi rg) := cell_keep hb (by simp [go_sem])
  have c1 : W.cell? ⟨w.heap.size, 1, none⟩ = some (.slice rA ri.length rcap) := cell_keep hb (by simp [go_sem])
  have m0 : W.cell? ⟨w.heap.size + 1, 0, none⟩ = some (vi n0) := cell_keep hb (by simp [go_sem])
  have m1 : W.cell? ⟨w.heap.size + 1, 1, none⟩ = some (vi n1) := cell_keep hb (by simp [go_sem])
  have m2 : W.cell? ⟨w.heap.size + 1, 2, none⟩ = some (vi n2) := cell_keep hb (by simp [go_sem])
  have m3 : W.cell? ⟨w.heap.size + 1, 3, none⟩ = some (vi n3) := cell_keep hb (by simp [go_sem])
  have v0 : W.cell? ⟨w.heap.size + 1 + 1, 0, none⟩ = some (vi k0) := cell_keep hb (by simp [go_sem])
  have v1 : W.cell? ⟨w.heap.size + 1 + 1, 1, none⟩ = some (vi k1) := cell_keep hb (by simp [go_sem])
  have v2 : W.cell? ⟨w.heap.size + 1 + 1, 2, none⟩ = some (vi k2) := cell_keep hb (by simp [go_sem])
  clear hb
  go_wp2_with fail
  refine (HS.out _ (hr.to HB0)).mono ?_
  rintro e W1 ⟨rfl, hb1⟩
  have HB1 : Below w.heap.size w W1 := HB0.trans (hb1.mono HB0.size)
  have c01 := cell_keep hb1 c0
  have c11 := cell_keep hb1 c1
  have v01 := cell_keep hb1 v0
  have v11 := cell_keep hb1 v1
  have v21 := cell_keep hb1 v2
  have z01 : w.heap.size < W1.heap.size := cell_lt c01
  have z02 : w.heap.size + 1 + 1 < W1.heap.size := cell_lt v01
  clear m0 m1 m2 m3 c0 c1 v0 v1 v2 hb1 HS
  go_wp2_with fail
  refine (spin_any k0 600 _ (by omega) (by omega) (by omega)).mono ?_
  rintro e w1 ⟨rfl, rfl⟩
  rw [HLO.out]
  obtain ⟨W2, hW2⟩ : ∃ W2, W2 = W1.alloc (.cells #[vi ig, vi is, vi ic] 63) := ⟨_, rfl⟩
  have hb2 : Below W1.heap.size W1 W2 := by rw [hW2]; exact (Below.refl _ _).alloc (Nat.le_refl _) _
  have HB2 : Below w.heap.size w W2 := HB1.trans (hb2.mono HB1.size)
  have i02 : W2.cell? ⟨W1.heap.size, 0, none⟩ = some (vi ig) := by rw [hW2]; simp [go_sem]
  have i12 : W2.cell? ⟨W1.heap.size, 1, none⟩ = some (vi is) := by rw [hW2]; simp [go_sem]
  have i22 : W2.cell? ⟨W1.heap.size, 2, none⟩ = some (vi ic) := by rw [hW2]; simp [go_sem]
  rw [← hW2]
  clear hW2
  have c02 := cell_keep hb2 c01
  have c12 := cell_keep hb2 c11
  have v12 := cell_keep hb2 v11
  have v22 := cell_keep hb2 v21
  have z22 : w.heap.size + 1 + 1 < W2.heap.size := cell_lt v12
  clear hb2 c01 c11 v01 v11 v21
  go_wp2_with fail
  refine (spin_any k1 400 _ (by omega) (by omega) (by omega)).mono ?_
  rintro e w1 ⟨rfl, rfl⟩
  go_wp2_with fail
  rw [HHI.out]
  refine (to_any _ _ _).mono ?_
  rintro e W3 ⟨rfl, hb3⟩
  have HB3 : Below w.heap.size w W3 := HB2.trans (hb3.mono HB2.size)
  have i03 := cell_keep hb3 i02
  have i13 := cell_keep hb3 i12
  have i23 := cell_keep hb3 i22
  have c03 := cell_keep hb3 c02
  have c13 := cell_keep hb3 c12
  have v23 := cell_keep hb3 v22
  have z33 : w.heap.size < W3.heap.size := cell_lt c03
  have z34 : W1.heap.size < W3.heap.size := cell_lt i03
  clear hb3 c02 c12 v12 v22 i02 i12 i22
  go_wp2_with fail
  obtain ⟨W4, hW4⟩ : ∃ W4, W4 = W3.alloc (.cells #[vi lo, vi hi] 27) := ⟨_, rfl⟩
  have hb4 : Below W3.heap.size W3 W4 := by rw [hW4]; exact (Below.refl _ _).alloc (Nat.le_refl _) _
  have HB4 : Below w.heap.size w W4 := HB3.trans (hb4.mono HB3.size)
  have s04 : W4.cell? ⟨W3.heap.size, 0, none⟩ = some (vi lo) := by rw [hW4]; simp [go_sem]
  have s14 : W4.cell? ⟨W3.heap.size, 1, none⟩ = some (vi hi) := by rw [hW4]; simp [go_sem]
  rw [← hW4]
  clear hW4
  have i04 := cell_keep hb4 i03
  have i14 := cell_keep hb4 i13
  have i24 := cell_keep hb4 i23
  have c04 := cell_keep hb4 c03
  have c14 := cell_keep hb4 c13
  have v24 := cell_keep hb4 v23
  clear hb4 c03 c13 v23 i03 i13 i23
  refine (Prices_any ⟨rg, rA, rcap, ri⟩ lo hi ⟨ig, is, ic⟩ _ (hl.next HB4) (hr.to HB4)).mono ?_
  rintro e W5 ⟨lv, rfl, hm⟩
  have hb5 := hm.2
  rw [HPS.out.1]
  rw [HPS.out.2] at hm
  obtain ⟨⟨lA, lc, rfl, hl5⟩, -⟩ := hm
  have HB5 : Below w.heap.size w W5 := HB4.trans (hb5.mono HB4.size)
  have i05 := cell_keep hb5 i04
  have i15 := cell_keep hb5 i14
  have i25 := cell_keep hb5 i24
  have c05 := cell_keep hb5 c04
  have c15 := cell_keep hb5 c14
  have v25 := cell_keep hb5 v24
  have s05 := cell_keep hb5 s04
  have s15 := cell_keep hb5 s14
  clear hb5 c04 c14 v24 i04 i14 i24 s04 s14
  go_wp2_with fail
  refine (lot_is HDD.out _ (by omega) (by omega) (by omega) (by omega) (by omega) (by omega) (by omega)).mono ?_
  rintro e W6 ⟨rfl, hb6⟩
  have HB6 : Below w.heap.size w W6 := HB5.trans (hb6.mono HB5.size)
  have hl6 := hl5.to hb6
  have i06 := cell_keep hb6 i05
  have i16 := cell_keep hb6 i15
  have i26 := cell_keep hb6 i25
  have c06 := cell_keep hb6 c05
  have c16 := cell_keep hb6 c15
  have v26 := cell_keep hb6 v25
  have s06 := cell_keep hb6 s05
  have s16 := cell_keep hb6 s15
  clear hb6 c05 c15 v25 i05 i15 i25 s05 s15 hl5
  go_wp2_with fail
  refine (Price_any ⟨rg, rA, rcap, ri⟩ dd ⟨ig, is, ic⟩ _ (hl.next HB6) (hr.to HB6)).mono ?_
  rintro e W7 ⟨rfl, hb7⟩
  rw [HPD.out.1, HPD.out.2]
  have HB7 : Below w.heap.size w W7 := HB6.trans (hb7.mono HB6.size)
  have hl7 := hl6.to hb7
  have i07 := cell_keep hb7 i06
  have i17 := cell_keep hb7 i16
  have i27 := cell_keep hb7 i26
  have c07 := cell_keep hb7 c06
  have c17 := cell_keep hb7 c16
  have v27 := cell_keep hb7 v26
  have s07 := cell_keep hb7 s06
  have s17 := cell_keep hb7 s16
  clear hb7 c06 c16 v26 i06 i16 i26 s06 s16 hl6
  go_upto_region 9 with fail
  go_cut [87] from 63 to 86 (fun s8 wx => s8 = .bool false ∧ W7 = wx)
  case first =>
    rcases HC.out with ⟨rfl, hP⟩ | ⟨rfl, hP⟩
    · have hin : fp ∈ L := (HIN.out fp).2 ⟨dd, t0, t1, hP⟩
      have hp0 := (place_in L fp).1 hin
      obtain ⟨PV, hPV⟩ : ∃ PV, PV = placeF L fp := ⟨_, rfl⟩
      rw [← hPV] at hp0
      have hpg : decide (PV < 0) = false := by simp; omega
      have HPV := Lib.hid hPV.symm
      clear hP hin hPV
      go_wp2_with (first | (go_at_call 28; refine (place_is HPV.out _ _ _ hl7).mono ?_; rintro e wp ⟨rfl, rfl⟩) | (go_at_call 27; refine (climbs_yes _ _ _ _ _ hl7 HCL.out).mono ?_; rintro e wq ⟨rfl, rfl⟩))
      go_meet
      exact ⟨rfl, rfl⟩
    · clear hP
      go_wp2_with (go_at_call 27; refine (climbs_yes _ _ _ _ _ hl7 HCL.out).mono ?_; rintro e wq ⟨rfl, rfl⟩)
      go_meet
      exact ⟨rfl, rfl⟩
  obtain ⟨rfl, rfl⟩ := hcut
  have z77 : W3.heap.size < W7.heap.size := cell_lt s07
  have llen := hl7.len
  have lcap := hl7.cap
  go_wp2_with fail
  go_loopw [16] (fun i wr => ∃ j : Nat, j ≤ L.length ∧ i = .int .i64 j ∧ Below W7.heap.size W7 wr) (fun i _ => L.length - (intOf i).toNat)
  case atStart => exact ⟨0, Nat.zero_le _, rfl, Below.refl _ _⟩
  obtain ⟨j, hj, rfl, hD⟩ := hrel
  have HBr : Below w.heap.size w wr := HB7.trans (hD.mono HB7.size)
  have i0r := cell_keep hD i07
  have i1r := cell_keep hD i17
  have i2r := cell_keep hD i27
  have c0r := cell_keep hD c07
  have c1r := cell_keep hD c17
  have v2r := cell_keep hD v27
  have s0r := cell_keep hD s07
  have s1r := cell_keep hD s17
  have hlr := hl7.to hD
  by_cases hjt : j < L.length
  · obtain ⟨q, hq⟩ : ∃ q, L[j]? = some q := ⟨_, List.getElem?_eq_getElem hjt⟩
    obtain ⟨d9, u1, u2, u3⟩ := (HIN.out q).1 (List.mem_of_getElem? hq)
    have hjI : (j : Int) < L.length := by omega
    have h0J : (0 : Int) ≤ j := by omega
    have HQ := Lib.hid hq
    have HU3 := Lib.hid u3
    clear hq u3
    go_wp2_with fail
    obtain ⟨wo, rfl⟩ : ∃ wo : World, wo = wr := ⟨_, rfl⟩
    go_loopw [17, 18] (fun fb at_ ws => ∃ (c : Nat) (b : Bool), lo + c ≤ hi + 1 ∧ at_ = .int .i64 (lo + c) ∧ fb = .bool b ∧ Hid (b = false → lo + c ≤ d9) ∧ Below wo.heap.size wo ws) (fun _ at_ _ => (hi + 1 - intOf at_).toNat)
    case atStart => exact ⟨0, false, by omega, by simp, rfl, fun _ => by omega, Below.refl _ _⟩
    obtain ⟨c, b, hcl, rfl, rfl, hbc, hE⟩ := hrel
    have HBs : Below w.heap.size w wr := HBr.trans (hE.mono HBr.size)
    have i0s := cell_keep hE i0r
    have i1s := cell_keep hE i1r
    have i2s := cell_keep hE i2r
    have c0s := cell_keep hE c0r
    have c1s := cell_keep hE c1r
    have v2s := cell_keep hE v2r
    have s0s := cell_keep hE s0r
    have s1s := cell_keep hE s1r
    have hls := hlr.to hE
    rcases b with _ | _
    · have hld := hbc.out rfl
      have hle : lo + (c : Int) ≤ hi := by omega
      have hleb : decide (lo + (c : Int) ≤ hi) = true := by simpa using hle
      have HPC := Lib.hid (HPA.out (lo + c) (by omega) (by omega))
      clear hbc
      go_wp2_with fail
      refine (Price_any ⟨rg, rA, rcap, ri⟩ (lo + c) ⟨ig, is, ic⟩ _ (hl.next HBs) (hr.to HBs)).mono ?_
      rintro e w8 ⟨rfl, hb8⟩
      rw [HPC.out.1, HPC.out.2]
      have hls8 := hls.to hb8
      obtain ⟨ab, aoff, rfl, hab, qc⟩ := hls8.at_ HQ.out
      have zab : ab < w8.heap.size := cell_lt qc
      rcases hP : PO (lo + c) with _ | p
      · have hne : lo + (c : Int) ≠ d9 := fun h => by have := HU3.out; rw [← h, hP] at this; cases this
        simp only [Option.isSome_none, Option.getD_none, Bool.false_eq_true, if_false, reduceIte]
        clear hP HPC
        go_wp2_with fail
        go_roundw
        case rel => exact ⟨c + 1, false, by omega, by go_num, rfl, fun _ => by omega, gr_trans hE hb8⟩
        case measure => simp [intOf]; omega
      · simp only [Option.isSome_some, Option.getD_some, if_true, reduceIte]
        have hne : p ≠ q → lo + (c : Int) ≠ d9 := fun h1 h => by have := HU3.out; rw [← h, hP] at this; exact h1 (Option.some.inj this)
        clear hP HPC
        go_wp2_with fail
        go_roundw
        case rel =>
          refine ⟨c + 1, p == q, by omega, by go_num, rfl, fun h => ?_, gr_trans hE hb8⟩
          have := hne (by simpa using h)
          omega
        case measure => simp [intOf]; omega
    · go_wp2_with fail
      go_roundw
      case rel => exact ⟨j + 1, by omega, by go_num, gr_trans hD hE⟩
      case measure => simp [intOf]; omega
  · obtain rfl : j = L.length := by omega
    go_wp2_with fail
    refine (Last_any ⟨rg, rA, rcap, ri⟩ ⟨ig, is, ic⟩ _ (hl.next HBr) (hr.to HBr)).mono ?_
    rintro e W8 ⟨rfl, hb8⟩
    rw [HLA.out.1, HLA.out.2]
    have HB8 : Below w.heap.size w W8 := HBr.trans (hb8.mono HBr.size)
    have i08 := cell_keep hb8 i0r
    have i18 := cell_keep hb8 i1r
    have i28 := cell_keep hb8 i2r
    have c08 := cell_keep hb8 c0r
    have c18 := cell_keep hb8 c1r
    have v28 := cell_keep hb8 v2r
    have s08 := cell_keep hb8 s0r
    have s18 := cell_keep hb8 s1r
    by_cases hn : 0 < (lastOn ⟨rg, rA, rcap, ri⟩ ⟨ig, is, ic⟩).length
    · rw [decide_eq_true hn]
      simp only [if_true, reduceIte]
      obtain ⟨q0, q1, q2, q3⟩ := HS9.out hn
      obtain ⟨LA, hLA⟩ : ∃ LA, LA = lastF (lastOn ⟨rg, rA, rcap, ri⟩ ⟨ig, is, ic⟩) := ⟨_, rfl⟩
      rw [← hLA] at q0 q1 q2 q3 ⊢
      have HPL := Lib.hid (HPA.out LA q0 q1)
      have HQ3 := Lib.hid q3
      have hfd : Hid (fe = 0 → dd ≤ LA) := fun h => by
        apply Classical.byContradiction
        intro hn2
        have h3 := q3 dd (by omega)
        rcases HC.out with ⟨-, h4⟩ | ⟨h4, -⟩
        · rw [h3] at h4; cases h4
        · omega
      clear hLA hn q3
      go_wp2_with fail
      refine (Price_any ⟨rg, rA, rcap, ri⟩ LA ⟨ig, is, ic⟩ _ (hl.next HB8) (hr.to HB8)).mono ?_
      rintro e W9 ⟨rfl, hb9⟩
      rw [HPL.out.1, q2]
      simp only [if_true, reduceIte]
      have HB9 : Below w.heap.size w W9 := HB8.trans (hb9.mono HB8.size)
      have i09 := cell_keep hb9 i08
      have i19 := cell_keep hb9 i18
      have i29 := cell_keep hb9 i28
      have c09 := cell_keep hb9 c08
      have c19 := cell_keep hb9 c18
      have v29 := cell_keep hb9 v28
      have s09 := cell_keep hb9 s08
      have s19 := cell_keep hb9 s18
      go_upto_region 26 with fail
      go_cut [173] from 158 to 172 (fun s8 wx => s8 = .bool false ∧ W9 = wx)
      case first =>
        rcases HC.out with ⟨rfl, -⟩ | ⟨rfl, -⟩
        · have hdl := hfd.out rfl
          have hdg : decide (LA < dd) = false := by simp; omega
          go_wp2_with (go_at_call 32; refine (tween_yes _ _ _ _ (by omega) (by omega)).mono ?_; rintro e w8 ⟨rfl, rfl⟩)
          go_meet
          exact ⟨(by first | omega | (simp; omega) | (simp; done)), rfl⟩
        · go_wp2_with (go_at_call 32; refine (tween_yes _ _ _ _ (by omega) (by omega)).mono ?_; rintro e w8 ⟨rfl, rfl⟩)
          go_meet
          exact ⟨(by first | omega | (simp; omega) | (simp; done)), rfl⟩
      obtain ⟨rfl, rfl⟩ := hcut
      by_cases hmx : LA = 20000
      · subst hmx
        go_wp2_with (go_at_call 19; refine (works_any _ (hl.next HB9)).mono ?_; rintro e w9 ⟨rfl, hb10⟩)
        go_ret
        exact ⟨rfl, HB9.trans (hb10.mono HB9.size)⟩
      · have hmb : (LA == 20000) = false := by simpa using hmx
        obtain ⟨w0', w1'⟩ := lot_range (n := k2) (show LA + 1 ≤ 20000 by omega)
        obtain ⟨d2, hd2⟩ : ∃ d2, d2 = lotI (LA + 1) 20000 k2 := ⟨_, rfl⟩
        rw [← hd2] at w0' w1'
        have HD2 := Lib.hid hd2.symm
        have HP2 := Lib.hid (HPA.out d2 (by omega) (by omega))
        have hpn := HQ3.out d2 (by omega)
        rw [hpn] at HP2
        simp only [Option.isSome_none, Option.getD_none, Bool.false_eq_true, if_false, reduceIte] at HP2
        clear hd2 hmx hpn
        have hPD : ∀ W : World, Lim W → RackAt W W.heap.size ⟨rg, rA, rcap, ri⟩ → Calls Tryd.prog 30 #[.agg #[vi rg, .slice rA ri.length rcap], vi d2, .agg #[vi ig, vi is, vi ic]] W fun e w' => e = .returned (.tuple #[vi 0, vi 4]) ∧ Below W.heap.size W w' := fun W g1 g2 => by
          have := Price_any ⟨rg, rA, rcap, ri⟩ d2 ⟨ig, is, ic⟩ W g1 g2
          rwa [HP2.out.1, HP2.out.2] at this
        have HPD2 := Lib.hid hPD
        clear hPD
        have z91 : w.heap.size < W9.heap.size := cell_lt c09
        have z92 : w.heap.size + 1 + 1 < W9.heap.size := cell_lt v29
        have z93 : W1.heap.size < W9.heap.size := cell_lt i09
        go_upto_region 30 with fail
        (refine wp_region_grow_lit (by kernel_rfl) (by kernel_rfl) ?_; (repeat (go_big_quiet_step (first | (go_at_call 22; refine Calls.grow_of (to_any _ _ _)) | (go_at_call 23; refine Calls.grow_of (lot_is HD2.out _ (by omega) (by omega) (by omega) (by omega) (by omega) (by omega) (by omega))) | (go_at_call 30; refine Calls.grow_of (HPD2.out _ (hl.next (HB9.trans ((plus_below W9 _).mono HB9.size))) (hr.to (HB9.trans ((plus_below W9 _).mono HB9.size)))))))); refine wpQuiet_nil ?_; intro w1 hw1; have hb1 := below_of_plus hw1; clear hw1; obtain ⟨⟨hc1, hf1, hs1⟩, hz1⟩ := after hb1; (try simp only [World.size_alloc, World.size_setCell, World.size_drew] at hz1))
        have HB10 : Below w.heap.size w w1 := HB9.trans (hb1.mono HB9.size)
        clear hc1 hf1 hs1
        go_wp2_with (go_at_call 19; refine (works_any _ (hl.next HB10)).mono ?_; rintro e w9 ⟨rfl, hb10⟩)
        go_ret
        exact ⟨rfl, HB10.trans (hb10.mono HB10.size)⟩
    · rw [decide_eq_false hn]
      simp only [Bool.false_eq_true, if_false, reduceIte]
      have hno := HN.out hn
      have hL0 : L = [] := by
        cases hLL : L with
        | nil => rfl
        | cons p t =>
          obtain ⟨d, -, -, h3⟩ := (HIN.out p).1 (by rw [hLL]; simp)
          rw [hno d] at h3; cases h3
      obtain rfl := hL0
      have hf4 : fe = 4 := by
        rcases HC.out with ⟨-, h4⟩ | ⟨h4, -⟩
        · rw [hno dd] at h4; cases h4
        · exact h4
      subst hf4
      clear hno hn
      go_wp2_with (go_at_call 19; refine (works_any _ (hl.next HB8)).mono ?_; rintro e w9 ⟨rfl, hb10⟩)
      go_ret
      exact ⟨rfl, HB8.trans (hb10.mono HB8.size)⟩
end Go.Proofs.YtpcajmkmmkmekaaDoor
