/- Contract of BookTwins: it answers true. -/
import Derived.Test.YtpcajmkmmkmekaaDoorXK6
import Derived.Test.YtpcajmkmmkmekaaDoorXB5
import Derived.Deep.RegionHeld3
set_option linter.unusedVariables false
set_option linter.unusedSimpArgs false
namespace Go.Proofs.YtpcajmkmmkmekaaDoor
open Go Go.RowKit
set_option maxHeartbeats 8000000
set_option maxRecDepth 100000 in
theorem twin_no (r : Rack) (n0 n1 : Int) (w : World) (hl : Lim w) (hr : RackAt w w.heap.size r) (hv : validB r = false) :
    Calls Tryd.prog 6 #[r.val, .agg #[vi n0, vi n1]] w fun e w' => e = .returned (.bool true) ∧ Below w.heap.size w w' := by
  go_enter Tryd.func6, Tryd.ntmps6
  go_wp2_with (first | (go_at_call 20; refine (sound_no r _ (by repeat (first | assumption | refine Lim.alloc ?_ _ | refine Lim.setCell ?_ (by first | (simp; done) | (simp; omega) | omega) _ | refine Lim.drew ?_)) (hr.to (by (repeat (first | exact Below.refl _ _ | refine Below.setCell ?_ (by first | omega | (simp; omega) | (simp; done)) _ | refine Below.alloc ?_ (by first | omega | (simp; omega) | (simp; done)) _ | refine Below.drew ?_ | refine below_drewN ?_ _ | refine Below.trans ?_ (Below.mono (by assumption) (by first | omega | (simp; omega) | (simp; done))))))) hv).mono ?_; rintro e w1 ⟨rfl, hb1⟩; obtain ⟨⟨hc1, hf1, hs1⟩, hz1⟩ := after hb1; (try simp only [World.size_alloc, World.size_setCell, World.size_drew] at hz1); have hl1 : Lim w1 := Lim.next (by repeat (first | assumption | refine Lim.alloc ?_ _ | refine Lim.setCell ?_ (by first | (simp; done) | (simp; omega) | omega) _ | refine Lim.drew ?_)) hb1) | (go_at_call 19; refine (works_any _ (by repeat (first | assumption | refine Lim.alloc ?_ _ | refine Lim.setCell ?_ (by first | (simp; done) | (simp; omega) | omega) _ | refine Lim.drew ?_))).mono ?_; rintro e w1 ⟨rfl, hb1⟩; obtain ⟨⟨hc1, hf1, hs1⟩, hz1⟩ := after hb1; (try simp only [World.size_alloc, World.size_setCell, World.size_drew] at hz1); have hl1 : Lim w1 := Lim.next (by repeat (first | assumption | refine Lim.alloc ?_ _ | refine Lim.setCell ?_ (by first | (simp; done) | (simp; omega) | omega) _ | refine Lim.drew ?_)) hb1))
  go_ret
  refine ⟨rfl, ?_⟩
  (repeat (first | exact Below.refl _ _ | refine Below.setCell ?_ (by first | omega | (simp; omega) | (simp; done)) _ | refine Below.alloc ?_ (by first | omega | (simp; omega) | (simp; done)) _ | refine Below.drew ?_ | refine below_drewN ?_ _ | refine Below.trans ?_ (Below.mono (by assumption) (by first | omega | (simp; omega) | (simp; done)))))
theorem means_day {r : Rack} {d n : Int} (hv : validB r = true) (h0 : 0 ≤ d) (h1 : d ≤ 20000) (h2 : 1 ≤ n) (h3 : n ≤ 9999) : meansErr r d d n = 0 ∧ meansL r d d n = meantL n (bk r.issues (inUseQ d d) r.issues.length) := by
  have h4 : limS 3 d d = true := by rw [limS_iff]; simp [limLo, limHi]; omega
  have h5 : limB 4 n = true := by rw [limB_iff]; simp [limLo, limHi]; omega
  simp [meansErr, meansL, meansAsk, hv, h4, h5]
theorem twins_day {r : Rack} {d : Int} (hv : validB r = true) (h0 : 0 ≤ d) (h1 : d ≤ 20000) : twinsErr r d = 0 ∧ twinsL r d = twinsOn r d := by
  have h4 : limB 3 d = true := by rw [limB_iff]; simp [limLo, limHi]; omega
  simp [twinsErr, twinsL, hv, h4]
theorem meant_short {n : Int} {l : List Issue} {q : Issue → Bool} : (meantL n (bk l q l.length)).length ≤ l.length := Nat.le_trans (meant_len _ _) (bk_len _ _ _)
set_option maxRecDepth 100000 in
theorem twin_yes (r : Rack) (n0 n1 : Int) (w : World) (hl : Lim w) (hr : RackAt w w.heap.size r) (hv : validB r = true)
    (a0 : -9223372036854775808 ≤ n0) (a1 : n0 ≤ 9223372036854775807) (b0 : -9223372036854775808 ≤ n1) (b1 : n1 ≤ 9223372036854775807) :
    Calls Tryd.prog 6 #[r.val, .agg #[vi n0, vi n1]] w fun e w' => e = .returned (.bool true) ∧ Below w.heap.size w w' := by
  have hok := rack_ok hv
  have k2 := hok.n2
  obtain ⟨p0, p1⟩ := spin_range n0 900 (by omega)
  obtain ⟨q0, q1⟩ := spin_range n1 40 (by omega)
  obtain ⟨dy, hdy⟩ : ∃ dy, dy = spinI n0 900 := ⟨_, rfl⟩
  obtain ⟨nb, hnb⟩ : ∃ nb, nb = 1 + spinI n1 40 := ⟨_, rfl⟩
  have d0 : 0 ≤ dy := by omega
  have d1 : dy ≤ 20000 := by omega
  have e0 : 1 ≤ nb := by omega
  have e1 : nb ≤ 9999 := by omega
  obtain ⟨M, hM⟩ : ∃ M, M = meantL nb (bk r.issues (inUseQ dy dy) r.issues.length) := ⟨_, rfl⟩
  obtain ⟨T, hT⟩ : ∃ T, T = twinsOn r dy := ⟨_, rfl⟩
  have hMl : M.length ≤ 4 := by rw [hM]; exact Nat.le_trans meant_short k2
  have HC : climbsB 10000 (-1) T = true := by rw [hT]; exact twins_climb hok dy
  have HM1 := Lib.hid (means_day hv d0 d1 e0 e1)
  have HT1 := Lib.hid (twins_day hv d0 d1)
  rw [← hM] at HM1
  rw [← hT] at HT1
  have HD : Hid (diffB M M.length = decide (placeF T nb ≥ 0)) := by
    unfold Hid
    rw [Bool.eq_iff_iff, diff_iff, decide_eq_true_eq, place_iff, hT, twinsOn_iff, hM]
  have HTW : Hid (∀ n ∈ T, (1 ≤ n ∧ n ≤ 9999) ∧ 2 ≤ (meantL n (bk r.issues (inUseQ dy dy) r.issues.length)).length) := fun n hn => by
    rw [hT] at hn
    refine ⟨twins_bounds hok hn, ?_⟩
    obtain ⟨p, hp, q, hq, hne⟩ := twinsOn_iff.1 hn
    exact two_of hp hq hne
  have HDY := Lib.hid hdy
  have HNB := Lib.hid hnb
  have HCC := Lib.hid HC
  clear hM hT hdy hnb hok HC
  obtain ⟨rg, rA, rcap, ri⟩ := r
  have hri : IssuesAt w w.heap.size rA rcap ri := hr
  go_enter Tryd.func6, Tryd.ntmps6
  go_wp2_with fail
  refine (sound_yes ⟨rg, rA, rcap, ri⟩ _ (by repeat (first | assumption | refine Lim.alloc ?_ _ | refine Lim.setCell ?_ (by first | (simp; done) | (simp; omega) | omega) _ | refine Lim.drew ?_)) (hr.to (by (repeat (first | exact Below.refl _ _ | refine Below.setCell ?_ (by first | omega | (simp; omega) | (simp; done)) _ | refine Below.alloc ?_ (by first | omega | (simp; omega) | (simp; done)) _ | refine Below.drew ?_ | refine below_drewN ?_ _ | refine Below.trans ?_ (Below.mono (by assumption) (by first | omega | (simp; omega) | (simp; done))))))) hv).mono ?_
  rintro e W ⟨rfl, hb⟩
  have HB0 : Below w.heap.size w W := by (repeat (first | exact Below.refl _ _ | refine Below.setCell ?_ (by first | omega | (simp; omega) | (simp; done)) _ | refine Below.alloc ?_ (by first | omega | (simp; omega) | (simp; done)) _ | refine Below.drew ?_ | refine below_drewN ?_ _ | refine Below.trans ?_ (Below.mono (by assumption) (by first | omega | (simp; omega) | (simp; done)))))
  have c0 : W.cell? ⟨w.heap.size, 0, none⟩ = some (vi rg) := (hb.cell (p := ⟨w.heap.size, 0, none⟩) (by first | omega | (simp; omega) | (simp; done))).trans (by simp [go_sem])
  have c1 : W.cell? ⟨w.heap.size, 1, none⟩ = some (.slice rA ri.length rcap) := (hb.cell (p := ⟨w.heap.size, 1, none⟩) (by first | omega | (simp; omega) | (simp; done))).trans (by simp [go_sem])
  have m0 : W.cell? ⟨w.heap.size + 1, 0, none⟩ = some (vi n0) := (hb.cell (p := ⟨w.heap.size + 1, 0, none⟩) (by first | omega | (simp; omega) | (simp; done))).trans (by simp [go_sem])
  have m1 : W.cell? ⟨w.heap.size + 1, 1, none⟩ = some (vi n1) := (hb.cell (p := ⟨w.heap.size + 1, 1, none⟩) (by first | omega | (simp; omega) | (simp; done))).trans (by simp [go_sem])
  have z0 : w.heap.size < W.heap.size := by have := hb.size; simp at this; omega
  have z1 : w.heap.size + 1 < W.heap.size := by have := hb.size; simp at this; omega
  have zz := HB0.size
  clear hb
  go_wp2_with fail
  (refine wp_region_grow_lit (by kernel_rfl) (by kernel_rfl) ?_; (repeat (go_big_quiet_step ((go_at_call 21; refine Calls.grow_same (spin_any _ _ _ (by omega) (by omega) (by omega)))))); refine wpQuiet_nil ?_; intro w1 hw1; have hb1 := below_of_plus hw1; clear hw1; obtain ⟨⟨hc1, hf1, hs1⟩, hz1⟩ := after hb1; (try simp only [World.size_alloc, World.size_setCell, World.size_drew] at hz1))
  obtain ⟨W1, rfl⟩ : ∃ W1, W1 = w1 := ⟨_, rfl⟩
  have HB1 : Below w.heap.size w W1 := HB0.trans (hb1.mono zz)
  have c10 := (hb1.cell (p := ⟨w.heap.size, 0, none⟩) z0).trans c0
  have c11 := (hb1.cell (p := ⟨w.heap.size, 1, none⟩) z0).trans c1
  have zw : w.heap.size < W1.heap.size := by omega
  clear hc1 hf1 hs1 hb1 c0 c1 m0 m1
  rw [← HDY.out, ← HNB.out]
  go_wp2_with fail
  refine (Twins_any ⟨rg, rA, rcap, ri⟩ dy _ (hl.next HB1) (hr.to HB1)).mono ?_
  rintro e W2 ⟨v, rfl, hm⟩
  rw [HT1.out.1]
  rw [HT1.out.2] at hm
  obtain ⟨⟨tA, tc, rfl, ht⟩, hb2⟩ := hm
  have HB2 : Below w.heap.size w W2 := HB1.trans (hb2.mono HB1.size)
  have c20 := (hb2.cell (p := ⟨w.heap.size, 0, none⟩) zw).trans c10
  have c21 := (hb2.cell (p := ⟨w.heap.size, 1, none⟩) zw).trans c11
  have zw2 : w.heap.size < W2.heap.size := by have := hb2.size; omega
  clear hb2 c10 c11
  go_wp2_with fail
  go_region_held3 (fun w' => w'.cell? ⟨w.heap.size, 0, none⟩ = some (vi rg) ∧ w'.cell? ⟨w.heap.size, 1, none⟩ = some (.slice rA ri.length rcap))
    (first
      | go_keep
      | (go_split_ands
         refine ⟨?_, ?_⟩
         all_goals first
           | ((rw [hba.cell (by first | omega | (simp; omega) | (simp; done))]); assumption)
           | ((rw [hbq.cell (by first | omega | (simp; omega) | (simp; done))]); assumption)))
    (first
      | (go_at_call 22; refine (to_any _ _ _).mono ?_; rintro e wa ⟨rfl, hba⟩; have hza := hba.size; (try simp only [World.size_drew] at hza))
      | (go_at_call 24; refine (means_ ⟨rg, rA, rcap, ri⟩ dy dy nb _ (hl.next (by (repeat (first | exact Below.refl _ _ | refine Below.setCell ?_ (by first | omega | (simp; omega) | (simp; done)) _ | refine Below.alloc ?_ (by first | omega | (simp; omega) | (simp; done)) _ | refine Below.drew ?_ | refine below_drewN ?_ _ | refine Below.trans ?_ (Below.mono (by assumption) (by first | omega | (simp; omega) | (simp; done))))))) (hr.to (by (repeat (first | exact Below.refl _ _ | refine Below.setCell ?_ (by first | omega | (simp; omega) | (simp; done)) _ | refine Below.alloc ?_ (by first | omega | (simp; omega) | (simp; done)) _ | refine Below.drew ?_ | refine below_drewN ?_ _ | refine Below.trans ?_ (Below.mono (by assumption) (by first | omega | (simp; omega) | (simp; done)))))))).mono ?_; rintro e wq ⟨mv, rfl, hmq⟩; have hbq := hmq.2; have hzq := hbq.size))
  rename_i hHeld
  obtain ⟨c30, c31⟩ := hHeld
  have HBq : Below W2.heap.size W2 wq := by (repeat (first | exact Below.refl _ _ | refine Below.setCell ?_ (by first | omega | (simp; omega) | (simp; done)) _ | refine Below.alloc ?_ (by first | omega | (simp; omega) | (simp; done)) _ | refine Below.drew ?_ | refine below_drewN ?_ _ | refine Below.trans ?_ (Below.mono (by assumption) (by first | omega | (simp; omega) | (simp; done)))))
  have HB3 : Below w.heap.size w wq := HB2.trans (HBq.mono HB2.size)
  have ht3 := ht.to HBq
  have zw3 : w.heap.size < wq.heap.size := by have := HBq.size; omega
  rw [HM1.out.1]
  rw [HM1.out.2] at hmq
  obtain ⟨⟨mA, mc, rfl, lm1, lm2, lm3, -⟩, -⟩ := hmq
  rw [List.length_map] at lm1 ⊢
  have hm3 : RowsAt wq wq.heap.size 2 mA mc (M.map meantC) := ⟨by rw [List.length_map]; exact lm1, lm2, lm3⟩
  clear hba hbq c20 c21 ht lm3
  go_wp2_with (go_at_call 27; refine (climbs_yes tA tc T 10000 _ ht3 HCC.out).mono ?_; rintro e w' ⟨rfl, hw'⟩; rw [hw']; clear hw')
  have hmI : (M.length : Int) ≤ 4 := by omega
  go_loopw [11, 12] (fun df i wr => ∃ k : Nat, k ≤ M.length ∧ i = .int .i64 k ∧ df = .bool (diffB M k) ∧ Below wq.heap.size wq wr) (fun _ i _ => M.length - (intOf i).toNat)
  case atStart => exact ⟨0, Nat.zero_le _, rfl, by simp [diffB], Below.refl _ _⟩
  case round =>
    obtain ⟨k, hk, rfl, rfl, hC⟩ := hrel
    have hs := hC.size
    by_cases hlt : k < M.length
    · obtain ⟨p, hp⟩ : ∃ p, M[k]? = some p := ⟨_, List.getElem?_eq_getElem hlt⟩
      obtain ⟨p0, hp0⟩ : ∃ p, M[0]? = some p := ⟨_, List.getElem?_eq_getElem (by omega)⟩
      obtain ⟨pb, poff, rfl, hpb, x0, x1⟩ := row2 (hm3.to hC).row hp rfl
      obtain ⟨pb', poff', e, -, y0, y1⟩ := row2 (hm3.to hC).row hp0 rfl
      cases e
      have hst := diff_step hp
      have hhd : (M.headD (0, 0)) = p0 := by
        cases hM : M with
        | nil => rw [hM] at hp0; cases hp0
        | cons a l => rw [hM] at hp0; simpa using hp0
      rw [hhd] at hst
      have HST := Lib.hid hst
      have hkI : (k : Int) < M.length := by omega
      have h0I : (0 : Int) ≤ k := by omega
      have h0M : (0 : Int) < M.length := by omega
      clear hst hhd
      have HP := Lib.hid hp
      clear hp hp0
      rcases hdk : diffB M k with _ | _
      · rcases hne : (p.2 != p0.2) with _ | _
        all_goals
          have HD2 := HST.out
          rw [hdk, hne] at HD2
          have HD3 := Lib.hid HD2
          clear HD2 hdk
          go_wp2_with fail
          (refine wp_region_grow_lit (by kernel_rfl) (by kernel_rfl) ?_; (repeat (go_big_quiet_step (fail))); refine wpQuiet_nil ?_; intro w1 hw1; have hb1 := below_of_plus hw1; clear hw1; obtain ⟨⟨hc1, hf1, hs1⟩, hz1⟩ := after hb1; (try simp only [World.size_alloc, World.size_setCell, World.size_drew] at hz1))
          go_wp2
          go_roundw
          case rel => exact ⟨k + 1, by omega, by go_num, by rw [HD3.out]; rfl, hC.trans (hb1.mono hs)⟩
          case measure => simp [intOf]; omega
      · have HD2 := HST.out
        rw [hdk] at HD2
        have HD3 := Lib.hid HD2
        clear HD2 hdk
        go_wp2_with fail
        (refine wp_region_grow_lit (by kernel_rfl) (by kernel_rfl) ?_; (repeat (go_big_quiet_step (fail))); refine wpQuiet_nil ?_; intro w1 hw1; have hb1 := below_of_plus hw1; clear hw1; obtain ⟨⟨hc1, hf1, hs1⟩, hz1⟩ := after hb1; (try simp only [World.size_alloc, World.size_setCell, World.size_drew] at hz1))
        go_wp2
        go_roundw
        case rel => exact ⟨k + 1, by omega, by go_num, by rw [HD3.out]; rfl, hC.trans (hb1.mono hs)⟩
        case measure => simp [intOf]; omega
    · obtain rfl : k = M.length := by omega
      have ht4 := ht3.to hC
      have HB4 : Below w.heap.size w wr := HB3.trans (hC.mono HB3.size)
      have c40 := (hC.cell (p := ⟨w.heap.size, 0, none⟩) zw3).trans c30
      have c41 := (hC.cell (p := ⟨w.heap.size, 1, none⟩) zw3).trans c31
      have zw4 : w.heap.size < wr.heap.size := by omega
      rw [HD.out]
      have hTI := ht4.len
      have hTI2 := ht4.cap
      obtain ⟨wo, rfl⟩ : ∃ wo : World, wo = wr := ⟨_, rfl⟩
      clear hC hs
      by_cases hpl : 0 ≤ placeF T nb
      all_goals
        go_wp2_with (go_at_call 28; refine (place_any tA tc T nb _ ht4).mono ?_; rintro e w' ⟨rfl, hw'⟩; rw [hw']; clear hw')
        go_loopw [13] (fun i wx => ∃ j : Nat, j ≤ T.length ∧ i = .int .i64 j ∧ Below wo.heap.size wo wx) (fun i _ => T.length - (intOf i).toNat)
        case atStart => exact ⟨0, Nat.zero_le _, rfl, Below.refl _ _⟩
        obtain ⟨j, hj, rfl, hC⟩ := hrel
        have hs := hC.size
        have HB5 : Below w.heap.size w wr := HB4.trans (hC.mono HB4.size)
        by_cases hlt : j < T.length
        · obtain ⟨y, hy⟩ : ∃ y, T[j]? = some y := ⟨_, List.getElem?_eq_getElem hlt⟩
          obtain ⟨tb, toff, rfl, htb, t0⟩ := (ht4.to hC).at_ hy
          obtain ⟨⟨y0, y1⟩, y2⟩ := HTW.out y (List.mem_of_getElem? hy)
          obtain ⟨ML, hML⟩ : ∃ ML, ML = meantL y (bk ri (inUseQ dy dy) ri.length) := ⟨_, rfl⟩
          have HY1 : Hid (meansErr ⟨rg, rA, rcap, ri⟩ dy dy y = 0 ∧ meansL ⟨rg, rA, rcap, ri⟩ dy dy y = ML) := by rw [hML]; exact means_day hv d0 d1 y0 y1
          have l4 : ML.length ≤ 4 := by rw [hML]; exact Nat.le_trans meant_short k2
          rw [← hML] at y2
          have l2 : (2 : Int) ≤ ML.length := by omega
          have hy3 := Lib.hid hy
          have hjI : (j : Int) < T.length := by omega
          have h0J : (0 : Int) ≤ j := by omega
          have c50 := (hC.cell (p := ⟨w.heap.size, 0, none⟩) zw4).trans c40
          have c51 := (hC.cell (p := ⟨w.heap.size, 1, none⟩) zw4).trans c41
          clear hy y2 c30 c31 hML
          go_wp2_with fail
          go_region_held3 (fun w' => w'.cell? ⟨w.heap.size, 0, none⟩ = some (vi rg) ∧ w'.cell? ⟨w.heap.size, 1, none⟩ = some (.slice rA ri.length rcap) ∧ w'.cell? ⟨tb, toff + j, none⟩ = some (vi y))
            (first
              | go_keep
              | (go_split_ands
                 refine ⟨?_, ?_, ?_⟩
                 all_goals first
                   | ((rw [hba.cell (by first | omega | (simp; omega) | (simp; done))]); assumption)
                   | ((rw [hbq.cell (by first | omega | (simp; omega) | (simp; done))]); assumption)))
            (first
              | (go_at_call 22; refine (to_any _ _ _).mono ?_; rintro e wa ⟨rfl, hba⟩; have hza := hba.size; (try simp only [World.size_drew] at hza))
              | (go_at_call 24; refine (means_ ⟨rg, _, rcap, ri⟩ dy dy y _ (hl.next (by (repeat (first | exact Below.refl _ _ | refine Below.setCell ?_ (by first | omega | (simp; omega) | (simp; done)) _ | refine Below.alloc ?_ (by first | omega | (simp; omega) | (simp; done)) _ | refine Below.drew ?_ | refine below_drewN ?_ _ | refine Below.trans ?_ (Below.mono (by assumption) (by first | omega | (simp; omega) | (simp; done))))))) (hr.to (by (repeat (first | exact Below.refl _ _ | refine Below.setCell ?_ (by first | omega | (simp; omega) | (simp; done)) _ | refine Below.alloc ?_ (by first | omega | (simp; omega) | (simp; done)) _ | refine Below.drew ?_ | refine below_drewN ?_ _ | refine Below.trans ?_ (Below.mono (by assumption) (by first | omega | (simp; omega) | (simp; done)))))))).mono ?_; rintro e wq ⟨mv, rfl, hmq⟩; have hbq := hmq.2; have hzq := hbq.size))
          rename_i hHeld
          have HBz : Below wr.heap.size wr wq := by (repeat (first | exact Below.refl _ _ | refine Below.setCell ?_ (by first | omega | (simp; omega) | (simp; done)) _ | refine Below.alloc ?_ (by first | omega | (simp; omega) | (simp; done)) _ | refine Below.drew ?_ | refine below_drewN ?_ _ | refine Below.trans ?_ (Below.mono (by assumption) (by first | omega | (simp; omega) | (simp; done)))))
          rw [HY1.out.1]
          rw [HY1.out.2] at hmq
          obtain ⟨⟨mB, md, rfl, ln1, ln2, ln3, -⟩, -⟩ := hmq
          rw [List.length_map] at ln1 ⊢
          clear hHeld hba hbq ln3 c50 c51 t0
          go_wp2
          go_roundw
          case rel => exact ⟨j + 1, by omega, by go_num, hC.trans (HBz.mono hs)⟩
          case measure => simp [intOf]; omega
        · obtain rfl : j = T.length := by omega
          go_wp2_with (go_at_call 19; refine (works_any _ (hl.next HB5)).mono ?_; rintro e w9 ⟨rfl, hb9⟩)
          go_ret
          exact ⟨rfl, HB5.trans (hb9.mono HB5.size)⟩
end Go.Proofs.YtpcajmkmmkmekaaDoor
