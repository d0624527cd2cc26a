/- Contract of the specification's Check: it answers 0 for a valid rack, 10 for any other. -/
import Derived.Test.YtpcajmkmmkmekaaGreatDoorXR8
import Derived.Test.YtpcajmkmmkmekaaGreatDoorXAp
import Derived.Laws.AppendOwn
import Derived.Deep.AppendLies
import Derived.Deep.CutRange
set_option linter.unusedVariables false
set_option linter.unusedSimpArgs false
namespace Go.Proofs.YtpcajmkmmkmekaaGreatDoor
open Go Go.RowKit
set_option maxHeartbeats 8000000
set_option maxRecDepth 100000 in
theorem rcheck_any (r : Rack) (w : World) (h : RackAt w w.heap.size r) :
    Calls Tryz.prog 10 #[r.val] w fun e w' => e = .returned (vi (if validB r then 0 else 10)) ∧ Below w.heap.size w w' := by
  rcases s0 : (limB 0 r.goods && limB 1 r.issues.length) with _ | _
  · have : validB r = false := by unfold validB; rw [s0]; rfl
    rw [this]
    exact rcheck_no r w h s0
  have HV0 := Lib.hid s0
  have VNO := Lib.hid (fun (k : Nat) (x : Issue) (hx : r.issues[k]? = some x) (hc : catB r x = false) => valid_no hx hc)
  rw [rackB_ref] at s0
  simp only [Bool.and_eq_true, decide_eq_true_eq] at s0
  obtain ⟨⟨g1, g2⟩, n1, n2⟩ := s0
  obtain ⟨V, hV⟩ : ∃ V, V = validB r := ⟨_, rfl⟩
  rw [← hV] at VNO ⊢
  have HVV := Lib.hid hV
  obtain ⟨CB, hCB⟩ : ∃ CB : Issue → Bool, CB = catB r := ⟨_, rfl⟩
  have HCB := Lib.hid hCB
  rw [← hCB] at VNO
  obtain ⟨GI, hGI⟩ : ∃ GI : Nat → Bool, GI = goodIssue r := ⟨_, rfl⟩
  have HGI := Lib.hid hGI
  obtain ⟨GE, hGE⟩ : ∃ GE : List Entry → Nat → Bool, GE = goodEntry r := ⟨_, rfl⟩
  have HGE := Lib.hid hGE
  have HRF : Hid (∀ (l : List Entry) (k : Nat) (e : Entry), l[k]? = some e → GE l k = (entryR e && ((decide (0 ≤ e.good) && decide (e.good ≤ r.goods - 1)) && (decide (placeF (numsTo l k) e.number < 0) && decide (placeF (goodsTo l k) e.good < 0))))) := fun l k e he => by
    rw [hGE]; exact goodEntry_ref he
  have HCT : Hid (∀ x : Issue, CB x = (headB x && (List.range x.entries.length).all (GE x.entries))) := fun x => by rw [hCB, hGE]; rfl
  have HVT : Hid (V = (List.range r.issues.length).all GI) := by unfold Hid; rw [hV, validB, HV0.out, hGI]; rfl
  have HGT : Hid (∀ k x, r.issues[k]? = some x → GI k = CB x) := fun k x hx => by rw [hGI, hCB]; exact goodIssue_of hx
  obtain ⟨an, han⟩ : ∃ an : Int, an = (if V then 0 else 10) := ⟨_, rfl⟩
  rw [← han]
  have HA0 : Hid (V = true → an = 0) := fun hh => by rw [han, hh]; rfl
  have HA1 : Hid (V = false → an = 10) := fun hh => by rw [han, hh]; rfl
  clear hV hCB hGI hGE HV0 han
  obtain ⟨rg, rA, rcap, ri⟩ := r
  have hcap := IssuesAt.cap h
  have hlen := IssuesAt.len h
  have hfew := IssuesAt.few h
  have hri : IssuesAt w w.heap.size rA rcap ri := h
  simp only at g1 g2 n1 n2 VNO HRF HVT HGT
  show Calls Tryz.prog 10 #[.agg #[vi rg, .slice rA ri.length rcap]] w _
  go_enter Tryz.func10, Tryz.ntmps10
  go_wp2_with (go_at_call 36; refine (tween_yes _ _ _ _ (by omega) (by omega)).mono ?_; rintro e w1 ⟨rfl, rfl⟩)
  obtain ⟨W, hW⟩ : ∃ W, W = w.alloc (.cells #[vi rg, .slice rA ri.length rcap] 24) := ⟨_, rfl⟩
  have HB0 : Below w.heap.size w W := by rw [hW]; exact (Below.refl _ _).alloc (Nat.le_refl _) _
  have c0 : W.cell? ⟨w.heap.size, 0, none⟩ = some (vi rg) := by rw [hW]; simp [go_sem]
  have c1 : W.cell? ⟨w.heap.size, 1, none⟩ = some (.slice rA ri.length rcap) := by rw [hW]; simp [go_sem]
  have z0 : w.heap.size < W.heap.size := by rw [hW]; simp
  have hriW : IssuesAt W w.heap.size rA rcap ri := hri.below HB0
  rw [← hW]
  clear hW
  go_loopw [3, 4] (fun ok i wr => ∃ (k : Nat) (b : Bool), k ≤ ri.length ∧ i = .int .i64 k ∧ ok = .bool b ∧ Below W.heap.size W wr ∧ Hid ((b = true → ∀ j, j < k → GI j = true) ∧ (b = false → V = false))) (fun _ i _ => ri.length - (intOf i).toNat)
  case atStart => exact ⟨0, true, Nat.zero_le _, rfl, rfl, Below.refl _ _, ⟨fun _ j hj => absurd hj (by omega), fun h => by cases h⟩⟩
  obtain ⟨k, b, hk, rfl, rfl, hB, hI⟩ := hrel
  have hs := hB.size
  have r0 := cell_keep hB c0
  have r1 := cell_keep hB c1
  have zr : w.heap.size < wr.heap.size := by omega
  rcases b with _ | _
  · have hVf := hI.out.2 rfl
    have E : Hid (an = 10) := HA1.out hVf
    clear hVf
    go_wp2_with fail
    go_ret
    exact ⟨retI E.out.symm, HB0.trans (hB.mono HB0.size)⟩
  have HIT := Lib.hid (hI.out.1 rfl)
  clear hI
  by_cases hlt : k < ri.length
  · obtain ⟨x, hx⟩ : ∃ x, ri[k]? = some x := ⟨_, List.getElem?_eq_getElem hlt⟩
    have HNO := Lib.hid (VNO.out k x hx)
    have HGK := Lib.hid (HGT.out k x hx)
    have hCX := HCT.out x
    rw [headB_ref] at hCX
    have HCX := Lib.hid hCX
    obtain ⟨CX, hCXd⟩ : ∃ CX, CX = CB x := ⟨_, rfl⟩
    rw [← hCXd] at HNO HGK HCX
    clear hCX hCXd
    have hxe : EntriesAt wr w.heap.size x.ad x.cap x.entries := (hriW.below (hB.mono (by omega))).at_ hx
    obtain ⟨xlo, xhi, xhd, xA, xcap, xl⟩ := x
    obtain ⟨bb, off, rfl, hbb, a0, a1, a2, a3⟩ := row4 (hriW.below (hB.mono (by omega))).row hx rfl
    have zb : bb < wr.heap.size := by omega
    have hkI : (k : Int) < ri.length := by omega
    have h0I : (0 : Int) ≤ k := by omega
    have xcap2 := hxe.cap
    have xlen2 := hxe.len
    simp only at xcap2 xlen2 hxe HCX
    clear hx
    rcases t1 : (decide (0 ≤ xlo) && decide (xlo ≤ xhi) && decide (xhi ≤ 20000)) with _ | _
    · have HBAD := Lib.hid (HNO.out (by rw [HCX.out, t1]; rfl))
      go_wp2_with (go_at_call 37; refine (proper_is t1 _).mono ?_; rintro e w5 ⟨rfl, hb5⟩; obtain ⟨⟨hc5, hf5, hs5⟩, hz5⟩ := after hb5; (try simp only [World.size_alloc] at hz5); have hq5 : wr.heap.size < w5.heap.size := (by omega))
      go_rounds 2
      go_roundw
      case rel => exact ⟨k + 1, false, by omega, by go_num, rfl, by (repeat (first | exact Below.refl _ _ | refine Below.setCell ?_ (by first | omega | (simp; omega) | (simp; done)) _ | refine Below.alloc ?_ (by first | omega | (simp; omega) | (simp; done)) _ | refine Below.drew ?_ | refine below_drewN ?_ _ | refine Below.trans ?_ (Below.mono (by assumption) (by first | omega | (simp; omega) | (simp; done))))), ⟨(fun h => absurd h (by decide)), fun _ => HBAD.out⟩⟩
      case measure => simp [intOf]; omega
    rcases t2 : (decide (xlo ≤ xhd) && decide (xhd ≤ 20000)) with _ | _
    · have HBAD := Lib.hid (HNO.out (by rw [HCX.out, t1, t2]; rfl))
      go_wp2_with (first | (go_at_call 37; refine (proper_is t1 _).mono ?_; rintro e w5 ⟨rfl, hb5⟩; obtain ⟨⟨hc5, hf5, hs5⟩, hz5⟩ := after hb5; (try simp only [World.size_alloc] at hz5); have hq5 : wr.heap.size < w5.heap.size := (by omega)) | (go_at_call 36; refine (tween_is t2 _).mono ?_; rintro e w1 ⟨rfl, rfl⟩))
      go_rounds 2
      go_roundw
      case rel => exact ⟨k + 1, false, by omega, by go_num, rfl, by (repeat (first | exact Below.refl _ _ | refine Below.setCell ?_ (by first | omega | (simp; omega) | (simp; done)) _ | refine Below.alloc ?_ (by first | omega | (simp; omega) | (simp; done)) _ | refine Below.drew ?_ | refine below_drewN ?_ _ | refine Below.trans ?_ (Below.mono (by assumption) (by first | omega | (simp; omega) | (simp; done))))), ⟨(fun h => absurd h (by decide)), fun _ => HBAD.out⟩⟩
      case measure => simp [intOf]; omega
    by_cases t3 : (xl.length : Int) ≤ 24
    · go_wp2_with (first | (go_at_call 37; refine (proper_is t1 _).mono ?_; rintro e w5 ⟨rfl, hb5⟩; obtain ⟨⟨hc5, hf5, hs5⟩, hz5⟩ := after hb5; (try simp only [World.size_alloc] at hz5); have hq5 : wr.heap.size < w5.heap.size := (by omega)) | (go_at_call 36; refine (tween_is t2 _).mono ?_; rintro e w1 ⟨rfl, rfl⟩))
      have HALL : Hid (CX = (List.range xl.length).all (GE xl)) := by unfold Hid; rw [HCX.out, t1, t2]; simp; omega
      have HB5 : Below wr.heap.size wr w5 := by (repeat (first | exact Below.refl _ _ | refine Below.setCell ?_ (by first | omega | (simp; omega) | (simp; done)) _ | refine Below.alloc ?_ (by first | omega | (simp; omega) | (simp; done)) _ | refine Below.drew ?_ | refine below_drewN ?_ _ | refine Below.trans ?_ (Below.mono (by assumption) (by first | omega | (simp; omega) | (simp; done)))))
      have X3 : w5.cell? ⟨wr.heap.size, 3, none⟩ = some (.slice xA xl.length xcap) := by rw [hc5 _ _ (by simp)]; simp [go_sem]
      have hxe5 : EntriesAt w5 w.heap.size xA xcap xl := hxe.below (HB5.mono (by omega))
      have R0 := cell_keep HB5 r0
      have R1 := cell_keep HB5 r1
      have hB5 : Below W.heap.size W w5 := gr_trans hB HB5
      have z5 : w.heap.size < w5.heap.size := cell_lt R0
      clear hxe hb5 hc5 hf5 hs5 a0 a1 a2 a3 r0 r1 t1 t2 HCX HB5
      obtain ⟨Y, rfl⟩ : ∃ Y, Y = w5 := ⟨_, rfl⟩
      obtain ⟨wo, rfl⟩ : ∃ wo : World, wo = wr := ⟨_, rfl⟩
      go_loopw [3, 6, 7, 8] (fun ok nv gv j wq => ∃ (m : Nat) (b : Bool), m ≤ xl.length ∧ j = .int .i64 m ∧ ok = .bool b ∧ Below Y.heap.size Y wq ∧ wq.ownsRow Y.heap.size 3 1 nv m ((numsTo xl m).map vi) ∧ wq.ownsRow Y.heap.size 3 1 gv m ((goodsTo xl m).map vi) ∧ NotOne nv gv ∧ Hid ((b = true → ∀ i, i < m → GE xl i = true) ∧ (b = false → CX = false))) (fun _ _ _ j _ => xl.length - (intOf j).toNat)
      case atStart => exact ⟨0, true, Nat.zero_le _, rfl, rfl, Below.refl _ _, by simpa [numsTo] using World.ownsRow_nil _ _ _ _, by simpa [goodsTo] using World.ownsRow_nil _ _ _ _, notOne_nil, ⟨(fun _ i hi => absurd hi (by omega)), (fun h => absurd h (by decide))⟩⟩
      obtain ⟨m, b, hm, rfl, rfl, hC, hnv, hgv, hno, hI2⟩ := hrel
      have hsC := hC.size
      have x3 := cell_keep hC X3
      have s0 := cell_keep hC R0
      have zwr : w.heap.size < wr.heap.size := by omega
      have zwo : wo.heap.size < wr.heap.size := by omega
      rcases b with _ | _
      · have HBAD := Lib.hid (HNO.out (hI2.out.2 rfl))
        clear hI2
        go_wp2_with fail
        go_roundw
        case rel => exact ⟨k + 1, false, by omega, by go_num, rfl, gr_trans hB5 hC, ⟨(fun h => absurd h (by decide)), fun _ => HBAD.out⟩⟩
        case measure => simp [intOf]; omega
      have HIT2 := Lib.hid (hI2.out.1 rfl)
      clear hI2
      by_cases hlt2 : m < xl.length
      · obtain ⟨e, he⟩ : ∃ e, xl[m]? = some e := ⟨_, List.getElem?_eq_getElem hlt2⟩
        have HRE := Lib.hid (HRF.out xl m e he)
        obtain ⟨gm, hgm⟩ : ∃ gm, gm = GE xl m := ⟨_, rfl⟩
        rw [← hgm] at HRE
        have HGM := Lib.hid hgm
        have HNS := Lib.hid (numsTo_succ he)
        obtain ⟨en, eg, ec, eA, ecap, el⟩ := e
        have hee : FitsAt wr w.heap.size eA ecap el := (hxe5.below (hC.mono (by omega))).at_ he
        obtain ⟨ab, aoff, rfl, habb, b0, b1, b2, b3⟩ := row4 (hxe5.below (hC.mono (by omega))).row he rfl
        have hEN : EntryAt wr wr.heap.size ⟨en, eg, ec, eA, ecap, el⟩ := hee.more (by omega)
        have zab : ab < wr.heap.size := by omega
        have hmI : (m : Int) < xl.length := by omega
        have h0M : (0 : Int) ≤ m := by omega
        have ecap2 := hee.cap
        have elen2 := hee.len
        have hnl : (numsTo xl m).length = m := by unfold numsTo; rw [List.length_map, List.length_take]; omega
        have hgl : (goodsTo xl m).length = m := by unfold goodsTo; rw [List.length_map, List.length_take]; omega
        obtain ⟨nA, nc, rfl, hni⟩ := own_ints hnv hnl (by omega)
        obtain ⟨gA, gc, rfl, hgi⟩ := own_ints hgv hgl (by omega)
        have HNL := Lib.hid hnl
        have HGL := Lib.hid hgl
        simp only at HRE HNS
        clear he hgm hnl hgl
        go_upto_region 12 with fail
        obtain ⟨Z, hZ⟩ : ∃ Z, Z = wr.alloc (.cells #[vi en, vi eg, vi ec, .slice eA el.length ecap] 68) := ⟨_, rfl⟩
        have hCZ : Below wr.heap.size wr Z := by rw [hZ]; (repeat (first | exact Below.refl _ _ | refine Below.setCell ?_ (by first | omega | (simp; omega) | (simp; done)) _ | refine Below.alloc ?_ (by first | omega | (simp; omega) | (simp; done)) _ | refine Below.drew ?_ | refine below_drewN ?_ _ | refine Below.trans ?_ (Below.mono (by assumption) (by first | omega | (simp; omega) | (simp; done)))))
        have E0 : Z.cell? ⟨wr.heap.size, 0, none⟩ = some (vi en) := by rw [hZ]; simp [go_sem]
        have E1 : Z.cell? ⟨wr.heap.size, 1, none⟩ = some (vi eg) := by rw [hZ]; simp [go_sem]
        have E2 : Z.cell? ⟨wr.heap.size, 2, none⟩ = some (vi ec) := by rw [hZ]; simp [go_sem]
        have E3 : Z.cell? ⟨wr.heap.size, 3, none⟩ = some (.slice eA el.length ecap) := by rw [hZ]; simp [go_sem]
        rw [← hZ]
        clear hZ b0 b1 b2 b3
        have S0 := cell_keep hCZ s0
        have X3Z := cell_keep hCZ x3
        have zz0 : wr.heap.size < Z.heap.size := cell_lt E0
        have zz1 : w.heap.size < Z.heap.size := cell_lt S0
        go_cut [3] from 66 to 89 (fun s3 wx => s3 = .bool gm ∧ Below Z.heap.size Z wx)
        case first =>
          have hniZ := hni.to hCZ
          have hgiZ := hgi.to hCZ
          have hENZ : EntryAt Z Z.heap.size ⟨en, eg, ec, eA, ecap, el⟩ := EntryAt.to hEN hCZ
          obtain ⟨v3, hv3⟩ : ∃ v3, placeF (numsTo xl m) en = v3 := ⟨_, rfl⟩
          obtain ⟨v4, hv4⟩ : ∃ v4, placeF (goodsTo xl m) eg = v4 := ⟨_, rfl⟩
          have HRE2 := HRE.out
          rw [hv3, hv4] at HRE2
          have HR2 := Lib.hid HRE2
          have HV3 := Lib.hid hv3
          have HV4 := Lib.hid hv4
          clear HRE2 hv3 hv4 HRE
          rcases u1 : entryR ⟨en, eg, ec, eA, ecap, el⟩ with _ | _
          · obtain rfl : gm = false := by rw [HR2.out, u1]; rfl
            have U1 := Lib.hid u1
            clear u1 HR2
            go_wp2_with (go_at_call 38; refine (entry_is U1.out _ hENZ).mono ?_; rintro e w6 ⟨rfl, hb6⟩; obtain ⟨⟨hc6, hf6, hs6⟩, hz6⟩ := after hb6)
            go_meet
            exact ⟨rfl, hb6⟩
          rcases u2 : (decide (0 ≤ eg) && decide (eg ≤ rg - 1)) with _ | _
          · obtain rfl : gm = false := by rw [HR2.out, u1, u2]; rfl
            have U1 := Lib.hid u1
            have U2 := Lib.hid u2
            clear u1 u2 HR2
            go_wp2_with (first | (go_at_call 38; refine (entry_is U1.out _ hENZ).mono ?_; rintro e w6 ⟨rfl, hb6⟩; obtain ⟨⟨hc6, hf6, hs6⟩, hz6⟩ := after hb6) | (go_at_call 36; refine (tween_is U2.out _).mono ?_; rintro e w1 ⟨rfl, rfl⟩))
            go_meet
            exact ⟨rfl, hb6⟩
          have U1 := Lib.hid u1
          have U2 := Lib.hid u2
          by_cases u3 : v3 < 0
          · by_cases u4 : v4 < 0
            · obtain rfl : gm = true := by rw [HR2.out, u1, u2]; simp [u3, u4]
              clear u1 u2 HR2
              go_wp2_with (first | (go_at_call 38; refine (entry_is U1.out _ hENZ).mono ?_; rintro e w6 ⟨rfl, hb6⟩; obtain ⟨⟨hc6, hf6, hs6⟩, hz6⟩ := after hb6) | (go_at_call 36; refine (tween_is U2.out _).mono ?_; rintro e w1 ⟨rfl, rfl⟩) | (go_at_call 39; first | ((with_reducible refine (place_at HV3.out HNL.out nA nc _ (hniZ.to hb6)).mono ?_); rintro e w1 ⟨rfl, rfl⟩) | ((with_reducible refine (place_at HV4.out HGL.out gA gc _ (hgiZ.to hb6)).mono ?_); rintro e w1 ⟨rfl, rfl⟩)))
              go_meet
              exact ⟨rfl, hb6⟩
            · obtain rfl : gm = false := by rw [HR2.out, u1, u2]; simp [u4]
              have u4' : 0 ≤ v4 := by omega
              clear u1 u2 HR2
              go_wp2_with (first | (go_at_call 38; refine (entry_is U1.out _ hENZ).mono ?_; rintro e w6 ⟨rfl, hb6⟩; obtain ⟨⟨hc6, hf6, hs6⟩, hz6⟩ := after hb6) | (go_at_call 36; refine (tween_is U2.out _).mono ?_; rintro e w1 ⟨rfl, rfl⟩) | (go_at_call 39; first | ((with_reducible refine (place_at HV3.out HNL.out nA nc _ (hniZ.to hb6)).mono ?_); rintro e w1 ⟨rfl, rfl⟩) | ((with_reducible refine (place_at HV4.out HGL.out gA gc _ (hgiZ.to hb6)).mono ?_); rintro e w1 ⟨rfl, rfl⟩)))
              go_meet
              exact ⟨by first | rfl | (simp; omega), hb6⟩
          · obtain rfl : gm = false := by rw [HR2.out, u1, u2]; simp [u3]
            have u3' : 0 ≤ v3 := by omega
            clear u1 u2 HR2
            go_wp2_with (first | (go_at_call 38; refine (entry_is U1.out _ hENZ).mono ?_; rintro e w6 ⟨rfl, hb6⟩; obtain ⟨⟨hc6, hf6, hs6⟩, hz6⟩ := after hb6) | (go_at_call 36; refine (tween_is U2.out _).mono ?_; rintro e w1 ⟨rfl, rfl⟩) | (go_at_call 39; refine (place_at HV3.out HNL.out nA nc _ (hniZ.to hb6)).mono ?_; rintro e w1 ⟨rfl, rfl⟩))
            go_meet
            exact ⟨by first | rfl | (simp; omega), hb6⟩
        obtain ⟨rfl, hbX⟩ := hcut
        obtain ⟨X, rfl⟩ : ∃ X, X = wc := ⟨_, rfl⟩
        have E0X := cell_keep hbX E0
        have E1X := cell_keep hbX E1
        have hnvX := own_keep (own_keep hnv hCZ) hbX
        have hgvX := own_keep (own_keep hgv hCZ) hbX
        have HYX : Below Y.heap.size Y X := gr_trans (gr_trans hC hCZ) hbX
        have zXX : Z.heap.size ≤ X.heap.size := hbX.size
        have zYX : Y.heap.size ≤ X.heap.size := HYX.size
        have zyb : wr.heap.size < X.heap.size := cell_lt E0X
        have nlt : ∀ g, (Value.slice nA m nc).ownBlock = some g → Y.heap.size ≤ g ∧ g < wr.heap.size := fun g hg => own_block hnv hg
        have glt : ∀ g, (Value.slice gA m gc).ownBlock = some g → Y.heap.size ≤ g ∧ g < wr.heap.size := fun g hg => own_block hgv hg
        clear HRE HNL HGL hni hgi hnv hgv hEN hee E0 E1 E2 E3 S0 X3Z zz0 zz1 s0 x3 hC hCZ hbX
        go_upto_region 13 with fail
        have hst : Stays (fun w' => Below Y.heap.size X w' ∧ w'.cell? ⟨wr.heap.size, 0, none⟩ = some (vi en) ∧ w'.cell? ⟨wr.heap.size, 1, none⟩ = some (vi eg)) := fun x y hx hxy =>
          ⟨hx.1.trans (hxy.mono (by have := hx.1.size; omega)), cell_keep hxy hx.2.1, cell_keep hxy hx.2.2⟩
        refine' wp_region_box (fun w' => Below Y.heap.size X w' ∧ w'.cell? ⟨wr.heap.size, 0, none⟩ = some (vi en) ∧ w'.cell? ⟨wr.heap.size, 1, none⟩ = some (vi eg)) hst [0, 1, 2, 5, 6, 7] 6 102 (by kernel_rfl) (by kernel_rfl) rfl (by kernel_rfl) (by kernel_rfl) rfl (by kernel_rfl) ?hl13 ⟨Below.refl _ _, E0X, E1X⟩ ?hq13 ?hr13
        case hl13 =>
          simp only [List.map_cons, List.map_nil, List.getD_cons_zero, List.getD_cons_succ]
          exact rfl
        case hq13 =>
          rintro w0 ⟨hw0, u0, u1⟩
          have v1 : wr.heap.size < w0.heap.size := cell_lt u0
          (repeat (go_big_quiet_step (fail)))
          exact wpQuiet_nil rfl
        have GR : Below X.heap.size X X := Below.refl _ _
        have HFIN : ∀ (g4 c4 g9 c9 : Nat) (Wf : World), Below Y.heap.size X Wf → Wf.ownsRow Y.heap.size 3 1 (.slice (some ⟨g4, 0, none⟩) (m + 1) c4) (m + 1) ((numsTo xl m).map vi ++ [vi en]) → Wf.ownsRow Y.heap.size 3 1 (.slice (some ⟨g9, 0, none⟩) (m + 1) c9) (m + 1) ((goodsTo xl m).map vi ++ [vi eg]) → g4 ≠ g9 →
            Hid (∃ (m' : Nat) (b : Bool), m' ≤ xl.length ∧ (Value.int .i64 ((m : Int) + 1)) = .int .i64 m' ∧ Value.bool gm = .bool b ∧ Below Y.heap.size Y Wf ∧ Wf.ownsRow Y.heap.size 3 1 (.slice (some ⟨g4, 0, none⟩) (m + 1) c4) m' ((numsTo xl m').map vi) ∧ Wf.ownsRow Y.heap.size 3 1 (.slice (some ⟨g9, 0, none⟩) (m + 1) c9) m' ((goodsTo xl m').map vi) ∧ NotOne (.slice (some ⟨g4, 0, none⟩) (m + 1) c4) (.slice (some ⟨g9, 0, none⟩) (m + 1) c9) ∧ Hid ((b = true → ∀ i, i < m' → GE xl i = true) ∧ (b = false → CX = false))) := by
          intro g4 c4 g9 c9 Wf h1 h2 h3 h4
          refine ⟨m + 1, gm, by omega, by simp, rfl, HYX.trans h1, ?_, ?_, ?_, ?_, ?_⟩
          · rw [HNS.out.1, List.map_append]; exact h2
          · rw [HNS.out.2, List.map_append]; exact h3
          · intro g hg hg'
            simp only [Value.ownBlock, Option.some.injEq] at hg hg'
            exact h4 (hg.trans hg'.symm)
          · intro hgt
            exact upto_succ HIT2.out (HGM.out.symm.trans hgt)
          · intro hgf
            rw [HALL.out]
            rw [List.all_eq_false]
            exact ⟨m, List.mem_range.2 hlt2, by rw [← HGM.out, hgf]; simp⟩
        have HFN := Lib.hid HFIN
        clear HFIN
        refine wpUp_two (i := 3) (j := 8) (by kernel_rfl) rfl rfl rfl rfl (fun w1 h1 h2 K hK => ?_) (fun w1 h1 h2 K hK => ?_)
        · skip
          go_simp
          obtain ⟨V, hV, hbV, NC, hlV⟩ := alloc_one w1 (vi en) 3
          rw [← hV]
          clear hV
          have NBX : X.heap.size ≤ w1.heap.size := h1.size
          have GR1 : Below X.heap.size X V := gr_trans h1 hbV
          refine hK _ _ (hst _ _ h2 hbV) ?_
          refine wpUp_two (i := 4) (j := 8) (by kernel_rfl) rfl rfl rfl rfl (fun w3 h3 h4 K3 hK3 => ?_) (fun w3 h3 h4 K3 hK3 => ?_)
          · have GR3 := gr_trans GR1 h3
            refine up_append_int _ _ _ (by rfl) (by kernel_rfl) Y.heap.size (.slice nA m nc) m _ (by rfl) (own_keep hnvX GR3) w1.heap.size (vi en) (by rfl) (cell_keep h3 NC) (by rfl) (by omega) (by have := GR3.size; omega) ?_
            intro g4 c4 w4 own4 hg4 hat4 hl4
            simp only [Act.put, List.setIfInBounds_toArray, List.set_cons_zero, List.set_cons_succ]
            have zp4 : wr.heap.size < w3.heap.size := cell_lt h4.2.1
            have s4 := hg4.size
            have C4 : Below Y.heap.size X w4 ∧ w4.cell? ⟨wr.heap.size, 0, none⟩ = some (vi en) ∧ w4.cell? ⟨wr.heap.size, 1, none⟩ = some (vi eg) := ⟨Below.grown h4.1 hg4 (by omega) (fun j e => (nlt j e).1), (hg4.cell_far _ (by simp only; omega) (fun he => by have := nlt _ he.symm; simp only at this; omega)).trans h4.2.1, (hg4.cell_far _ (by simp only; omega) (fun he => by have := nlt _ he.symm; simp only at this; omega)).trans h4.2.2⟩
            have gv4 := own_far (own_keep hgvX GR3) hg4 (fun g a b => hno g a b)
            have x4 : X.heap.size ≤ w3.heap.size := GR3.size
            refine hK3 _ _ C4 ?_
            refine wpUp_one (i := 8) (by kernel_rfl) rfl rfl (fun w5 h5 h6 K5 hK5 => ?_)
            go_simp
            obtain ⟨V5, hV5, hbV5, GC, hlV5⟩ := alloc_one w5 (vi eg) 3
            rw [← hV5]
            clear hV5
            refine hK5 _ _ (hst _ _ h6 hbV5) ?_
            refine wpUp_one (i := 9) (by kernel_rfl) rfl rfl (fun w7 h7 h8 K7 hK7 => ?_)
            have G47 := gr_trans (gr_trans h5 hbV5) h7
            refine up_append_int _ _ _ (by rfl) (by kernel_rfl) Y.heap.size (.slice gA m gc) m _ (by rfl) (own_keep gv4 G47) w5.heap.size (vi eg) (by rfl) (cell_keep h7 GC) (by rfl) (by omega) (by have := G47.size; omega) ?_
            intro g9 c9 w9 own9 hg9 hat9 hl9
            simp only [Act.put, List.setIfInBounds_toArray, List.set_cons_zero, List.set_cons_succ]
            have zp9 : wr.heap.size < w7.heap.size := cell_lt h8.2.1
            have C9 : Below Y.heap.size X w9 ∧ w9.cell? ⟨wr.heap.size, 0, none⟩ = some (vi en) ∧ w9.cell? ⟨wr.heap.size, 1, none⟩ = some (vi eg) := ⟨Below.grown h8.1 hg9 (by omega) (fun j e => (glt j e).1), (hg9.cell_far _ (by simp only; omega) (fun he => by have := glt _ he.symm; simp only at this; omega)).trans h8.2.1, (hg9.cell_far _ (by simp only; omega) (fun he => by have := glt _ he.symm; simp only at this; omega)).trans h8.2.2⟩
            have ne1 : ∀ g, (Value.slice gA m gc).ownBlock = some g → g4 ≠ g := fun g a e => by
              subst e
              rcases hat4 with q | q
              · exact hno _ q a
              · have := glt _ a; omega
            have nv9 := own_far (own_keep own4 G47) hg9 (fun g a b => ne1 g a (by simpa [Value.ownBlock] using b))
            have ne2 : g4 ≠ g9 := by
              rcases hat9 with q | q
              · exact ne1 _ q
              · have := G47.size; omega
            refine hK7 _ _ C9 ?_
            refine wpUp_one (i := 10) (by kernel_rfl) rfl rfl (fun v1 a1 a2 Ka hKa => ?_)
            go_simp
            refine hKa _ _ a2 ?_
            refine wpUp_one (i := 11) (by kernel_rfl) rfl rfl (fun v2 a3 a4 Kb hKb => ?_)
            go_simp
            refine hKb _ _ a4 (wpUp_done (by kernel_rfl) (fun Wf a5 a6 => NoPanic.normal ?_))
            have gf := gr_trans (gr_trans a1 a3) a5
            have RES := HFN.out g4 c4 g9 c9 Wf a6.1 (own_keep nv9 gf) (own_keep own9 gf) ne2
            generalize w1.heap.size = nb1 at *
            generalize w5.heap.size = nb3 at *
            clear gf own9 nv9 own4 gv4 hg9 hg4 hat4 hat9 hl4 hl9 ne1 ne2 C4 C9 a1 a2 a3 a4 a5 a6 zp4 zp9 hKa hKb hK7 HFN hnvX hgvX nlt glt hno hst
            go_wp2_with fail
            go_roundw
            case rel => exact RES.out
            case measure => simp [intOf]; omega
          · skip
            go_simp
            obtain ⟨V3, hV3, hbV3, GC, hlV3⟩ := alloc_one w3 (vi eg) 3
            rw [← hV3]
            clear hV3
            have GR3 : Below X.heap.size X V3 := gr_trans (gr_trans GR1 h3) hbV3
            have zz3 : X.heap.size ≤ w3.heap.size := (gr_trans GR1 h3).size
            have NC3 := cell_keep (gr_trans h3 hbV3) NC
            refine hK3 _ _ (hst _ _ h4 hbV3) ?_
            refine wpUp_one (i := 4) (by kernel_rfl) rfl rfl (fun w5 h5 h6 K5 hK5 => ?_)
            have GR5 := gr_trans GR3 h5
            refine up_append_int _ _ _ (by rfl) (by kernel_rfl) Y.heap.size (.slice nA m nc) m _ (by rfl) (own_keep hnvX GR5) w1.heap.size (vi en) (by rfl) (cell_keep h5 NC3) (by rfl) (by omega) (by have := GR5.size; omega) ?_
            intro g4 c4 w4 own4 hg4 hat4 hl4
            simp only [Act.put, List.setIfInBounds_toArray, List.set_cons_zero, List.set_cons_succ]
            have zp4 : wr.heap.size < w5.heap.size := cell_lt h6.2.1
            have s4 := hg4.size
            have C4 : Below Y.heap.size X w4 ∧ w4.cell? ⟨wr.heap.size, 0, none⟩ = some (vi en) ∧ w4.cell? ⟨wr.heap.size, 1, none⟩ = some (vi eg) := ⟨Below.grown h6.1 hg4 (by omega) (fun j e => (nlt j e).1), (hg4.cell_far _ (by simp only; omega) (fun he => by have := nlt _ he.symm; simp only at this; omega)).trans h6.2.1, (hg4.cell_far _ (by simp only; omega) (fun he => by have := nlt _ he.symm; simp only at this; omega)).trans h6.2.2⟩
            have gv4 := own_far (own_keep hgvX GR5) hg4 (fun g a b => hno g a b)
            have x4 : X.heap.size ≤ w5.heap.size := GR5.size
            refine hK5 _ _ C4 ?_
            have GC4 := (hg4.cell_far ⟨w3.heap.size, 0, none⟩ (by simp only; have := (cell_lt (cell_keep h5 GC)); simp only at this; omega) (fun he => by have := nlt _ he.symm; simp only at this; omega)).trans (cell_keep h5 GC)
            refine wpUp_one (i := 9) (by kernel_rfl) rfl rfl (fun w7 h7 h8 K7 hK7 => ?_)
            refine up_append_int _ _ _ (by rfl) (by kernel_rfl) Y.heap.size (.slice gA m gc) m _ (by rfl) (own_keep gv4 h7) w3.heap.size (vi eg) (by rfl) (cell_keep h7 GC4) (by rfl) (by omega) (by have := h7.size; omega) ?_
            intro g9 c9 w9 own9 hg9 hat9 hl9
            simp only [Act.put, List.setIfInBounds_toArray, List.set_cons_zero, List.set_cons_succ]
            have zp9 : wr.heap.size < w7.heap.size := cell_lt h8.2.1
            have C9 : Below Y.heap.size X w9 ∧ w9.cell? ⟨wr.heap.size, 0, none⟩ = some (vi en) ∧ w9.cell? ⟨wr.heap.size, 1, none⟩ = some (vi eg) := ⟨Below.grown h8.1 hg9 (by omega) (fun j e => (glt j e).1), (hg9.cell_far _ (by simp only; omega) (fun he => by have := glt _ he.symm; simp only at this; omega)).trans h8.2.1, (hg9.cell_far _ (by simp only; omega) (fun he => by have := glt _ he.symm; simp only at this; omega)).trans h8.2.2⟩
            have ne1 : ∀ g, (Value.slice gA m gc).ownBlock = some g → g4 ≠ g := fun g a e => by
              subst e
              rcases hat4 with q | q
              · exact hno _ q a
              · have := glt _ a; omega
            have nv9 := own_far (own_keep own4 h7) hg9 (fun g a b => ne1 g a (by simpa [Value.ownBlock] using b))
            have ne2 : g4 ≠ g9 := by
              rcases hat9 with q | q
              · exact ne1 _ q
              · have := h7.size; omega
            refine hK7 _ _ C9 ?_
            refine wpUp_one (i := 10) (by kernel_rfl) rfl rfl (fun v1 a1 a2 Ka hKa => ?_)
            go_simp
            refine hKa _ _ a2 ?_
            refine wpUp_one (i := 11) (by kernel_rfl) rfl rfl (fun v2 a3 a4 Kb hKb => ?_)
            go_simp
            refine hKb _ _ a4 (wpUp_done (by kernel_rfl) (fun Wf a5 a6 => NoPanic.normal ?_))
            have gf := gr_trans (gr_trans a1 a3) a5
            have RES := HFN.out g4 c4 g9 c9 Wf a6.1 (own_keep nv9 gf) (own_keep own9 gf) ne2
            generalize w1.heap.size = nb1 at *
            generalize w3.heap.size = nb3 at *
            clear gf own9 nv9 own4 gv4 hg9 hg4 hat4 hat9 hl4 hl9 ne1 ne2 C4 C9 a1 a2 a3 a4 a5 a6 zp4 zp9 hKa hKb hK7 HFN hnvX hgvX nlt glt hno hst
            go_wp2_with fail
            go_roundw
            case rel => exact RES.out
            case measure => simp [intOf]; omega
        · skip
          go_simp
          obtain ⟨V, hV, hbV, NC, hlV⟩ := alloc_one w1 (vi eg) 3
          rw [← hV]
          clear hV
          have NBX : X.heap.size ≤ w1.heap.size := h1.size
          have GR1 : Below X.heap.size X V := gr_trans h1 hbV
          refine hK _ _ (hst _ _ h2 hbV) ?_
          refine wpUp_one (i := 3) (by kernel_rfl) rfl rfl (fun w3 h3 h4 K3 hK3 => ?_)
          go_simp
          obtain ⟨V3, hV3, hbV3, GC, hlV3⟩ := alloc_one w3 (vi en) 3
          rw [← hV3]
          clear hV3
          have GR3 : Below X.heap.size X V3 := gr_trans (gr_trans GR1 h3) hbV3
          have zz3 : X.heap.size ≤ w3.heap.size := (gr_trans GR1 h3).size
          have NC3 := cell_keep (gr_trans h3 hbV3) NC
          refine hK3 _ _ (hst _ _ h4 hbV3) ?_
          refine wpUp_one (i := 4) (by kernel_rfl) rfl rfl (fun w5 h5 h6 K5 hK5 => ?_)
          have GR5 := gr_trans GR3 h5
          refine up_append_int _ _ _ (by rfl) (by kernel_rfl) Y.heap.size (.slice nA m nc) m _ (by rfl) (own_keep hnvX GR5) w3.heap.size (vi en) (by rfl) (cell_keep h5 GC) (by rfl) (by omega) (by have := GR5.size; omega) ?_
          intro g4 c4 w4 own4 hg4 hat4 hl4
          simp only [Act.put, List.setIfInBounds_toArray, List.set_cons_zero, List.set_cons_succ]
          have zp4 : wr.heap.size < w5.heap.size := cell_lt h6.2.1
          have s4 := hg4.size
          have C4 : Below Y.heap.size X w4 ∧ w4.cell? ⟨wr.heap.size, 0, none⟩ = some (vi en) ∧ w4.cell? ⟨wr.heap.size, 1, none⟩ = some (vi eg) := ⟨Below.grown h6.1 hg4 (by omega) (fun j e => (nlt j e).1), (hg4.cell_far _ (by simp only; omega) (fun he => by have := nlt _ he.symm; simp only at this; omega)).trans h6.2.1, (hg4.cell_far _ (by simp only; omega) (fun he => by have := nlt _ he.symm; simp only at this; omega)).trans h6.2.2⟩
          have gv4 := own_far (own_keep hgvX GR5) hg4 (fun g a b => hno g a b)
          have x4 : X.heap.size ≤ w5.heap.size := GR5.size
          refine hK5 _ _ C4 ?_
          have GC4 := (hg4.cell_far ⟨w1.heap.size, 0, none⟩ (by simp only; have := (cell_lt (cell_keep h5 NC3)); simp only at this; omega) (fun he => by have := nlt _ he.symm; simp only at this; omega)).trans (cell_keep h5 NC3)
          refine wpUp_one (i := 9) (by kernel_rfl) rfl rfl (fun w7 h7 h8 K7 hK7 => ?_)
          refine up_append_int _ _ _ (by rfl) (by kernel_rfl) Y.heap.size (.slice gA m gc) m _ (by rfl) (own_keep gv4 h7) w1.heap.size (vi eg) (by rfl) (cell_keep h7 GC4) (by rfl) (by omega) (by have := h7.size; omega) ?_
          intro g9 c9 w9 own9 hg9 hat9 hl9
          simp only [Act.put, List.setIfInBounds_toArray, List.set_cons_zero, List.set_cons_succ]
          have zp9 : wr.heap.size < w7.heap.size := cell_lt h8.2.1
          have C9 : Below Y.heap.size X w9 ∧ w9.cell? ⟨wr.heap.size, 0, none⟩ = some (vi en) ∧ w9.cell? ⟨wr.heap.size, 1, none⟩ = some (vi eg) := ⟨Below.grown h8.1 hg9 (by omega) (fun j e => (glt j e).1), (hg9.cell_far _ (by simp only; omega) (fun he => by have := glt _ he.symm; simp only at this; omega)).trans h8.2.1, (hg9.cell_far _ (by simp only; omega) (fun he => by have := glt _ he.symm; simp only at this; omega)).trans h8.2.2⟩
          have ne1 : ∀ g, (Value.slice gA m gc).ownBlock = some g → g4 ≠ g := fun g a e => by
            subst e
            rcases hat4 with q | q
            · exact hno _ q a
            · have := glt _ a; omega
          have nv9 := own_far (own_keep own4 h7) hg9 (fun g a b => ne1 g a (by simpa [Value.ownBlock] using b))
          have ne2 : g4 ≠ g9 := by
            rcases hat9 with q | q
            · exact ne1 _ q
            · have := h7.size; omega
          refine hK7 _ _ C9 ?_
          refine wpUp_one (i := 10) (by kernel_rfl) rfl rfl (fun v1 a1 a2 Ka hKa => ?_)
          go_simp
          refine hKa _ _ a2 ?_
          refine wpUp_one (i := 11) (by kernel_rfl) rfl rfl (fun v2 a3 a4 Kb hKb => ?_)
          go_simp
          refine hKb _ _ a4 (wpUp_done (by kernel_rfl) (fun Wf a5 a6 => NoPanic.normal ?_))
          have gf := gr_trans (gr_trans a1 a3) a5
          have RES := HFN.out g4 c4 g9 c9 Wf a6.1 (own_keep nv9 gf) (own_keep own9 gf) ne2
          generalize w1.heap.size = nb1 at *
          generalize w3.heap.size = nb3 at *
          clear gf own9 nv9 own4 gv4 hg9 hg4 hat4 hat9 hl4 hl9 ne1 ne2 C4 C9 a1 a2 a3 a4 a5 a6 zp4 zp9 hKa hKb hK7 HFN hnvX hgvX nlt glt hno hst
          go_wp2_with fail
          go_roundw
          case rel => exact RES.out
          case measure => simp [intOf]; omega
      · obtain rfl : m = xl.length := by omega
        have hGI : GI k = true := by rw [HGK.out, HALL.out]; exact List.all_eq_true.2 fun j hj => HIT2.out j (List.mem_range.1 hj)
        have HUP : Hid (∀ j, j < k + 1 → GI j = true) := upto_succ HIT.out hGI
        clear hGI
        go_wp2_with fail
        go_roundw
        case rel => exact ⟨k + 1, true, by omega, by go_num, rfl, gr_trans hB5 hC, ⟨(fun _ => HUP.out), (fun h => absurd h (by decide))⟩⟩
        case measure => simp [intOf]; omega
    · have HBAD := Lib.hid (HNO.out (by rw [HCX.out, t1, t2]; simp; omega))
      go_wp2_with (first | (go_at_call 37; refine (proper_is t1 _).mono ?_; rintro e w5 ⟨rfl, hb5⟩; obtain ⟨⟨hc5, hf5, hs5⟩, hz5⟩ := after hb5; (try simp only [World.size_alloc] at hz5); have hq5 : wr.heap.size < w5.heap.size := (by omega)) | (go_at_call 36; refine (tween_is t2 _).mono ?_; rintro e w1 ⟨rfl, rfl⟩))
      go_rounds 2
      go_roundw
      case rel => exact ⟨k + 1, false, by omega, by go_num, rfl, by (repeat (first | exact Below.refl _ _ | refine Below.setCell ?_ (by first | omega | (simp; omega) | (simp; done)) _ | refine Below.alloc ?_ (by first | omega | (simp; omega) | (simp; done)) _ | refine Below.drew ?_ | refine below_drewN ?_ _ | refine Below.trans ?_ (Below.mono (by assumption) (by first | omega | (simp; omega) | (simp; done))))), ⟨(fun h => absurd h (by decide)), fun _ => HBAD.out⟩⟩
      case measure => simp [intOf]; omega
  · obtain rfl : k = ri.length := by omega
    have E : Hid (an = 0) := by
      have : V = true := by rw [HVT.out]; exact List.all_eq_true.2 fun j hj => HIT.out j (List.mem_range.1 hj)
      exact HA0.out this
    go_wp2_with fail
    go_ret
    exact ⟨retI E.out.symm, HB0.trans (hB.mono HB0.size)⟩
end Go.Proofs.YtpcajmkmmkmekaaGreatDoor

