/- twins. -/
import Derived.Test.YtpcajmkmmkmekaaGreatDoorGm
import Derived.Test.YtpcajmkmmkmekaaGreatDoorGh
import Derived.Test.YtpcajmkmmkmekaaGreatDoorGj
import Derived.Test.YtpcajmkmmkmekaaGreatDoorGf
set_option linter.unusedVariables false
set_option linter.unusedSimpArgs false
namespace Go.Proofs.YtpcajmkmmkmekaaGreatDoor
open Go Go.RowKit Go.Shelf
set_option maxHeartbeats 4000000
attribute [local go_sem] Oper.semAt_some
theorem eq_place (a b c d : Int) (w : World) : (binOp .eql 79 (placeV a b) (placeV c d)).run Tryz.prog w = .ok (.bool (a == c && b == d)) w := by
  have := equal_place w a b c d
  simp only [binOp]
  simp [Sem.run_bind, this, Result.andThen]
theorem head24 {r : Rack} (hv : validB r = true) : ∀ x ∈ r.issues, x.entries.length ≤ 24 := by
  intro x hx
  obtain ⟨k, hk⟩ := List.getElem?_of_mem hx
  have h1 := List.all_eq_true.1 (Bool.and_eq_true .. ▸ hv : _ ∧ _).2 k (List.mem_range.2 (List.getElem?_eq_some_iff.1 hk).1)
  rw [goodIssue_of hk, catB, Bool.and_eq_true, headB] at h1
  have h2 := h1.1
  simp only [Bool.and_eq_true, limB, decide_eq_true_eq] at h2
  have h3 := h2.2.2.2
  simp [limHi] at h3
  omega
set_option maxRecDepth 100000 in
theorem twins_any (r : Rack) (d : Int) (w : World) (hv : validB r = true) (h : RackAt w w.heap.size r) :
    Calls Tryz.prog 44 #[r.val, vi d] w fun e w' => ∃ v, e = .returned v ∧ IntsOut (twinsOn r d) w v w' := by
  obtain ⟨i0, hi, hy0, hy1, hy2⟩ := info_parts info_int
  have h24 := head24 hv
  have hn4 := valid_four hv
  refine (callsIn_wide (n := 12)).1 ?_
  refine callsIn_of_wp_marks Tryz.func44 rfl trivial ?_ rfl
  simp only [Tryz.ntmps44, List.size_toArray, List.length_cons, List.length_nil, Nat.reduceAdd, Nat.reduceSub, Array.replicate_succ, Array.replicate_zero, List.push_toArray, List.append_toArray, List.nil_append, List.cons_append]
  gi_wp2_with fail
  refine ⟨trivial, ?_⟩
  refine (callsIn_wide.2 (goods_any r _ hv (RackAt.to h (by (repeat (first | exact Below.refl _ _ | refine Below.setCell ?_ (by first | omega | (simp; omega) | (simp; done)) _ | refine Below.alloc ?_ (by first | omega | (simp; omega) | (simp; done)) _ | refine Below.drew ?_ | refine below_drewN ?_ _ | refine Below.trans ?_ (Below.mono (by assumption) (by first | omega | (simp; omega) | (simp; done))))))))).mono ?_
  rintro e wg ⟨bm, rfl, hbm, hP, hbg⟩
  have hzg := hbg.size
  simp only [World.size_alloc] at hzg hbm
  have hBg : Below w.heap.size w wg := by (repeat (first | exact Below.refl _ _ | refine Below.setCell ?_ (by first | omega | (simp; omega) | (simp; done)) _ | refine Below.alloc ?_ (by first | omega | (simp; omega) | (simp; done)) _ | refine Below.drew ?_ | refine below_drewN ?_ _ | refine Below.trans ?_ (Below.mono (by assumption) (by first | omega | (simp; omega) | (simp; done)))))
  have hq1 : w.heap.size < wg.heap.size := by omega
  have hq2 : w.heap.size + 1 < wg.heap.size := by omega
  have r0 : wg.cell? ⟨w.heap.size, 0, none⟩ = some (vi r.goods) := (hbg.cell (p := ⟨w.heap.size, 0, none⟩) (by simp; omega)).trans (by simp [go_sem])
  have r1 : wg.cell? ⟨w.heap.size, 1, none⟩ = some r.slice := (hbg.cell (p := ⟨w.heap.size, 1, none⟩) (by simp; omega)).trans (by simp [go_sem])
  have rd : wg.cell? ⟨w.heap.size + 1, 0, none⟩ = some (vi d) := (hbg.cell (p := ⟨w.heap.size + 1, 0, none⟩) (by simp)).trans (by simp [go_sem])
  gi_wp2_with fail
  refine ⟨trivial, ?_⟩
  refine (callsIn_wide.2 (placesInUse_any r d _)).mono ?_
  rintro e w2 ⟨bR, bD, rfl, ⟨y1, y2⟩, hPl, hb2⟩
  have hz2 := hb2.size
  simp only [World.size_alloc] at hz2 y1 y2
  have bL : Boxed w2 (wg.heap.size + 1) 36 (.slice none 0 0) := by
    refine (hb2.block (wg.heap.size + 1) (by simp)).trans ?_
    have := Boxed.new (wg.alloc (.cells #[.map (some bm)] 76)) 36 (.slice none 0 0)
    rwa [World.size_alloc] at this
  have HBx : Below wg.heap.size wg w2 := by (repeat (first | exact Below.refl _ _ | refine Below.setCell ?_ (by first | omega | (simp; omega) | (simp; done)) _ | refine Below.alloc ?_ (by first | omega | (simp; omega) | (simp; done)) _ | refine Below.drew ?_ | refine below_drewN ?_ _ | refine Below.trans ?_ (Below.mono (by assumption) (by first | omega | (simp; omega) | (simp; done)))))
  have hB2 : Below w.heap.size w w2 := hBg.trans (HBx.mono (by omega))
  have cG : w2.cell? ⟨wg.heap.size, 0, none⟩ = some (.map (some bm)) := by
    rw [hb2.cell (p := ⟨wg.heap.size, 0, none⟩) (by simp; omega)]
    simp [go_sem]
  have R0 := (HBx.cell (p := ⟨w.heap.size, 0, none⟩) hq1).trans r0
  have R1 := (HBx.cell (p := ⟨w.heap.size, 1, none⟩) hq1).trans r1
  have RD := (HBx.cell (p := ⟨w.heap.size + 1, 0, none⟩) hq2).trans rd
  have hbm1 : bm < wg.heap.size := hP.lt
  have hP2 : PlaceMap w2 bm (goodsF r.issues) := hP.below HBx hbm1
  have hI2 : IssuesAt w2 w.heap.size r.ad r.cap r.issues := IssuesAt.below h hB2
  obtain ⟨P, hPP⟩ : ∃ P, P = placesOn r d := ⟨_, rfl⟩
  have hPlen : P.length ≤ 96 := by
    subst hPP
    have h5 := placesL_len (bs := bk r.issues (inUseQ d d) r.issues.length) (m := 24) (fun p hp => by
      obtain ⟨i, _, hi⟩ := List.mem_filterMap.1 hp
      split at hi
      · rename_i x hx
        split at hi
        · cases hi; exact h24 _ (List.mem_of_getElem? hx)
        · cases hi
      · cases hi)
    have h6 := bk_len r.issues (inUseQ d d) r.issues.length
    unfold placesOn
    omega
  have HPP := Lib.hid hPP
  clear hbg hb2 hP r0 r1 rd hPP
  gi_wp2_with fail
  refine range_outer rfl (by omega) (gf := 93) (lb := #[.pointer (some ⟨bR, 0, none⟩), .pointer (some ⟨bD, 0, none⟩)]) rfl trivial (enters_of Tryz.func93 (by kernel_rfl) rfl)
    (places_stops _ (by omega) r d bR bD w2.heap.size w.heap.size (wg.heap.size + 1) w2 hPl (Nat.le_refl _) hB2.size (by omega) (by omega) hI2 h24) (fun h k => KC.trans h k) (fun X k o o' hl hk hc _ => KC.turn _ X k o o' hl hk hc) (Below.refl _ _) (fun _ => rfl)
    (fun hs X => (∃ v, Boxed X (wg.heap.size + 1) 36 v ∧ X.ownsRow w2.heap.size 3 1 v (twinsN r.issues hs P).length ((twinsN r.issues hs P).map vi) ∧ True) ∧ KC w2.heap.size (wg.heap.size + 1) w2 X)
    (OwnFrom.and (Own.from (holdsRow_own w2.heap.size (wg.heap.size + 1) 36 3 1 (fun hs => (twinsN r.issues hs P).length) (fun hs => (twinsN r.issues hs P).map vi) (fun _ _ => True)) _) (ownFrom_kc (Nat.le_refl _) (Nat.le_refl _)))
    ⟨⟨_, bL, World.ownsRow_nil _ _ _ _, trivial⟩, KC.refl _ _ _⟩
    (fun x a' X => ∃ Bx, w2.heap.size ≤ Bx ∧ CellsBox X Bx 79 [vi x.1, vi x.2] ∧ a' = { tmps := #[r.val, vi d, .pointer (some ⟨w.heap.size, 0, none⟩), .pointer (some ⟨w.heap.size + 1, 0, none⟩), .slice none 0 0, .pointer (some ⟨wg.heap.size, 0, none⟩), .pointer (some ⟨wg.heap.size + 1, 0, none⟩), .pointer (some ⟨Bx, 0, none⟩), undef, .agg #[vi r.goods, r.slice], .map (some bm), .agg #[vi r.goods, r.slice], vi d, placesV bR bD, placeV x.1 x.2, undef, undef, undef, undef, undef, undef, undef, undef, undef, undef, undef, undef, undef, undef, undef, undef, undef, undef, undef, undef, undef, undef, undef, undef, undef, undef, undef, undef, undef, undef, undef, undef, undef, undef, undef, undef], defers := [] })
    (fun x a' _ X Y row hs hg hr => by obtain ⟨Bx, h1, h2, h3⟩ := hs; exact ⟨Bx, h1, cellsBox_own Bx 79 (fun (_ : Unit) => [vi x.1, vi x.2]) () X Y row h2 hg (fun r e => (hr r e).2), h3⟩)
    ?assign ?body ?done
  case assign =>
    rintro l pre x X K ⟨⟨v, hv, hrow, _⟩, hS⟩ hK
    have hs9 := hS.size
    gi_wp2
    exact hK _ _ ((KeepsOthers.alloc _ _).from _) (kc_of_below ((Below.refl _ X).alloc (Nat.le_refl _) _) (by omega)) ⟨⟨v, hv.alloc _, hrow.alloc _, trivial⟩, hS.trans (kc_of_below ((Below.refl _ X).alloc (Nat.le_refl _) _) (by omega))⟩ ⟨X.heap.size, by omega, CellsBox.new X 79 [vi x.1, vi x.2], rfl⟩
  case body =>
    rintro l pre ⟨x1, x2⟩ a' X hl ⟨rr, hrr⟩ ⟨⟨v, hv, hrow, _⟩, hS⟩ ⟨Bx, hBx, hbx, rfl⟩ hlt
    have hs9 := hS.size
    have A0 := (hS.spare.cell (p := ⟨w.heap.size, 0, none⟩) (by simp; omega) (by simp; omega)).trans R0
    have A1 := (hS.spare.cell (p := ⟨w.heap.size, 1, none⟩) (by simp; omega) (by simp; omega)).trans R1
    have AD := (hS.spare.cell (p := ⟨w.heap.size + 1, 0, none⟩) (by simp; omega) (by simp; omega)).trans RD
    have zr : w.heap.size < X.heap.size := by omega
    have zr2 : w.heap.size + 1 < X.heap.size := by omega
    gi_wp2_with fail
    refine ⟨trivial, ?_⟩
    refine (CallsIn.inRound l (callsIn_wide.2 (placesInUse_any r d X))).mono ?_
    rintro e X2 ⟨cR, cD, rfl, ⟨u1, u2⟩, hPl2, hbX⟩
    have zX2 := hbX.size
    have hlX : l < X.heap.size := (Array.getElem?_eq_some_iff.1 hrr).1
    have hrr2 : X2.heap[l]? = some (.loop rr) := (hbX.block l hlX).trans hrr
    have hI3 : IssuesAt X2 w.heap.size r.ad r.cap r.issues := (hI2.below (hS.spare.below hB2.size (by omega))).below (hbX.mono (by omega))
    have hLX : wg.heap.size + 1 < X.heap.size := hv.lt
    have hKX : KC w2.heap.size (wg.heap.size + 1) X X2 := kc_of_below hbX (by omega)
    clear A0 A1 AD
    gi_wp2_with fail
    refine range_inner (l₀ := l) (r₀ := rr) rfl hrr2 (by omega) (gf := 93) (lb := #[.pointer (some ⟨cR, 0, none⟩), .pointer (some ⟨cD, 0, none⟩)]) rfl trivial (enters_of Tryz.func93 (by kernel_rfl) rfl)
      (places_stops _ (by omega) r d cR cD w2.heap.size w.heap.size (wg.heap.size + 1) X2 hPl2 (by omega) hB2.size (by omega) (by omega) hI3 h24) (fun h k => KC.trans h k) (fun Y k o o' hl hk hc _ => KC.turn _ Y k o o' (by omega) hk hc) (Below.refl _ _) (fun _ => rfl)
      (fun ts Y => (∃ v, Boxed Y (wg.heap.size + 1) 36 v ∧ Y.ownsRow w2.heap.size 3 1 v (twinsN r.issues pre P ++ clashN r.issues (x1, x2) ts).length ((twinsN r.issues pre P ++ clashN r.issues (x1, x2) ts).map vi) ∧ True) ∧ (KC w2.heap.size (wg.heap.size + 1) X2 Y ∧ KeepsFrom w2.heap.size X2 Y))
      (OwnFrom.and (Own.from (holdsRow_own w2.heap.size (wg.heap.size + 1) 36 3 1 (fun ts => (twinsN r.issues pre P ++ clashN r.issues (x1, x2) ts).length) (fun ts => (twinsN r.issues pre P ++ clashN r.issues (x1, x2) ts).map vi) (fun _ _ => True)) _) (OwnFrom.and (ownFrom_kc (by omega) (by omega)) (ownFrom_keepsFrom (Nat.le_refl _))))
      ⟨⟨v, boxed_below hv hbX, by simpa [clashN] using own_keep hrow hbX, trivial⟩, KC.refl _ _ _, KeepsFrom.refl _ _⟩
      (fun y b Y => ∃ By, X2.heap.size ≤ By ∧ CellsBox Y By 79 [vi y.1, vi y.2] ∧ b = { tmps := #[r.val, vi d, .pointer (some ⟨w.heap.size, 0, none⟩), .pointer (some ⟨w.heap.size + 1, 0, none⟩), .slice none 0 0, .pointer (some ⟨wg.heap.size, 0, none⟩), .pointer (some ⟨wg.heap.size + 1, 0, none⟩), .pointer (some ⟨Bx, 0, none⟩), .pointer (some ⟨By, 0, none⟩), .agg #[vi r.goods, r.slice], .map (some bm), .agg #[vi r.goods, r.slice], vi d, placesV bR bD, placeV x1 x2, .agg #[vi r.goods, r.slice], vi d, placesV cR cD, placeV y.1 y.2, undef, undef, undef, undef, undef, undef, undef, undef, undef, undef, undef, undef, undef, undef, undef, undef, undef, undef, undef, undef, undef, undef, undef, undef, undef, undef, undef, undef, undef, undef, undef, undef], defers := [] })
      (fun y b _ X Y row hs hg hr => by obtain ⟨By, h1, h2, h3⟩ := hs; exact ⟨By, h1, cellsBox_own By 79 (fun (_ : Unit) => [vi y.1, vi y.2]) () X Y row h2 hg (fun r e => (hr r e).2), h3⟩)
      ?assign2 ?body2 ?done2
    case assign2 =>
      rintro l2 ts y Y K ⟨⟨v2, hv2, hrow2, _⟩, hK2, hF2⟩ hK
      have hs2 := hK2.size
      gi_wp2
      exact hK _ _ ((KeepsOthers.alloc _ _).from _) (kc_of_below ((Below.refl _ Y).alloc (Nat.le_refl _) _) (by omega)) ⟨⟨v2, hv2.alloc _, hrow2.alloc _, trivial⟩, hK2.trans (kc_of_below ((Below.refl _ Y).alloc (Nat.le_refl _) _) (by omega)), hF2.trans ((KeepsOthers.alloc _ _).from _)⟩ ⟨Y.heap.size, by omega, CellsBox.new Y 79 [vi y.1, vi y.2], rfl⟩
    case body2 =>
      rintro l2 ts ⟨y1, y2⟩ b Y hl2 ⟨rr2, hrr3⟩ ⟨⟨v2, hv2, hrow2, _⟩, hK2, hF2⟩ ⟨By, hBy, hby, rfl⟩ hlt2
      have hs2 := hK2.size
      replace hby : CellsBox Y By 79 [vi y1, vi y2] := hby
      have hbxY : CellsBox Y Bx 79 [vi x1, vi x2] := (hKX.trans hK2).box (by omega) (by decide) hbx
      have hKY := hS.trans (hKX.trans hK2)
      have dG := (hKY.spare.cell (p := ⟨wg.heap.size, 0, none⟩) (by simp; omega) (by simp)).trans cG
      have hP3 : PlaceMap Y bm (goodsF r.issues) := hP2.keep (hKY.spare.block bm (by omega) (by omega))
      have bx0 := hbxY.cell (j := 0) rfl
      have bx1 := hbxY.cell (j := 1) rfl
      have by0 := hby.cell (j := 0) rfl
      have by1 := hby.cell (j := 1) rfl
      have zBx := hbxY.lt
      have zBy := hby.lt
      have zG : wg.heap.size < Y.heap.size := by omega
      have dL := hv2.cell
      have hlen : (twinsN r.issues pre P ++ clashN r.issues (x1, x2) ts).length ≤ 9312 := by
        have h1 := twinsN_len r.issues pre P
        have h2 := clashN_len r.issues (x1, x2) ts
        have h3 : pre.length * P.length ≤ 96 * 96 := Nat.mul_le_mul (by omega) hPlen
        rw [List.length_append]
        omega
      clear hP2 hI2 hI3 hPl hPl2 R0 R1 RD cG bL
      obtain ⟨T, hT⟩ : ∃ T, T = twinsN r.issues pre P ++ clashN r.issues (x1, x2) ts := ⟨_, rfl⟩
      rw [← hT] at hrow2 hlen
      have HT := Lib.hid hT
      clear hT
      by_cases e2 : y2 = x2
      · by_cases e1 : y1 = x1
        · obtain rfl := e1
          obtain rfl := e2
          have hno : Hid (clashN r.issues (y1, y2) (ts ++ [(y1, y2)]) = clashN r.issues (y1, y2) ts) := clashN_no (by simp [clashB])
          gi_wp2
          refine ⟨KeepsFrom.refl _ _, KC.refl _ _ _, ⟨v2, hv2, ?_, trivial⟩, hK2, hF2⟩
          rw [hno.out, ← HT.out]
          exact hrow2
        · obtain rfl := e2
          have hlk : ∀ g, (Instr.lookup 76 (.map (some bm)) (placeV y1 y2) false).run Tryz.prog (plus Y g) = .ok (vi (goodOf r.issues (y1, y2))) (plus Y g) := fun g => look_place (hP3.below (plus_below Y g) (by omega)) y1 y2 false
          have hlk2 : ∀ g, (Instr.lookup 76 (.map (some bm)) (placeV x1 y2) false).run Tryz.prog (plus Y g) = .ok (vi (goodOf r.issues (x1, y2))) (plus Y g) := fun g => look_place (hP3.below (plus_below Y g) (by omega)) x1 y2 false
          rcases c4 : (goodOf r.issues (y1, y2) != goodOf r.issues (x1, y2)) with _ | _
          · have hno : Hid (clashN r.issues (x1, y2) (ts ++ [(y1, y2)]) = clashN r.issues (x1, y2) ts) := clashN_no (by
              have : (goodOf r.issues (y1, y2) == goodOf r.issues (x1, y2)) = true := by simpa [bne] using c4
              simp [clashB, this])
            have hfe : (Fence.wide.inRound l).inRound l2 = Fence.wide.inRound l2 := rfl
            gi_wp2_with fail
            rw [hfe]
            (refine wpIn_region_grow_round (by kernel_rfl) (by kernel_rfl) (by kernel_rfl) ?_; (repeat (go_big_quiet_step (fail))); refine wpQuiet_nil ?_; intro w1 hw1; have hb1 := below_of_plus hw1; clear hw1; obtain ⟨⟨hc1, hf1, hs1⟩, hz1⟩ := after hb1; (try simp only [World.size_alloc, World.size_setCell, World.size_drew] at hz1))
            gi_wp2
            refine ⟨keeps_of_below hb1 _, kc_of_below hb1 (by omega), ⟨v2, boxed_below hv2 hb1, ?_, trivial⟩, hK2.trans (kc_of_below hb1 (by omega)), hF2.trans (keeps_of_below hb1 _)⟩
            rw [hno.out, ← HT.out]
            exact own_keep hrow2 hb1
          · have hyes : Hid (twinsN r.issues pre P ++ clashN r.issues (x1, y2) (ts ++ [(y1, y2)]) = T ++ [y2]) := by
              have h1 : clashB r.issues (x1, y2) (y1, y2) = true := by
                have : (goodOf r.issues (y1, y2) == goodOf r.issues (x1, y2)) = false := by simpa [bne] using c4
                simp [clashB, this, e1]
              unfold Hid
              rw [clashN_yes h1, HT.out, List.append_assoc]
            have hfe : (Fence.wide.inRound l).inRound l2 = Fence.wide.inRound l2 := rfl
            gi_wp2_with fail
            rw [hfe]
            (refine wpIn_region_grow_round (by kernel_rfl) (by kernel_rfl) (by kernel_rfl) ?_; (repeat (go_big_quiet_step (fail))); refine wpQuiet_nil ?_; intro w1 hw1; have hb1 := below_of_plus hw1; clear hw1; obtain ⟨⟨hc1, hf1, hs1⟩, hz1⟩ := after hb1; (try simp only [World.size_alloc, World.size_setCell, World.size_drew] at hz1))
            have hv3 := boxed_below hv2 hb1
            have hrow3 := own_keep hrow2 hb1
            have DL := hv3.cell
            have BX1 := (hb1.cell (p := ⟨Bx, 1, none⟩) zBx).trans bx1
            have zBx1 : Bx < w1.heap.size := by omega
            gi_wp2_with (gi_at_builtin; go_loud (refine wpListIn_append_own _ rfl _ _ 36 rfl w2.heap.size 3 i0 (vi 0) 1 8 Tryz.underlying36 hi hy0 hy1 hy2 rfl (by decide) _ _ _ rfl (hrow3.alloc _) ⟨w1.heap.size, 0, none⟩ 1 1 [vi y2] rfl rfl (cells_new w1 [vi y2] _) (by simp [Value.oneCell']) (by unfold maxLen; omega) (by first | omega | (simp; omega) | (simp; done)) (by first | omega | (simp; omega) | (simp; done)) ?_; intro v' w3 hown' hgrow _; obtain ⟨g', cap', rfl⟩ := ownsRow_succ hown'; obtain ⟨hv4, hv5, hr5, hk5, hb5⟩ := appended_kc (n₀ := w2.heap.size) hv3 hrow3 (Nat.le_refl _) (by omega) hown' hgrow; have hc3 := hv4.cell; have hf3 := hv4.frozen))
            refine ⟨(keeps_of_below hb1 _).trans (hk5.from _), (kc_of_below hb1 (by omega)).trans hb5, ⟨_, hv5, ?_, trivial⟩, hK2.trans ((kc_of_below hb1 (by omega)).trans hb5), hF2.trans ((keeps_of_below hb1 _).trans (hk5.from _))⟩
            rw [hyes.out]
            simpa using hr5
      · have hno : Hid (clashN r.issues (x1, x2) (ts ++ [(y1, y2)]) = clashN r.issues (x1, x2) ts) := clashN_no (by simp [clashB, e2])
        by_cases e1 : y1 = x1
        all_goals
          gi_wp2
          refine ⟨KeepsFrom.refl _ _, KC.refl _ _ _, ⟨v2, hv2, ?_, trivial⟩, hK2, hF2⟩
          rw [hno.out, ← HT.out]
          exact hrow2
    case done2 =>
      rintro ts Y hts ⟨⟨v3, hv3, hrow3, _⟩, hK3, hF3⟩
      have HTS : Hid (ts = P) := by rw [HPP.out]; exact hts
      clear hts
      gi_wp2
      refine ⟨(keeps_of_below hbX _).trans hF3, hKX.trans hK3, ⟨v3, hv3, ?_, trivial⟩, hS.trans (hKX.trans hK3)⟩
      rw [twinsN_snoc, ← HTS.out]
      rw [← HTS.out] at hrow3
      exact hrow3
  case done =>
    rintro D hs Z hD hhs ⟨⟨v, hv, hrow, _⟩, hS⟩ hK
    have hhs2 : Hid (twinsOn r d = Lib.compact (sorted (twinsN r.issues hs P))) := by unfold Hid; rw [twinsOn, hhs, ← HPP.out]
    have hlen : (twinsN r.issues hs P).length ≤ 9312 := by
      have h1 := twinsN_len r.issues hs P
      have h2 : hs.length * P.length ≤ 96 * 96 := Nat.mul_le_mul (by rw [hhs, ← HPP.out]; exact hPlen) hPlen
      omega
    clear hhs
    have hc := hv.cell
    have hs9 := hS.size
    have hLZ := hv.lt
    gi_wp2_with fail
    refine ⟨trivial, ?_⟩
    refine (callsIn_wide.2 (sort_turn hrow hs9 (by omega))).mono ?_
    rintro e Z1 ⟨rfl, hrow1, hbZ, hgZ⟩
    have hv1 : Boxed Z1 (wg.heap.size + 1) 36 v := (hbZ.block _ (by omega)).trans hv
    have hK1 := turn_other hrow hgZ hK rfl
    have hc1 := hv1.cell
    have hs1 := hgZ.size
    gi_wp2_with fail
    refine ⟨trivial, ?_⟩
    refine (callsIn_wide.2 (compact_turn (zs := sorted (twinsN r.issues hs P)) (by simpa [sorted] using hrow1) (by omega))).mono ?_
    rintro e Z2 ⟨v2, rfl, hrow2, hbZ2, hgZ2⟩
    have hclen : (Lib.compact (sorted (twinsN r.issues hs P))).length ≤ 9312 := Nat.le_trans (Lib.compact_length_le _) (by simpa [sorted] using hlen)
    generalize Lib.compact (sorted (twinsN r.issues hs P)) = R at *
    have hv2 : Boxed Z2 (wg.heap.size + 1) 36 v := (hbZ2.block _ (by omega)).trans hv1
    have hK2 := turn_other hrow1 hgZ2 hK1 rfl
    have hc2 := hv2.cell
    have hf2 := hv2.frozen
    have hLZ2 := hv2.lt
    have hs2 := hgZ2.size
    have hv3 := hv2.set v2
    have hrow3 : (Z2.setCell ⟨wg.heap.size + 1, 0, none⟩ v2).ownsRow w2.heap.size 3 1 v2 R.length (R.map vi) := hrow2.kept (grownBy_setCell' Z2 _ v2) (.inr (hv2.not_row (by decide) hrow2).symm)
    have hK3 : (Z2.setCell ⟨wg.heap.size + 1, 0, none⟩ v2).heap[D]? = some (.deferred (some [])) := (KeepsOthers.setCell Z2 ⟨wg.heap.size + 1, 0, none⟩ v2).same D _ hK2 rfl
    have hbF : Below w.heap.size w (Z2.setCell ⟨wg.heap.size + 1, 0, none⟩ v2) := ((hB2.trans (hS.spare.below (B := w.heap.size) hB2.size (by omega))).trans ((hbZ.trans hbZ2).mono hB2.size)).setCell (p := ⟨wg.heap.size + 1, 0, none⟩) (by simp; omega) _
    have hfin : Below w.heap.size w ((Z2.setCell ⟨wg.heap.size + 1, 0, none⟩ v2).putObj D (.deferred none)) := hbF.trans (belowK_b (w := w) (Nat.le_refl _) _ D _ _ (by have := hB2.size; omega) hK3 rfl rfl)
    have hrow' := ownsRow_putObj hrow3 (.deferred none) hK3 rfl
    have hc3 := hv3.cell
    clear hc hc1
    rcases hrow3.2 with ⟨rfl, h0⟩ | ⟨g, c, cur, rfl, hg, hh, hnc, hcm, _⟩
    · have h00 : R = [] := List.eq_nil_of_length_eq_zero h0
      gi_wp2
      refine ⟨by simp, .inl ⟨_, _, rfl, run_takeDeferred hK3, ?_⟩⟩
      refine ⟨_, results_tmp rfl _ _ _, _, rfl, ?_⟩
      rw [hhs2.out, h00]
      exact IntsOut.nil hfin
    · have hcm' : (R.length : Int) ≤ c := by omega
      gi_wp2
      refine ⟨by simp, .inl ⟨_, _, rfl, run_takeDeferred hK3, ?_⟩⟩
      refine ⟨_, results_tmp rfl _ _ _, _, rfl, ?_⟩
      rw [hhs2.out]
      exact ⟨⟨some ⟨g, 0, none⟩, R.length, by simp, ints_of_own hrow' _ (Nat.le_refl _) (by omega)⟩, hfin⟩
end Go.Proofs.YtpcajmkmmkmekaaGreatDoor

/- Contract of Twins. -/
namespace Go.Proofs.YtpcajmkmmkmekaaGreatDoor
open Go Go.RowKit
set_option maxHeartbeats 1000000
def twinsErr (r : Rack) (d : Int) : Int := if validB r then if limB 3 d then 0 else 11 else 10
def twinsL (r : Rack) (d : Int) : List Int := if validB r && limB 3 d then twinsOn r d else []
theorem Twins_any (r : Rack) (d : Int) (w : World) (hl : Lim w) (hr : RackAt w w.heap.size r) :
    Calls Tryz.prog 13 #[r.val, vi d] w fun e w' => ∃ v, e = .returned (.tuple #[v, vi (twinsErr r d)]) ∧ IntsOut (twinsL r d) w v w' := by
  rcases hv : validB r with _ | _
  · have E : Hid (twinsErr r d = 10 ∧ twinsL r d = []) := by simp [twinsErr, twinsL, hv, Hid]
    go_enter Tryz.func13, Tryz.ntmps13
    go_wp2_with (go_at_call 9; refine (check_bad r _ (by repeat (first | assumption | refine Lim.alloc ?_ _ | refine Lim.setCell ?_ (by first | (simp; done) | (simp; omega) | omega) _ | refine Lim.drew ?_)) (hr.to (by (repeat (first | exact Below.refl _ _ | refine Below.setCell ?_ (by first | omega | (simp; omega) | (simp; done)) _ | refine Below.alloc ?_ (by first | omega | (simp; omega) | (simp; done)) _ | refine Below.drew ?_ | refine below_drewN ?_ _ | refine Below.trans ?_ (Below.mono (by assumption) (by first | omega | (simp; omega) | (simp; done))))))) hv).mono ?_; rintro e w1 ⟨rfl, hb1⟩; obtain ⟨⟨hc1, hf1, hs1⟩, hz1⟩ := after hb1; (try simp only [World.size_alloc, World.size_setCell, World.size_drew] at hz1))
    go_ret2
    refine ⟨_, by rw [E.out.1]; rfl, ?_⟩
    rw [E.out.2]
    refine IntsOut.nil ?_
    (repeat (first | exact Below.refl _ _ | refine Below.setCell ?_ (by first | omega | (simp; omega) | (simp; done)) _ | refine Below.alloc ?_ (by first | omega | (simp; omega) | (simp; done)) _ | refine Below.drew ?_ | refine below_drewN ?_ _ | refine Below.trans ?_ (Below.mono (by assumption) (by first | omega | (simp; omega) | (simp; done)))))
  rcases h1 : limB 3 d with _ | _
  · have E : Hid (twinsErr r d = 11 ∧ twinsL r d = []) := by simp [twinsErr, twinsL, hv, h1, Hid]
    go_enter Tryz.func13, Tryz.ntmps13
    go_wp2_with (first | (go_at_call 9; refine (check_ok r _ (by repeat (first | assumption | refine Lim.alloc ?_ _ | refine Lim.setCell ?_ (by first | (simp; done) | (simp; omega) | omega) _ | refine Lim.drew ?_)) (hr.to (by (repeat (first | exact Below.refl _ _ | refine Below.setCell ?_ (by first | omega | (simp; omega) | (simp; done)) _ | refine Below.alloc ?_ (by first | omega | (simp; omega) | (simp; done)) _ | refine Below.drew ?_ | refine below_drewN ?_ _ | refine Below.trans ?_ (Below.mono (by assumption) (by first | omega | (simp; omega) | (simp; done))))))) hv).mono ?_; rintro e w1 ⟨rfl, hb1⟩; obtain ⟨⟨hc1, hf1, hs1⟩, hz1⟩ := after hb1; (try simp only [World.size_alloc, World.size_setCell, World.size_drew] at hz1); have hl1 : Lim w1 := Lim.next (by repeat (first | assumption | refine Lim.alloc ?_ _ | refine Lim.setCell ?_ (by first | (simp; done) | (simp; omega) | omega) _ | refine Lim.drew ?_)) hb1; have hq1 : w.heap.size < w1.heap.size := (by omega)) | (go_at_call 28; refine (within_any _ _ _ (by omega) (by omega) (by repeat (first | assumption | refine Lim.alloc ?_ _ | refine Lim.setCell ?_ (by first | (simp; done) | (simp; omega) | omega) _ | refine Lim.drew ?_))).mono ?_; rintro e w1 ⟨rfl, hb1⟩; obtain ⟨⟨hc1, hf1, hs1⟩, hz1⟩ := after hb1; (try simp only [World.size_alloc, World.size_setCell, World.size_drew] at hz1); have hl1 : Lim w1 := Lim.next (by repeat (first | assumption | refine Lim.alloc ?_ _ | refine Lim.setCell ?_ (by first | (simp; done) | (simp; omega) | omega) _ | refine Lim.drew ?_)) hb1; have hq1 : w.heap.size < w1.heap.size := (by omega)))
    go_ret2
    refine ⟨_, by rw [E.out.1]; rfl, ?_⟩
    rw [E.out.2]
    refine IntsOut.nil ?_
    (repeat (first | exact Below.refl _ _ | refine Below.setCell ?_ (by first | omega | (simp; omega) | (simp; done)) _ | refine Below.alloc ?_ (by first | omega | (simp; omega) | (simp; done)) _ | refine Below.drew ?_ | refine below_drewN ?_ _ | refine Below.trans ?_ (Below.mono (by assumption) (by first | omega | (simp; omega) | (simp; done)))))
  have E : Hid (twinsErr r d = 0 ∧ twinsL r d = twinsOn r d) := by simp [twinsErr, twinsL, hv, h1, Hid]
  go_enter Tryz.func13, Tryz.ntmps13
  go_wp2_with (first | (go_at_call 9; refine (check_ok r _ (by repeat (first | assumption | refine Lim.alloc ?_ _ | refine Lim.setCell ?_ (by first | (simp; done) | (simp; omega) | omega) _ | refine Lim.drew ?_)) (hr.to (by (repeat (first | exact Below.refl _ _ | refine Below.setCell ?_ (by first | omega | (simp; omega) | (simp; done)) _ | refine Below.alloc ?_ (by first | omega | (simp; omega) | (simp; done)) _ | refine Below.drew ?_ | refine below_drewN ?_ _ | refine Below.trans ?_ (Below.mono (by assumption) (by first | omega | (simp; omega) | (simp; done))))))) hv).mono ?_; rintro e w1 ⟨rfl, hb1⟩; obtain ⟨⟨hc1, hf1, hs1⟩, hz1⟩ := after hb1; (try simp only [World.size_alloc, World.size_setCell, World.size_drew] at hz1); have hl1 : Lim w1 := Lim.next (by repeat (first | assumption | refine Lim.alloc ?_ _ | refine Lim.setCell ?_ (by first | (simp; done) | (simp; omega) | omega) _ | refine Lim.drew ?_)) hb1; have hq1 : w.heap.size < w1.heap.size := (by omega)) | (go_at_call 28; refine (within_any _ _ _ (by omega) (by omega) (by repeat (first | assumption | refine Lim.alloc ?_ _ | refine Lim.setCell ?_ (by first | (simp; done) | (simp; omega) | omega) _ | refine Lim.drew ?_))).mono ?_; rintro e w1 ⟨rfl, hb1⟩; obtain ⟨⟨hc1, hf1, hs1⟩, hz1⟩ := after hb1; (try simp only [World.size_alloc, World.size_setCell, World.size_drew] at hz1); have hl1 : Lim w1 := Lim.next (by repeat (first | assumption | refine Lim.alloc ?_ _ | refine Lim.setCell ?_ (by first | (simp; done) | (simp; omega) | omega) _ | refine Lim.drew ?_)) hb1; have hq1 : w.heap.size < w1.heap.size := (by omega); have HBw : Hid (Below w.heap.size w w1) := (by unfold Hid; (repeat (first | exact Below.refl _ _ | refine Below.setCell ?_ (by first | omega | (simp; omega) | (simp; done)) _ | refine Below.alloc ?_ (by first | omega | (simp; omega) | (simp; done)) _ | refine Below.drew ?_ | refine below_drewN ?_ _ | refine Below.trans ?_ (Below.mono (by assumption) (by first | omega | (simp; omega) | (simp; done))))))))
  refine (twins_any r d _ hv (hr.to HBw.out)).mono ?_
  rintro e w2 ⟨v, rfl, hv2⟩
  go_wp2
  go_ret2
  refine ⟨_, by rw [E.out.1]; rfl, ?_⟩
  rw [E.out.2]
  exact hv2.from HBw.out
end Go.Proofs.YtpcajmkmmkmekaaGreatDoor

