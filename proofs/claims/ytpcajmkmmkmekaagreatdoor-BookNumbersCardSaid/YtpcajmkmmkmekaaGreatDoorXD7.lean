/- Contract of the specification's clash. -/
import Derived.Test.YtpcajmkmmkmekaaGreatDoorXD4
import Derived.Deep.AppendLies
set_option linter.unusedVariables false
set_option linter.unusedSimpArgs false
namespace Go.Proofs.YtpcajmkmmkmekaaGreatDoor
open Go Go.RowKit
set_option maxHeartbeats 4000000
theorem at_cases (l : List Entry) (n : Int) : (atF l n = -1 ∧ (l.find? fun e => e.number == n) = none) ∨ ∃ (k : Nat) (e : Entry), atF l n = k ∧ l[k]? = some e ∧ (l.find? fun e => e.number == n) = some e := by
  cases h : l.find? fun e => e.number == n with
  | none => exact .inl ⟨at_none h, rfl⟩
  | some e =>
    obtain ⟨k, h1, h2⟩ := at_some h
    exact .inr ⟨k, e, h1, h2, rfl⟩
theorem clashF_succ {x y : Issue} {met : List Int} {k : Nat} {e : Entry} (h : x.entries[k]? = some e) : (x.entries.take (k + 1)).foldl (clashS y) met = clashS y ((x.entries.take k).foldl (clashS y) met) e := fold_succ h _ _
set_option maxRecDepth 100000 in
theorem clash_run (x y : Issue) (base : Nat) (v : Value) (n : Nat) (met : List Int) (w : World) (hbase : base ≤ w.heap.size) (hx : EntriesAt w base x.ad x.cap x.entries) (hy : EntriesAt w base y.ad y.cap y.entries)
    (hown : w.ownsRow base 3 1 v n (met.map vi)) (hn : met.length = n) (hlen : met.length + x.entries.length ≤ 1000000) :
    Calls Tryz.prog 47 #[x.val, y.val, v] w fun e w' => ∃ v', e = .returned v' ∧ w'.ownsRow base 3 1 v' (clashF x y met).length ((clashF x y met).map vi) ∧ Below base w w' := by
  subst hn
  obtain ⟨i0, hi, hy0, hy1, hy2⟩ := info_parts info_int
  have xc := hx.cap
  have xl2 := hx.len
  have yc := hy.cap
  have yl2 := hy.len
  obtain ⟨xlo, xhi, xhd, xA, xcap, xl⟩ := x
  obtain ⟨ylo, yhi, yhd, yA, ycap, yl⟩ := y
  simp only at xc xl2 yc yl2 hx hy hlen
  have HX := Lib.hid hx
  have HY := Lib.hid hy
  clear hx hy
  have hob := fun g (hg : v.ownBlock = some g) => own_block hown hg
  obtain ⟨Y, hY⟩ : ∃ Y : Issue, Y = ⟨ylo, yhi, yhd, yA, ycap, yl⟩ := ⟨_, rfl⟩
  have HYV := Lib.hid hY
  show Calls Tryz.prog 47 #[.agg #[vi xlo, vi xhi, vi xhd, .slice xA xl.length xcap], .agg #[vi ylo, vi yhi, vi yhd, .slice yA yl.length ycap], v] w _
  have hcf : ∀ k, k ≤ xl.length → ((xl.take k).foldl (clashS Y) met).length ≤ met.length + k := fun k hk => by
    have := (clashF_len Y (xl.take k) met).2
    rw [List.length_take] at this
    omega
  have HCF := Lib.hid hcf
  have hfin : clashF ⟨xlo, xhi, xhd, xA, xcap, xl⟩ ⟨ylo, yhi, yhd, yA, ycap, yl⟩ met = (xl.take xl.length).foldl (clashS Y) met := by rw [List.take_length, hY]; rfl
  rw [hfin]
  clear hfin hcf hY
  go_enter Tryz.func47, Tryz.ntmps47
  go_wp2_with fail
  obtain ⟨W, hW⟩ : ∃ W, W = (w.alloc (.cells #[vi xlo, vi xhi, vi xhd, .slice xA xl.length xcap] 63)).alloc (.cells #[vi ylo, vi yhi, vi yhd, .slice yA yl.length ycap] 63) := ⟨_, rfl⟩
  have HB0 : Below w.heap.size w W := by rw [hW]; (repeat (first | exact Below.refl _ _ | refine Below.setCell ?_ (by first | omega | (simp; omega) | (simp; done)) _ | refine Below.alloc ?_ (by first | omega | (simp; omega) | (simp; done)) _ | refine Below.drew ?_ | refine below_drewN ?_ _ | refine Below.trans ?_ (Below.mono (by assumption) (by first | omega | (simp; omega) | (simp; done)))))
  have a3 : W.cell? ⟨w.heap.size, 2 + 1, none⟩ = some (.slice xA xl.length xcap) := by rw [hW]; simp [go_sem]
  have b0 : W.cell? ⟨w.heap.size + 1, 0, none⟩ = some (vi ylo) := by rw [hW]; simp [go_sem]
  have b1 : W.cell? ⟨w.heap.size + 1, 1, none⟩ = some (vi yhi) := by rw [hW]; simp [go_sem]
  have b2 : W.cell? ⟨w.heap.size + 1, 2, none⟩ = some (vi yhd) := by rw [hW]; simp [go_sem]
  have b3 : W.cell? ⟨w.heap.size + 1, 3, none⟩ = some (.slice yA yl.length ycap) := by rw [hW]; simp [go_sem]
  have hownW : W.ownsRow base 3 1 v met.length (met.map vi) := by rw [hW]; exact (hown.alloc _).alloc _
  have hWb : Below base w W := HB0.mono hbase
  try rw [← hW]
  clear hW
  obtain ⟨bx, hbx⟩ : ∃ bx, bx = w.heap.size := ⟨_, rfl⟩
  obtain ⟨by_, hby⟩ : ∃ by_, by_ = w.heap.size + 1 := ⟨_, rfl⟩
  rw [← hby] at b0 b1 b2 b3
  rw [← hbx] at a3
  try rw [← hby]
  try rw [← hbx]
  have hbb1 : base ≤ bx := by omega
  have hbb2 : base ≤ by_ := by omega
  have hob2 : ∀ g, v.ownBlock = some g → g ≠ bx ∧ g ≠ by_ := fun g hg => by have := hob g hg; omega
  go_loopw [2, 7] (fun u i wr => ∃ k : Nat, k ≤ xl.length ∧ i = .int .i64 k ∧ Below base w wr ∧ wr.ownsRow base 3 1 u ((xl.take k).foldl (clashS Y) met).length (((xl.take k).foldl (clashS Y) met).map vi) ∧ (∀ g, u.ownBlock = some g → g ≠ bx ∧ g ≠ by_) ∧
      wr.cell? ⟨bx, 2 + 1, none⟩ = some (.slice xA xl.length xcap) ∧ wr.cell? ⟨by_, 0, none⟩ = some (vi ylo) ∧ wr.cell? ⟨by_, 1, none⟩ = some (vi yhi) ∧ wr.cell? ⟨by_, 2, none⟩ = some (vi yhd) ∧ wr.cell? ⟨by_, 3, none⟩ = some (.slice yA yl.length ycap)) (fun _ i _ => xl.length - (intOf i).toNat)
  case atStart => exact ⟨0, Nat.zero_le _, rfl, hWb, hownW, hob2, a3, b0, b1, b2, b3⟩
  clear a3 b0 b1 b2 b3 hownW hob2 hob hown hbx hby hWb HB0
  obtain ⟨k, hk, rfl, hB, hown, hob, a3, b0, b1, b2, b3⟩ := hrel
  have hsz := hB.size
  have za : bx < wr.heap.size := cell_lt a3
  have zb : by_ < wr.heap.size := cell_lt b0
  by_cases hlt : k < xl.length
  · obtain ⟨M, hM⟩ : ∃ M, M = (xl.take k).foldl (clashS Y) met := ⟨_, rfl⟩
    have hMl : M.length ≤ met.length + k := by rw [hM]; exact HCF.out k (by omega)
    rw [← hM] at hown
    obtain ⟨e, he⟩ : ∃ e, xl[k]? = some e := ⟨_, List.getElem?_eq_getElem hlt⟩
    have hSTEP : (xl.take (k + 1)).foldl (clashS Y) met = clashS Y M e := by rw [fold_succ he, hM]
    have STEP := Lib.hid hSTEP
    clear hSTEP hM
    have hxr := HX.out.below hB
    obtain ⟨xb, xo, rfl, hxb, x0, x1, x2, x3⟩ := row4 hxr.row he rfl
    clear hxr he
    have zxb : xb < wr.heap.size := cell_lt x0
    have hkI : (k : Int) < xl.length := by omega
    have h0k : (0 : Int) ≤ k := by omega
    obtain ⟨en, eg, ec, eA, ecap, el⟩ := e
    simp only at x0 x1 x2 x3
    have hYW : IssueAt wr wr.heap.size ⟨ylo, yhi, yhd, yA, ycap, yl⟩ := (HY.out.below hB).more (by omega)
    have YW := Lib.hid hYW
    have hyE : EntriesAt wr wr.heap.size yA ycap yl := hYW
    obtain ⟨A', c', rfl, hi'⟩ := own_ints hown rfl (by omega)
    have PL : Hid (∀ n v, placeF M n = v → ∀ W : World, Below wr.heap.size wr W → Calls Tryz.prog 39 #[.slice A' M.length c', vi n] W fun e w' => e = .returned (vi v) ∧ W = w') := fun n v hv W hW => place_at hv rfl A' c' W (hi'.to hW)
    clear hi' hYW
    have HSAME : Hid ((xl.take (k + 1)).foldl (clashS Y) met = M → ∀ w' : World, Below wr.heap.size wr w' → ∃ k2 : Nat, k2 ≤ xl.length ∧ ((k : Int) + 1) = (k2 : Int) ∧ Below base w w' ∧ w'.ownsRow base 3 1 (.slice A' M.length c') ((xl.take k2).foldl (clashS Y) met).length (((xl.take k2).foldl (clashS Y) met).map vi) ∧ (∀ g, (Value.slice A' M.length c').ownBlock = some g → g ≠ bx ∧ g ≠ by_) ∧
        w'.cell? ⟨bx, 2 + 1, none⟩ = some (.slice (some ⟨xb, xo, none⟩) xl.length xcap) ∧ w'.cell? ⟨by_, 0, none⟩ = some (vi ylo) ∧ w'.cell? ⟨by_, 1, none⟩ = some (vi yhi) ∧ w'.cell? ⟨by_, 2, none⟩ = some (vi yhd) ∧ w'.cell? ⟨by_, 3, none⟩ = some (.slice yA yl.length ycap)) :=
      fun hs w' hw' => ⟨k + 1, by omega, by omega, hB.trans (hw'.mono (by omega)), by rw [hs]; exact own_keep hown hw', hob, cell_keep hw' a3, cell_keep hw' b0, cell_keep hw' b1, cell_keep hw' b2, cell_keep hw' b3⟩
    rcases at_cases yl en with ⟨t1, t2⟩ | ⟨q, o, t1, t2, t3⟩
    · have HAT := Lib.hid t1
      have HS : Hid ((xl.take (k + 1)).foldl (clashS Y) met = M) := by
        unfold Hid
        rw [STEP.out]
        unfold clashS
        rw [if_neg]
        rintro ⟨⟨h1, _⟩, _⟩
        rw [HYV.out] at h1
        simp [numGood, t2] at h1
      clear t1 t2
      go_wp2_with fail
      refine (at_is (x := ⟨ylo, yhi, yhd, yA, ycap, yl⟩) HAT.out _ (YW.out.to (by (repeat (first | exact Below.refl _ _ | refine Below.setCell ?_ (by first | omega | (simp; omega) | (simp; done)) _ | refine Below.alloc ?_ (by first | omega | (simp; omega) | (simp; done)) _ | refine Below.drew ?_ | refine below_drewN ?_ _ | refine Below.trans ?_ (Below.mono (by assumption) (by first | omega | (simp; omega) | (simp; done)))))))).mono ?_
      rintro e w1 ⟨rfl, hb1⟩
      have HB1 : Below wr.heap.size wr w1 := by (repeat (first | exact Below.refl _ _ | refine Below.setCell ?_ (by first | omega | (simp; omega) | (simp; done)) _ | refine Below.alloc ?_ (by first | omega | (simp; omega) | (simp; done)) _ | refine Below.drew ?_ | refine below_drewN ?_ _ | refine Below.trans ?_ (Below.mono (by assumption) (by first | omega | (simp; omega) | (simp; done)))))
      have a3' := cell_keep HB1 a3
      have b3' := cell_keep HB1 b3
      have za1 := cell_lt a3'
      have zb1 := cell_lt b3'
      clear hb1
      go_wp2_with fail
      (refine wp_region_grow_lit (by kernel_rfl) (by kernel_rfl) ?_; (repeat (go_big_quiet_step (fail))); refine wpQuiet_nil ?_; intro w1 hw1; have hb1 := below_of_plus hw1; clear hw1; obtain ⟨⟨hc1, hf1, hs1⟩, hz1⟩ := after hb1; (try simp only [World.size_alloc, World.size_setCell, World.size_drew] at hz1))
      go_wp2_with fail
      go_roundw
      case rel =>
        obtain ⟨k2, g1, g2, g3, g4, g5, g6⟩ := HSAME.out HS.out w1 (gr_trans HB1 (by (repeat (first | exact Below.refl _ _ | refine Below.setCell ?_ (by first | omega | (simp; omega) | (simp; done)) _ | refine Below.alloc ?_ (by first | omega | (simp; omega) | (simp; done)) _ | refine Below.drew ?_ | refine below_drewN ?_ _ | refine Below.trans ?_ (Below.mono (by assumption) (by first | omega | (simp; omega) | (simp; done)))))))
        exact ⟨k2, g1, by rw [← g2], g3, g4, g5, g6⟩
      case measure => simp [intOf]; omega
    · have HAT := Lib.hid t1
      have hNG : numGood Y en = some o.good := by rw [HYV.out]; simp [numGood, t3]
      have NG := Lib.hid hNG
      obtain ⟨yb, yo, rfl, hyb, y0, y1, y2, y3⟩ := row4 hyE.row t2 rfl
      have hqI : (q : Int) < yl.length := by have := (List.getElem?_eq_some_iff.1 t2).1; omega
      have h0q : (0 : Int) ≤ q := by omega
      have hqd : decide (0 ≤ (q : Int)) = true := by simp
      clear t1 t2 t3 hNG hyE
      obtain ⟨on, og, oc, oA, ocap, ol⟩ := o
      simp only at y0 y1 y2 y3 NG
      by_cases hgg : og = eg
      · subst hgg
        have HS : Hid ((xl.take (k + 1)).foldl (clashS Y) met = M) := by
          unfold Hid
          rw [STEP.out]
          unfold clashS
          rw [if_neg]
          rintro ⟨⟨_, h1⟩, _⟩
          exact h1 NG.out
        have hge : (og == og) = true := by simp
        have hge2 : (og != og) = false := by simp
        go_wp2_with fail
        refine (at_is (x := ⟨ylo, yhi, yhd, some ⟨yb, yo, none⟩, ycap, yl⟩) HAT.out _ (YW.out.to (by (repeat (first | exact Below.refl _ _ | refine Below.setCell ?_ (by first | omega | (simp; omega) | (simp; done)) _ | refine Below.alloc ?_ (by first | omega | (simp; omega) | (simp; done)) _ | refine Below.drew ?_ | refine below_drewN ?_ _ | refine Below.trans ?_ (Below.mono (by assumption) (by first | omega | (simp; omega) | (simp; done)))))))).mono ?_
        rintro e w1 ⟨rfl, hb1⟩
        have HB1 : Below wr.heap.size wr w1 := by (repeat (first | exact Below.refl _ _ | refine Below.setCell ?_ (by first | omega | (simp; omega) | (simp; done)) _ | refine Below.alloc ?_ (by first | omega | (simp; omega) | (simp; done)) _ | refine Below.drew ?_ | refine below_drewN ?_ _ | refine Below.trans ?_ (Below.mono (by assumption) (by first | omega | (simp; omega) | (simp; done)))))
        have a3' := cell_keep HB1 a3
        have b3' := cell_keep HB1 b3
        have y1' := cell_keep HB1 y1
        have x1' := cell_keep HB1 x1
        have za1 := cell_lt a3'
        have zb1 := cell_lt b3'
        have zc1 := cell_lt y1'
        have zd1 := cell_lt x1'
        clear hb1
        go_wp2_with fail
        (refine wp_region_grow_lit (by kernel_rfl) (by kernel_rfl) ?_; (repeat (go_big_quiet_step (fail))); refine wpQuiet_nil ?_; intro w1 hw1; have hb1 := below_of_plus hw1; clear hw1; obtain ⟨⟨hc1, hf1, hs1⟩, hz1⟩ := after hb1; (try simp only [World.size_alloc, World.size_setCell, World.size_drew] at hz1))
        go_wp2_with fail
        go_roundw
        case rel =>
          obtain ⟨k2, g1, g2, g3, g4, g5, g6⟩ := HSAME.out HS.out w1 (gr_trans HB1 (by (repeat (first | exact Below.refl _ _ | refine Below.setCell ?_ (by first | omega | (simp; omega) | (simp; done)) _ | refine Below.alloc ?_ (by first | omega | (simp; omega) | (simp; done)) _ | refine Below.drew ?_ | refine below_drewN ?_ _ | refine Below.trans ?_ (Below.mono (by assumption) (by first | omega | (simp; omega) | (simp; done)))))))
          exact ⟨k2, g1, by rw [← g2], g3, g4, g5, g6⟩
        case measure => simp [intOf]; omega
      · have hge : (og == eg) = false := by simpa using hgg
        have hge2 : (og != eg) = true := by simpa using hgg
        by_cases hin : en ∈ M
        · obtain ⟨p, hp⟩ : ∃ p, placeF M en = p := ⟨_, rfl⟩
          have hp0 := (place_in M en).1 hin
          rw [hp] at hp0
          have HP := Lib.hid hp
          have hpd : decide (p < 0) = false := by simp; omega
          have HS : Hid ((xl.take (k + 1)).foldl (clashS Y) met = M) := by
            unfold Hid
            rw [STEP.out]
            unfold clashS
            rw [if_neg]
            rintro ⟨_, h1⟩
            exact h1 hin
          clear hin hp hgg
          go_wp2_with fail
          refine (at_is (x := ⟨ylo, yhi, yhd, some ⟨yb, yo, none⟩, ycap, yl⟩) HAT.out _ (YW.out.to (by (repeat (first | exact Below.refl _ _ | refine Below.setCell ?_ (by first | omega | (simp; omega) | (simp; done)) _ | refine Below.alloc ?_ (by first | omega | (simp; omega) | (simp; done)) _ | refine Below.drew ?_ | refine below_drewN ?_ _ | refine Below.trans ?_ (Below.mono (by assumption) (by first | omega | (simp; omega) | (simp; done)))))))).mono ?_
          rintro e w1 ⟨rfl, hb1⟩
          have HB1 : Below wr.heap.size wr w1 := by (repeat (first | exact Below.refl _ _ | refine Below.setCell ?_ (by first | omega | (simp; omega) | (simp; done)) _ | refine Below.alloc ?_ (by first | omega | (simp; omega) | (simp; done)) _ | refine Below.drew ?_ | refine below_drewN ?_ _ | refine Below.trans ?_ (Below.mono (by assumption) (by first | omega | (simp; omega) | (simp; done)))))
          have a3' := cell_keep HB1 a3
          have b3' := cell_keep HB1 b3
          have y1' := cell_keep HB1 y1
          have x1' := cell_keep HB1 x1
          have za1 := cell_lt a3'
          have zb1 := cell_lt b3'
          have zc1 := cell_lt y1'
          have zd1 := cell_lt x1'
          clear hb1
          go_wp2_with fail
          (refine wp_region_grow_lit (by kernel_rfl) (by kernel_rfl) ?_; (repeat (go_big_quiet_step ((go_at_call 39; refine Calls.grow_same (PL.out _ _ HP.out _ (gr_trans HB1 (by (repeat (first | exact Below.refl _ _ | refine Below.setCell ?_ (by first | omega | (simp; omega) | (simp; done)) _ | refine Below.alloc ?_ (by first | omega | (simp; omega) | (simp; done)) _ | refine Below.drew ?_ | refine below_drewN ?_ _ | refine Below.trans ?_ (Below.mono (plus_below _ _) (by first | omega | (simp; omega) | (simp; done))) | refine Below.trans ?_ (Below.mono (by assumption) (by first | omega | (simp; omega) | (simp; done)))))))))))); refine wpQuiet_nil ?_; intro w1 hw1; have hb1 := below_of_plus hw1; clear hw1; obtain ⟨⟨hc1, hf1, hs1⟩, hz1⟩ := after hb1; (try simp only [World.size_alloc, World.size_setCell, World.size_drew] at hz1))
          go_wp2_with fail
          go_roundw
          case rel =>
            obtain ⟨k2, g1, g2, g3, g4, g5, g6⟩ := HSAME.out HS.out w1 (gr_trans HB1 (by (repeat (first | exact Below.refl _ _ | refine Below.setCell ?_ (by first | omega | (simp; omega) | (simp; done)) _ | refine Below.alloc ?_ (by first | omega | (simp; omega) | (simp; done)) _ | refine Below.drew ?_ | refine below_drewN ?_ _ | refine Below.trans ?_ (Below.mono (by assumption) (by first | omega | (simp; omega) | (simp; done)))))))
            exact ⟨k2, g1, by rw [← g2], g3, g4, g5, g6⟩
          case measure => simp [intOf]; omega
        · have HP := Lib.hid (place_lt hin)
          have HS : Hid ((xl.take (k + 1)).foldl (clashS Y) met = M ++ [en]) := by
            unfold Hid
            rw [STEP.out]
            unfold clashS
            rw [if_pos]
            refine ⟨⟨by rw [NG.out]; rfl, ?_⟩, hin⟩
            rw [NG.out]
            intro h
            exact hgg (Option.some.inj h)
          clear hin hgg
          go_wp2_with fail
          refine (at_is (x := ⟨ylo, yhi, yhd, some ⟨yb, yo, none⟩, ycap, yl⟩) HAT.out _ (YW.out.to (by (repeat (first | exact Below.refl _ _ | refine Below.setCell ?_ (by first | omega | (simp; omega) | (simp; done)) _ | refine Below.alloc ?_ (by first | omega | (simp; omega) | (simp; done)) _ | refine Below.drew ?_ | refine below_drewN ?_ _ | refine Below.trans ?_ (Below.mono (by assumption) (by first | omega | (simp; omega) | (simp; done)))))))).mono ?_
          rintro e w1 ⟨rfl, hb1⟩
          have HB1 : Below wr.heap.size wr w1 := by (repeat (first | exact Below.refl _ _ | refine Below.setCell ?_ (by first | omega | (simp; omega) | (simp; done)) _ | refine Below.alloc ?_ (by first | omega | (simp; omega) | (simp; done)) _ | refine Below.drew ?_ | refine below_drewN ?_ _ | refine Below.trans ?_ (Below.mono (by assumption) (by first | omega | (simp; omega) | (simp; done)))))
          have a3' := cell_keep HB1 a3
          have b3' := cell_keep HB1 b3
          have y1' := cell_keep HB1 y1
          have x1' := cell_keep HB1 x1
          have za1 := cell_lt a3'
          have zb1 := cell_lt b3'
          have zc1 := cell_lt y1'
          have zd1 := cell_lt x1'
          clear hb1
          go_wp2_with fail
          (refine wp_region_grow_lit (by kernel_rfl) (by kernel_rfl) ?_; (repeat (go_big_quiet_step ((go_at_call 39; refine Calls.grow_same (PL.out _ _ HP.out _ (gr_trans HB1 (by (repeat (first | exact Below.refl _ _ | refine Below.setCell ?_ (by first | omega | (simp; omega) | (simp; done)) _ | refine Below.alloc ?_ (by first | omega | (simp; omega) | (simp; done)) _ | refine Below.drew ?_ | refine below_drewN ?_ _ | refine Below.trans ?_ (Below.mono (plus_below _ _) (by first | omega | (simp; omega) | (simp; done))) | refine Below.trans ?_ (Below.mono (by assumption) (by first | omega | (simp; omega) | (simp; done)))))))))))); refine wpQuiet_nil ?_; intro w1 hw1; have hb1 := below_of_plus hw1; clear hw1; obtain ⟨⟨hc1, hf1, hs1⟩, hz1⟩ := after hb1; (try simp only [World.size_alloc, World.size_setCell, World.size_drew] at hz1))
          have HB2 : Below wr.heap.size wr w1 := gr_trans HB1 (by (repeat (first | exact Below.refl _ _ | refine Below.setCell ?_ (by first | omega | (simp; omega) | (simp; done)) _ | refine Below.alloc ?_ (by first | omega | (simp; omega) | (simp; done)) _ | refine Below.drew ?_ | refine below_drewN ?_ _ | refine Below.trans ?_ (Below.mono (by assumption) (by first | omega | (simp; omega) | (simp; done))))))
          have hown2 := own_keep (own_keep hown HB1) hb1
          have a3'' := cell_keep HB2 a3
          have b0'' := cell_keep HB2 b0
          have b1'' := cell_keep HB2 b1
          have b2'' := cell_keep HB2 b2
          have b3'' := cell_keep HB2 b3
          have hs2 := HB2.size
          have hob2 := fun g (hg : (Value.slice A' M.length c').ownBlock = some g) => hob g hg
          have hob3 := fun g (hg : (Value.slice A' M.length c').ownBlock = some g) => own_block hown2 hg
          clear hb1 hc1 hf1 hs1 hz1
          go_wp2_with (at_builtin; go_loud (refine wpList_append_lies _ rfl _ _ 36 rfl base 3 i0 (.int .i64 0) 1 8 Tryz.underlying36 hi hy0 hy1 hy2 rfl (by decide) _ _ _ rfl (hown2.alloc _) ⟨w1.heap.size, 0, none⟩ 1 1 [vi en] rfl rfl (cell_one_new _ _ _) (by simp [Value.oneCell']) (by decide) (by unfold maxLen; omega) (by omega) (by simp; omega) _ rfl ?_; intro g5 c5 w5 hown5 hgrow5 hat5 hlt5))
          have hs5 := hgrow5.size
          simp only [World.size_alloc] at hs5 hat5
          have FAR : Hid (∀ p : Addr, p.block < w1.heap.size → (∀ g, (Value.slice A' M.length c').ownBlock = some g → g ≠ p.block) → w5.cell? p = w1.cell? p) := fun p hp hne => by
            have h1 := hgrow5.cell_far p (by simp; omega) (fun he => hne p.block he.symm rfl)
            rw [h1]
            exact ((Below.refl _ w1).alloc (Nat.le_refl _) _).cell hp
          have HB5 : Below base w w5 := Below.grown (hB.trans ((HB2.mono (by omega)).trans ((Below.refl _ w1).alloc (by omega) _))) hgrow5 (by simp; omega) (fun j e => (hob3 j e).1)
          go_roundw
          case rel =>
            refine ⟨k + 1, by omega, by go_num, HB5, ?_, fun g hg => ?_, ?_, ?_, ?_, ?_, ?_⟩
            · rw [HS.out]
              simpa using hown5
            · simp only [Value.ownBlock, Option.some.injEq] at hg
              subst hg
              rcases hat5 with h5 | h5
              · exact hob2 _ h5
              · omega
            · exact (FAR.out _ (by simp only; omega) (fun g hg => (hob2 g hg).1)).trans a3''
            · exact (FAR.out _ (by simp only; omega) (fun g hg => (hob2 g hg).2)).trans b0''
            · exact (FAR.out _ (by simp only; omega) (fun g hg => (hob2 g hg).2)).trans b1''
            · exact (FAR.out _ (by simp only; omega) (fun g hg => (hob2 g hg).2)).trans b2''
            · exact (FAR.out _ (by simp only; omega) (fun g hg => (hob2 g hg).2)).trans b3''
          case measure => simp [intOf]; omega
  · obtain rfl : k = xl.length := by omega
    go_wp2_with fail
    go_ret
    exact ⟨_, rfl, hown, hB⟩
end Go.Proofs.YtpcajmkmmkmekaaGreatDoor

