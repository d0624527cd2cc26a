/- Contract of the specification's turns. -/
import Derived.Test.YtpcajmkmmkmekaaGreatDoorXD4
import Derived.Deep.AppendLies
import Derived.Laws.OwnMore
set_option linter.unusedVariables false
set_option linter.unusedSimpArgs false
namespace Go.Proofs.YtpcajmkmmkmekaaGreatDoor
open Go Go.RowKit
set_option maxHeartbeats 4000000
theorem turnN_succ {l : List Issue} {a b : Int} {k : Nat} {x : Issue} (h : l[k]? = some x) : turnN (l.take (k + 1)) a b = turnX a b (turnN (l.take k) a b) x := fold_succ h _ _
theorem turnA_yes {a b e : Int} {out : List Int} (h : a ≤ e ∧ e ≤ b) (h2 : e ∉ out) : turnA a b out e = out ++ [e] := by unfold turnA; rw [if_pos ⟨h, h2⟩]
theorem turnA_no {a b e : Int} {out : List Int} (h : ¬ ((a ≤ e ∧ e ≤ b) ∧ e ∉ out)) : turnA a b out e = out := by unfold turnA; rw [if_neg h]
theorem has_is' {a b n : Int} {v : Bool} (h : (decide (a ≤ n) && decide (n ≤ b)) = v) (w : World) :
    Calls Tryz.prog 46 #[.agg #[vi a, vi b], vi n] w fun e w' => e = .returned (.bool v) ∧ Below w.heap.size w w' := by
  subst h
  exact has_any a b n w
theorem cells_two (w : World) (u v : Value) (t : TypeId) : ∃ V, V = w.alloc (.cells #[u, v] t) ∧ Below w.heap.size w V ∧ V.cell? ⟨w.heap.size, 0, none⟩ = some u ∧ V.cell? ⟨w.heap.size, 1, none⟩ = some v ∧ w.heap.size < V.heap.size :=
  ⟨_, rfl, (Below.refl _ _).alloc (Nat.le_refl _) _, by simp [go_sem], by simp [go_sem], by simp⟩
/-- one of the two days of a book -/
def ofTwo (p q : Int) (j : Nat) : Int := if j = 0 then p else q
def turnJ (a b p q : Int) (T : List Int) (j : Nat) : List Int := if j = 0 then T else if j = 1 then turnA a b T p else turnA a b (turnA a b T p) q
theorem turnJ_step {a b p q : Int} {T : List Int} {j : Nat} (hj : j < 2) : turnJ a b p q T (j + 1) = turnA a b (turnJ a b p q T j) (ofTwo p q j) := by
  obtain rfl | rfl : j = 0 ∨ j = 1 := by omega
  · rfl
  · rfl
theorem turnA_len (a b e : Int) (T : List Int) : (turnA a b T e).length ≤ T.length + 1 := by unfold turnA; split <;> simp
theorem turnJ_len (a b p q : Int) (T : List Int) (j : Nat) : (turnJ a b p q T j).length ≤ T.length + 2 := by
  have h1 := turnA_len a b p T
  have h2 := turnA_len a b q (turnA a b T p)
  unfold turnJ
  split
  · omega
  · split <;> omega
theorem cells_ofTwo {w : World} {lb : Nat} {p q : Int} (h0 : w.cell? ⟨lb, 0, none⟩ = some (vi p)) (h1 : w.cell? ⟨lb, 1, none⟩ = some (vi q)) {j : Nat} (hj : j < 2) : w.cell? ⟨lb, 0 + j, none⟩ = some (vi (ofTwo p q j)) := by
  obtain rfl | rfl : j = 0 ∨ j = 1 := by omega
  · exact h0
  · exact h1
set_option maxRecDepth 100000 in
theorem turns_any (r : Rack) (a b : Int) (hok : RackOk r) (h0 : 0 ≤ a) (hab : a ≤ b) (hb2 : b ≤ 20000) (w : World) (h : RackAt w w.heap.size r) :
    Calls Tryz.prog 62 #[r.val, .agg #[vi a, vi b]] w fun e w' => ∃ A c, e = .returned (.slice A (turnN r.issues a b).length c) ∧ IntsAt w' w'.heap.size A (turnN r.issues a b).length (sorted (turnN r.issues a b)) ∧ Below w.heap.size w w' := by
  have hcap := IssuesAt.cap h
  have hlen := IssuesAt.len h
  have hn2 := hok.n2
  have OK : Hid (∀ x ∈ r.issues, IssueOk r x) := hok.issues
  have HI : Hid (IssuesAt w w.heap.size r.ad r.cap r.issues) := h
  clear hok h
  obtain ⟨rg, rA, rcap, ri⟩ := r
  simp only at hcap hlen hn2 HI OK
  have TP : Hid (∀ n ∈ turnN ri a b, 0 ≤ n) := fun n hn => by have := turnN_range hab hn; omega
  have TD : Hid (turnN ri a b).Nodup := turnN_nodup _ _ (by simp)
  have TL : Hid (∀ k, k ≤ ri.length → (turnN (ri.take k) a b).length ≤ 9) := fun k hk => by have := turnN_len (a := a) (b := b) (ri.take k); rw [List.length_take] at this; omega
  show Calls Tryz.prog 62 #[.agg #[vi rg, .slice rA ri.length rcap], .agg #[vi a, vi b]] w fun e w' => ∃ A c, e = .returned (.slice A (turnN ri a b).length c) ∧ IntsAt w' w'.heap.size A (turnN ri a b).length (sorted (turnN ri a b)) ∧ Below w.heap.size w w'
  obtain ⟨i0, hi, hy0, hy1, hy2⟩ := info_parts info_int
  go_enter Tryz.func62, Tryz.ntmps62
  go_wp2_with fail
  obtain ⟨W0, hW0⟩ : ∃ W0, W0 = (w.alloc (.cells #[vi rg, .slice rA ri.length rcap] 24)).alloc (.cells #[vi a, vi b] 26) := ⟨_, rfl⟩
  have hz0 : W0.heap.size = w.heap.size + 2 := by rw [hW0]; simp
  have HB00 : Below w.heap.size w W0 := by rw [hW0]; (repeat (first | exact Below.refl _ _ | refine Below.setCell ?_ (by first | omega | (simp; omega) | (simp; done)) _ | refine Below.alloc ?_ (by first | omega | (simp; omega) | (simp; done)) _ | refine Below.drew ?_ | refine below_drewN ?_ _ | refine Below.trans ?_ (Below.mono (by assumption) (by first | omega | (simp; omega) | (simp; done)))))
  have a1 : W0.cell? ⟨w.heap.size, 1, none⟩ = some (.slice rA ri.length rcap) := by rw [hW0]; simp [go_sem]
  have c0 : W0.cell? ⟨w.heap.size + 1, 0, none⟩ = some (vi a) := by rw [hW0]; simp [go_sem]
  have c1 : W0.cell? ⟨w.heap.size + 1, 1, none⟩ = some (vi b) := by rw [hW0]; simp [go_sem]
  have HW1 : Below W0.heap.size W0 (W0.alloc (.cells #[vi a] 3)) := (Below.refl _ _).alloc (Nat.le_refl _) _
  have own1 : (W0.alloc (.cells #[vi a] 3)).ownsRow (w.heap.size + 2) 3 1 (.slice (some ⟨w.heap.size + 2, 0, none⟩) 1 1) 1 [vi a] := by
    have := World.ownsRow_lit (base := w.heap.size + 2) (e := 3) (size := 1) W0 #[vi a] 1 (by omega) (by decide) rfl
    rwa [hz0] at this
  rw [← hW0]
  obtain ⟨W, hW⟩ : ∃ W, W = W0.alloc (.cells #[vi a] 3) := ⟨_, rfl⟩
  rw [← hW] at HW1 own1 ⊢
  have HB0 : Below w.heap.size w W := HB00.trans (HW1.mono HB00.size)
  replace a1 := cell_keep HW1 a1
  replace c0 := cell_keep HW1 c0
  replace c1 := cell_keep HW1 c1
  have hzW : W.heap.size = w.heap.size + 3 := by rw [hW]; simp; omega
  clear hW hW0 HW1 HB00 hz0
  obtain ⟨B, hBd⟩ : ∃ B, B = w.heap.size + 2 := ⟨_, rfl⟩
  have own2 : W.ownsRow B 3 1 (.slice (some ⟨w.heap.size + 2, 0, none⟩) 1 1) 1 [vi a] := by rw [hBd]; exact own1
  clear own1
  go_loopw [5, 6] (fun u i wr => ∃ k : Nat, k ≤ ri.length ∧ i = .int .i64 k ∧ Below B W wr ∧ wr.ownsRow B 3 1 u (turnN (ri.take k) a b).length ((turnN (ri.take k) a b).map vi)) (fun _ i _ => ri.length - (intOf i).toNat)
  case atStart => exact ⟨0, Nat.zero_le _, rfl, Below.refl _ _, own2⟩
  clear own2
  obtain ⟨k, hk, rfl, hB, hown⟩ := hrel
  have hbs := hB.size
  have HBr : Below w.heap.size w wr := HB0.trans (hB.mono (by omega))
  have a1r := (hB.cell (p := ⟨w.heap.size, 1, none⟩) (by simp only; omega)).trans a1
  have c0r := (hB.cell (p := ⟨w.heap.size + 1, 0, none⟩) (by simp only; omega)).trans c0
  have c1r := (hB.cell (p := ⟨w.heap.size + 1, 1, none⟩) (by simp only; omega)).trans c1
  have za : w.heap.size < wr.heap.size := by omega
  have zb : w.heap.size + 1 < wr.heap.size := by omega
  obtain ⟨M, hM⟩ : ∃ M, M = turnN (ri.take k) a b := ⟨_, rfl⟩
  have hM9 : M.length ≤ 9 := by rw [hM]; exact TL.out k hk
  rw [← hM] at hown
  by_cases hlt : k < ri.length
  · obtain ⟨x, hx⟩ : ∃ x, ri[k]? = some x := ⟨_, List.getElem?_eq_getElem hlt⟩
    obtain ⟨bb, off, rfl, hbb, x0, x1, x2, x3⟩ := row4 (IssuesAt.to HI.out HBr).row hx rfl
    have xok := OK.out x (List.mem_of_getElem? hx)
    have xh2 := xok.h2
    have xh1 := xok.h1
    have xd1 := xok.d1
    have hST : turnN (ri.take (k + 1)) a b = turnJ a b x.lo (x.held + 1) M 2 := by rw [turnN_succ hx, hM]; rfl
    have ST := Lib.hid hST
    have hkI : (k : Int) < ri.length := by omega
    have h0k : (0 : Int) ≤ k := by omega
    clear hx xok hST hM
    obtain ⟨xlo, xhi, xhd, xA, xcap, xl⟩ := x
    simp only at x0 x1 x2 x3 ST xh1 xh2 xd1
    have zbb : bb < wr.heap.size := cell_lt x0
    have hwr : wrap64 (xhd + 1) = xhd + 1 := IntWalk.wrap64_in _ ⟨by omega, by omega⟩
    obtain ⟨Q, hQ⟩ : ∃ Q, Q = xhd + 1 := ⟨_, rfl⟩
    rw [← hQ] at ST hwr
    obtain ⟨A', c', rfl, -⟩ := own_ints hown rfl (by omega)
    go_upto_region 5 with fail
    refine' wp_region_box (fun w' => Below wr.heap.size wr w') (stays_below _) [0, 1, 2, 3, 4, 5, 6, 7, 8, 9, 10, 11, 12, 13] 2 62 (by kernel_rfl) (by kernel_rfl) rfl (by kernel_rfl) (by kernel_rfl) rfl (by kernel_rfl) ?hl5 (Below.refl _ _) ?hq5 ?hr5
    case hl5 =>
      simp only [List.map_cons, List.map_nil, List.getD_cons_zero, List.getD_cons_succ]
      exact rfl
    case hq5 =>
      intro w0 hw0
      have u1 := cell_keep hw0 a1r
      have y0 := cell_keep hw0 x0
      have y2 := cell_keep hw0 x2
      have v1 : w.heap.size < w0.heap.size := cell_lt u1
      have v2 : bb < w0.heap.size := cell_lt y0
      (repeat (go_big_quiet_step (fail)))
      exact wpQuiet_nil rfl
    refine wpUp_one (i := 14) (by kernel_rfl) rfl rfl (fun w1 h1 h2 K hK => ?_)
    go_simp
    refine hK _ _ (h2.alloc h2.size _) ?_
    refine wpUp_one (i := 15) (by kernel_rfl) rfl rfl (fun w2 h3 h4 K2 hK2 => ?_)
    go_simp
    refine hK2 _ _ h4 (wpUp_done (by kernel_rfl) (fun W4 h7 h8 => NoPanic.normal ?_))
    have L0 : W4.cell? ⟨w1.heap.size, 0, none⟩ = some (vi xlo) := cell_keep (gr_trans h3 h7) (by simp [go_sem])
    have L1 : W4.cell? ⟨w1.heap.size, 1, none⟩ = some (vi Q) := cell_keep (gr_trans h3 h7) (by simp [go_sem, hQ])
    have hw1s := h2.size
    have hownW := own_keep hown h8
    have hlA : ∀ g, (Value.slice A' M.length c').ownBlock = some g → g ≠ w1.heap.size := fun g hg => by have := own_block hown hg; omega
    have HBW4 : Below B W W4 := hB.trans (h8.mono (by omega))
    obtain ⟨lb, hlb⟩ : ∃ lb, lb = w1.heap.size := ⟨_, rfl⟩
    rw [← hlb] at L0 L1 hlA
    try rw [← hlb]
    have hBlb : B ≤ lb := by omega
    clear hlb h1 h2 h3 h4 h7 hK hK2 K K2 hw1s w2 w1 x0 x1 x2 x3 a1r c0r c1r hown HBr
    obtain ⟨wo, rfl⟩ : ∃ wo : World, wo = wr := ⟨_, rfl⟩
    go_wp2_with fail
    go_loopw [5, 8] (fun u i w2 => ∃ m : Nat, m ≤ 2 ∧ i = .int .i64 m ∧ Below B W w2 ∧ w2.ownsRow B 3 1 u (turnJ a b xlo Q M m).length ((turnJ a b xlo Q M m).map vi) ∧ (∀ g, u.ownBlock = some g → g ≠ lb) ∧ w2.cell? ⟨lb, 0, none⟩ = some (vi xlo) ∧ w2.cell? ⟨lb, 1, none⟩ = some (vi Q)) (fun _ i _ => 2 - (intOf i).toNat)
    case atStart => exact ⟨0, by omega, rfl, HBW4, hownW, hlA, L0, L1⟩
    clear L0 L1 hlA hownW HBW4 h8 hB za zb hbb zbb
    obtain ⟨m, hm, rfl, hB, hown, hlA, L0, L1⟩ := hrel
    have hbs := hB.size
    have c0r := (hB.cell (p := ⟨w.heap.size + 1, 0, none⟩) (by simp only; omega)).trans c0
    have c1r := (hB.cell (p := ⟨w.heap.size + 1, 1, none⟩) (by simp only; omega)).trans c1
    have zb : w.heap.size + 1 < wr.heap.size := by omega
    have zlb : lb < wr.heap.size := cell_lt L0
    obtain ⟨T, hT⟩ : ∃ T, T = turnJ a b xlo Q M m := ⟨_, rfl⟩
    have hTl : T.length ≤ 11 := by have := turnJ_len a b xlo Q M m; rw [hT]; omega
    rw [← hT] at hown
    by_cases hm2 : m < 2
    · obtain ⟨e, hed⟩ : ∃ e, e = ofTwo xlo Q m := ⟨_, rfl⟩
      have LE : wr.cell? ⟨lb, 0 + m, none⟩ = some (vi e) := by rw [hed]; exact cells_ofTwo L0 L1 hm2
      have LE2 : wr.cell? ⟨lb, m, none⟩ = some (vi e) := by rw [Nat.zero_add] at LE; exact LE
      have hST2 : turnJ a b xlo Q M (m + 1) = turnA a b T e := by rw [turnJ_step hm2, hT, hed]
      have ST2 := Lib.hid hST2
      have hmI : (m : Int) < 2 := by omega
      have h0m : (0 : Int) ≤ m := by omega
      clear hST2 hT hed
      obtain ⟨A2, c2, rfl, hi2⟩ := own_ints hown rfl (by omega)
      have PL : Hid (∀ n v, placeF T n = v → ∀ W' : World, Below wr.heap.size wr W' → Calls Tryz.prog 39 #[.slice A2 T.length c2, vi n] W' fun e w' => e = .returned (vi v) ∧ W' = w') := fun n v hv W' hW' => place_at hv rfl A2 c2 W' (hi2.to hW')
      clear hi2
      have SAME : Hid (turnA a b T e = T → ∀ w' : World, Below wr.heap.size wr w' → ∃ m' : Nat, m' ≤ 2 ∧ Value.int .i64 ((m : Int) + 1) = .int .i64 m' ∧ Below B W w' ∧ w'.ownsRow B 3 1 (.slice A2 T.length c2) (turnJ a b xlo Q M m').length ((turnJ a b xlo Q M m').map vi) ∧ (∀ g, (Value.slice A2 T.length c2).ownBlock = some g → g ≠ lb) ∧ w'.cell? ⟨lb, 0, none⟩ = some (vi xlo) ∧ w'.cell? ⟨lb, 1, none⟩ = some (vi Q)) :=
        fun hs w' hw' => ⟨m + 1, by omega, by simp, hB.trans (hw'.mono (by omega)), by rw [ST2.out, hs]; exact own_keep hown hw', hlA, cell_keep hw' L0, cell_keep hw' L1⟩
      by_cases hin : a ≤ e ∧ e ≤ b
      · have hh : (decide (a ≤ e) && decide (e ≤ b)) = true := by simpa using hin
        have HH := Lib.hid hh
        by_cases hmem : e ∈ T
        · obtain ⟨p, hp⟩ : ∃ p, placeF T e = p := ⟨_, rfl⟩
          have hp0 := (place_in T e).1 hmem
          rw [hp] at hp0
          have HP := Lib.hid hp
          have hpd : decide (p < 0) = false := by simp; omega
          have HS : Hid (turnA a b T e = T) := turnA_no fun h => h.2 hmem
          clear hp hmem hin hh
          go_wp2_with fail
          (refine wp_region_grow_lit (by kernel_rfl) (by kernel_rfl) ?_; (repeat (go_big_quiet_step (first | (go_at_call 46; refine Calls.grow_of (has_is' HH.out _)) | (go_at_call 39; refine Calls.grow_same (PL.out _ _ HP.out _ (by (repeat (first | exact Below.refl _ _ | refine Below.setCell ?_ (by first | omega | (simp; omega) | (simp; done)) _ | refine Below.alloc ?_ (by first | omega | (simp; omega) | (simp; done)) _ | refine Below.drew ?_ | refine below_drewN ?_ _ | refine Below.trans ?_ (Below.mono (plus_below _ _) (by first | omega | (simp; omega) | (simp; done))) | refine Below.trans ?_ (Below.mono (by assumption) (by first | omega | (simp; omega) | (simp; done))))))))))); refine wpQuiet_nil ?_; intro w1 hw1; have hb1 := below_of_plus hw1; clear hw1; obtain ⟨⟨hc1, hf1, hs1⟩, hz1⟩ := after hb1; (try simp only [World.size_alloc, World.size_setCell, World.size_drew] at hz1))
          go_wp2_with fail
          go_roundw
          case rel =>
            obtain ⟨m', g1, g2, g3⟩ := SAME.out HS.out w1 (by (repeat (first | exact Below.refl _ _ | refine Below.setCell ?_ (by first | omega | (simp; omega) | (simp; done)) _ | refine Below.alloc ?_ (by first | omega | (simp; omega) | (simp; done)) _ | refine Below.drew ?_ | refine below_drewN ?_ _ | refine Below.trans ?_ (Below.mono (by assumption) (by first | omega | (simp; omega) | (simp; done))))))
            exact ⟨m', g1, by rw [← g2], g3⟩
          case measure => simp [intOf]; omega
        · have HP := Lib.hid (place_lt hmem)
          have HS : Hid (turnA a b T e = T ++ [e]) := turnA_yes hin hmem
          clear hmem hin hh
          go_wp2_with fail
          (refine wp_region_grow_lit (by kernel_rfl) (by kernel_rfl) ?_; (repeat (go_big_quiet_step (first | (go_at_call 46; refine Calls.grow_of (has_is' HH.out _)) | (go_at_call 39; refine Calls.grow_same (PL.out _ _ HP.out _ (by (repeat (first | exact Below.refl _ _ | refine Below.setCell ?_ (by first | omega | (simp; omega) | (simp; done)) _ | refine Below.alloc ?_ (by first | omega | (simp; omega) | (simp; done)) _ | refine Below.drew ?_ | refine below_drewN ?_ _ | refine Below.trans ?_ (Below.mono (plus_below _ _) (by first | omega | (simp; omega) | (simp; done))) | refine Below.trans ?_ (Below.mono (by assumption) (by first | omega | (simp; omega) | (simp; done))))))))))); refine wpQuiet_nil ?_; intro w1 hw1; have hb1 := below_of_plus hw1; clear hw1; obtain ⟨⟨hc1, hf1, hs1⟩, hz1⟩ := after hb1; (try simp only [World.size_alloc, World.size_setCell, World.size_drew] at hz1))
          have HB2 : Below wr.heap.size wr w1 := by (repeat (first | exact Below.refl _ _ | refine Below.setCell ?_ (by first | omega | (simp; omega) | (simp; done)) _ | refine Below.alloc ?_ (by first | omega | (simp; omega) | (simp; done)) _ | refine Below.drew ?_ | refine below_drewN ?_ _ | refine Below.trans ?_ (Below.mono (by assumption) (by first | omega | (simp; omega) | (simp; done)))))
          have hown2 := own_keep hown HB2
          have L0' := cell_keep HB2 L0
          have L1' := cell_keep HB2 L1
          have LE' := cell_keep HB2 LE
          have LE2' := cell_keep HB2 LE2
          have zl' : lb < w1.heap.size := cell_lt L0'
          have hs2 := HB2.size
          have hob3 := fun g (hg : (Value.slice A2 T.length c2).ownBlock = some g) => own_block hown2 hg
          clear hb1 hc1 hf1 hs1 hz1
          go_wp2_with (at_builtin; go_loud (refine wpList_append_lies _ rfl _ _ 36 rfl B 3 i0 (.int .i64 0) 1 8 Tryz.underlying36 hi hy0 hy1 hy2 rfl (by decide) _ _ _ rfl (hown2.alloc _) ⟨w1.heap.size, 0, none⟩ 1 1 [vi e] rfl rfl (cell_one_new _ _ _) (by simp [Value.oneCell']) (by decide) (by unfold maxLen; omega) (by omega) (by simp; omega) _ rfl ?_; intro g5 c5 w5 hown5 hgrow5 hat5 hlt5))
          have hs5 := hgrow5.size
          simp only [World.size_alloc] at hs5 hat5
          have FAR : Hid (∀ p : Addr, p.block < w1.heap.size → (∀ g, (Value.slice A2 T.length c2).ownBlock = some g → g ≠ p.block) → w5.cell? p = w1.cell? p) := fun p hp hne => by
            have h1 := hgrow5.cell_far p (by simp; omega) (fun he => hne p.block he.symm rfl)
            rw [h1]
            exact ((Below.refl _ w1).alloc (Nat.le_refl _) _).cell hp
          have HB5 : Below B W w5 := Below.grown (hB.trans ((HB2.mono (by omega)).trans ((Below.refl _ w1).alloc (by omega) _))) hgrow5 (by simp; omega) (fun j e => (hob3 j e).1)
          go_roundw
          case rel =>
            refine ⟨m + 1, by omega, by go_num, HB5, ?_, fun g hg => ?_, ?_, ?_⟩
            · rw [ST2.out, HS.out]
              simpa using hown5
            · simp only [Value.ownBlock, Option.some.injEq] at hg
              subst hg
              rcases hat5 with h5 | h5
              · exact hlA _ h5
              · omega
            · exact (FAR.out _ (by simp only; omega) (fun g hg => hlA g hg)).trans L0'
            · exact (FAR.out _ (by simp only; omega) (fun g hg => hlA g hg)).trans L1'
          case measure => simp [intOf]; omega
      · have hh : (decide (a ≤ e) && decide (e ≤ b)) = false := by
          rw [Bool.eq_false_iff]
          intro h
          exact hin (by simpa using h)
        have HH := Lib.hid hh
        have HS : Hid (turnA a b T e = T) := turnA_no fun h => hin h.1
        clear hin hh
        go_wp2_with fail
        (refine wp_region_grow_lit (by kernel_rfl) (by kernel_rfl) ?_; (repeat (go_big_quiet_step ((go_at_call 46; refine Calls.grow_of (has_is' HH.out _))))); refine wpQuiet_nil ?_; intro w1 hw1; have hb1 := below_of_plus hw1; clear hw1; obtain ⟨⟨hc1, hf1, hs1⟩, hz1⟩ := after hb1; (try simp only [World.size_alloc, World.size_setCell, World.size_drew] at hz1))
        go_wp2_with fail
        go_roundw
        case rel =>
          obtain ⟨m', g1, g2, g3⟩ := SAME.out HS.out w1 (by (repeat (first | exact Below.refl _ _ | refine Below.setCell ?_ (by first | omega | (simp; omega) | (simp; done)) _ | refine Below.alloc ?_ (by first | omega | (simp; omega) | (simp; done)) _ | refine Below.drew ?_ | refine below_drewN ?_ _ | refine Below.trans ?_ (Below.mono (by assumption) (by first | omega | (simp; omega) | (simp; done))))))
          exact ⟨m', g1, by rw [← g2], g3⟩
        case measure => simp [intOf]; omega
    · have hme : m = 2 := by omega
      have HT : Hid (T = turnJ a b xlo Q M 2) := by unfold Hid; rw [hT, hme]
      have hmn : (2 : Int) ≤ (m : Int) := by omega
      clear hT hme
      obtain ⟨A2, c2, rfl, -⟩ := own_ints hown rfl (by omega)
      go_wp2_with fail
      go_roundw
      case rel =>
        refine ⟨k + 1, by omega, by go_num, hB, ?_⟩
        rw [ST.out, ← HT.out]
        exact hown
      case measure => simp [intOf]; omega
  · obtain rfl : k = ri.length := by omega
    have hMe : M = turnN ri a b := by rw [hM, List.take_length]
    subst hMe
    clear hM
    obtain ⟨A', c', rfl, hi'⟩ := own_ints hown rfl (by omega)
    go_wp2_with fail
    refine (sorted_run A' c' (turnN ri a b) _ hi' TP.out TD.out (by omega)).mono ?_
    rintro e w5 ⟨A5, c5, rfl, h5, hb5⟩
    go_wp2_with fail
    go_ret
    exact ⟨A5, c5, rfl, h5, HBr.trans (hb5.mono HBr.size)⟩
end Go.Proofs.YtpcajmkmmkmekaaGreatDoor

