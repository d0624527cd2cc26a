/- Contracts of Match and MatchSpans, whatever the capacities. -/
import Derived.Test.YtomgnpfpaodpiaaDoorH19
import Derived.Test.YtomgnpfpaodpiaaDoorH12
import Derived.Laws.MakeOwn
set_option linter.unusedVariables false
set_option linter.unusedSimpArgs false
namespace Go.Proofs.YtomgnpfpaodpiaaDoor
open Go Go.RowKit
set_option maxHeartbeats 2000000
set_option maxRecDepth 100000 in
theorem match_free (A B : Option Addr) (ca cb : Nat) (l m : List Int) (w : World) (ha : IntsAt w w.heap.size A l.length l) (hb : IntsAt w w.heap.size B m.length m) :
    Calls Tryd.prog 32 #[.slice A l.length ca, .slice B m.length cb] w fun e w' => e = .returned (.bool (decide (l = m))) ∧ Below w.heap.size w w' := by
  have ha1 := ha.lens
  have hb1 := hb.lens
  rcases hlm : ((l.length : Int) == (m.length : Int)) with _ | _
  · have E : Hid (decide (l = m) = false) := by
      unfold Hid
      rw [decide_eq_false_iff_not]
      rintro rfl
      simp at hlm
    go_enter Tryd.func32, Tryd.ntmps32
    go_wp2
    go_rounds 2
    go_ret
    refine ⟨retB E.out.symm, ?_⟩
    (repeat (first | exact Below.refl _ _ | refine Below.setCell ?_ (by first | omega | (simp; omega) | (simp; done)) _ | refine Below.alloc ?_ (by first | omega | (simp; omega) | (simp; done)) _ | refine Below.drew ?_ | refine below_drewN ?_ _ | refine Below.trans ?_ (Below.mono (by assumption) (by first | omega | (simp; omega) | (simp; done)))))
  have hle : l.length = m.length := by have := beq_iff_eq.1 hlm; omega
  go_enter Tryd.func32, Tryd.ntmps32
  go_wp2
  clear hlm
  go_loopw [5, 6] (fun ok i wr => ∃ k : Nat, k ≤ l.length ∧ i = .int .i64 k ∧ Below w.heap.size w wr ∧ ((ok = .bool true ∧ Hid (l.take k = m.take k)) ∨ (ok = .bool false ∧ Hid (decide (l = m) = false)))) (fun _ i _ => l.length - (intOf i).toNat)
  case atStart => exact ⟨0, Nat.zero_le _, rfl, Below.refl _ _, .inl ⟨rfl, by simp [Hid]⟩⟩
  case round =>
    obtain ⟨k, hk, rfl, hB, ⟨rfl, heq⟩ | ⟨rfl, hbad⟩⟩ := hrel
    · have hbs := hB.size
      by_cases hlt : k < l.length
      · obtain ⟨x, hx⟩ : ∃ x, l[k]? = some x := ⟨_, List.getElem?_eq_getElem hlt⟩
        obtain ⟨y, hy⟩ : ∃ y, m[k]? = some y := ⟨_, List.getElem?_eq_getElem (by omega)⟩
        obtain ⟨ba, oa, rfl, hba, c0⟩ := ints_at (ha.to hB) hx
        obtain ⟨bb, ob, rfl, hbb, c1⟩ := ints_at (hb.to hB) hy
        have hlt2 : k < m.length := by omega
        have hltI : (k : Int) < m.length := by omega
        have hltJ : (k : Int) < l.length := by omega
        have h0I : (0 : Int) ≤ k := by omega
        rcases hxy : x == y with _ | _
        · have hb9 : Hid (decide (l = m) = false) := by
            unfold Hid
            rw [decide_eq_false_iff_not]
            rintro rfl
            rw [hx] at hy
            simp at hy
            subst hy
            simp at hxy
          clear hx hy
          go_wp2_with fail
          (refine wp_region_grow_lit (by kernel_rfl) (by kernel_rfl) ?_; (repeat (go_big_quiet_step (fail))); refine wpQuiet_nil ?_; intro w1 hw1; have hb1 := below_of_plus hw1; clear hw1; obtain ⟨⟨hc1, hf1, hs1⟩, hz1⟩ := after hb1; (try simp only [World.size_alloc, World.size_setCell, World.size_drew] at hz1))
          go_wp2
          go_roundw
          case rel => exact ⟨k + 1, by omega, by go_num, by (repeat (first | exact Below.refl _ _ | refine Below.setCell ?_ (by first | omega | (simp; omega) | (simp; done)) _ | refine Below.alloc ?_ (by first | omega | (simp; omega) | (simp; done)) _ | refine Below.drew ?_ | refine below_drewN ?_ _ | refine Below.trans ?_ (Below.mono (by assumption) (by first | omega | (simp; omega) | (simp; done))))), .inr ⟨rfl, hb9⟩⟩
          case measure => simp [intOf]; omega
        · have hst : Hid (l.take (k + 1) = m.take (k + 1)) := by
            obtain ⟨h1, rfl⟩ := List.getElem?_eq_some_iff.1 hx
            obtain ⟨h2, rfl⟩ := List.getElem?_eq_some_iff.1 hy
            unfold Hid
            rw [List.take_succ_eq_append_getElem h1, List.take_succ_eq_append_getElem h2, heq.out, beq_iff_eq.1 hxy]
          clear hx hy
          go_wp2_with fail
          (refine wp_region_grow_lit (by kernel_rfl) (by kernel_rfl) ?_; (repeat (go_big_quiet_step (fail))); refine wpQuiet_nil ?_; intro w1 hw1; have hb1 := below_of_plus hw1; clear hw1; obtain ⟨⟨hc1, hf1, hs1⟩, hz1⟩ := after hb1; (try simp only [World.size_alloc, World.size_setCell, World.size_drew] at hz1))
          go_wp2
          go_roundw
          case rel => exact ⟨k + 1, by omega, by go_num, by (repeat (first | exact Below.refl _ _ | refine Below.setCell ?_ (by first | omega | (simp; omega) | (simp; done)) _ | refine Below.alloc ?_ (by first | omega | (simp; omega) | (simp; done)) _ | refine Below.drew ?_ | refine below_drewN ?_ _ | refine Below.trans ?_ (Below.mono (by assumption) (by first | omega | (simp; omega) | (simp; done))))), .inl ⟨rfl, hst⟩⟩
          case measure => simp [intOf]; omega
      · obtain rfl : k = l.length := by omega
        have E : Hid (decide (l = m) = true) := by
          have := heq.out
          rw [List.take_length, hle, List.take_length] at this
          unfold Hid
          simp [this]
        go_wp2
        go_ret
        refine ⟨retB E.out.symm, ?_⟩
        exact hB
    · go_wp2
      go_ret
      refine ⟨retB hbad.out.symm, ?_⟩
      exact hB
set_option maxRecDepth 100000 in
theorem matchSpans_free (A B : Option Addr) (ca cb : Nat) (l m : List (Int × Int)) (w : World) (ha : RowsAt w w.heap.size 2 A l.length (l.map spanC)) (hb : RowsAt w w.heap.size 2 B m.length (m.map spanC)) :
    Calls Tryd.prog 27 #[.slice A l.length ca, .slice B m.length cb] w fun e w' => e = .returned (.bool (decide (l = m))) ∧ Below w.heap.size w w' := by
  have ha1 := ha.lens
  have hb1 := hb.lens
  rcases hlm : ((l.length : Int) == (m.length : Int)) with _ | _
  · have E : Hid (decide (l = m) = false) := by
      unfold Hid
      rw [decide_eq_false_iff_not]
      rintro rfl
      simp at hlm
    go_enter Tryd.func27, Tryd.ntmps27
    go_wp2
    go_rounds 2
    go_ret
    refine ⟨retB E.out.symm, ?_⟩
    (repeat (first | exact Below.refl _ _ | refine Below.setCell ?_ (by first | omega | (simp; omega) | (simp; done)) _ | refine Below.alloc ?_ (by first | omega | (simp; omega) | (simp; done)) _ | refine Below.drew ?_ | refine below_drewN ?_ _ | refine Below.trans ?_ (Below.mono (by assumption) (by first | omega | (simp; omega) | (simp; done)))))
  have hle : l.length = m.length := by have := beq_iff_eq.1 hlm; omega
  go_enter Tryd.func27, Tryd.ntmps27
  go_wp2
  clear hlm
  go_loopw [5, 6] (fun ok i wr => ∃ k : Nat, k ≤ l.length ∧ i = .int .i64 k ∧ Below w.heap.size w wr ∧ ((ok = .bool true ∧ Hid (l.take k = m.take k)) ∨ (ok = .bool false ∧ Hid (decide (l = m) = false)))) (fun _ i _ => l.length - (intOf i).toNat)
  case atStart => exact ⟨0, Nat.zero_le _, rfl, Below.refl _ _, .inl ⟨rfl, by simp [Hid]⟩⟩
  case round =>
    obtain ⟨k, hk, rfl, hB, ⟨rfl, heq⟩ | ⟨rfl, hbad⟩⟩ := hrel
    · have hbs := hB.size
      by_cases hlt : k < l.length
      · obtain ⟨x, hx⟩ : ∃ x, l[k]? = some x := ⟨_, List.getElem?_eq_getElem hlt⟩
        obtain ⟨y, hy⟩ : ∃ y, m[k]? = some y := ⟨_, List.getElem?_eq_getElem (by omega)⟩
        obtain ⟨ba, oa, rfl, hba, c0, c1⟩ := row2 (ha.to hB).row hx rfl
        obtain ⟨bb, ob, rfl, hbb, d0, d1⟩ := row2 (hb.to hB).row hy rfl
        have hlt2 : k < m.length := by omega
        have hltI : (k : Int) < m.length := by omega
        have hltJ : (k : Int) < l.length := by omega
        have h0I : (0 : Int) ≤ k := by omega
        obtain ⟨xa, xb⟩ := x
        obtain ⟨ya, yb⟩ := y
        simp only at c0 c1 d0 d1
        rcases hxy : xa == ya with _ | _
        · have hb9 : Hid (decide (l = m) = false) := by
            unfold Hid
            rw [decide_eq_false_iff_not]
            rintro rfl
            rw [hx] at hy
            simp at hy
            simp [hy.1] at hxy
          clear hx hy
          go_wp2_with fail
          (refine wp_region_grow_lit (by kernel_rfl) (by kernel_rfl) ?_; (repeat (go_big_quiet_step (fail))); refine wpQuiet_nil ?_; intro w1 hw1; have hb1 := below_of_plus hw1; clear hw1; obtain ⟨⟨hc1, hf1, hs1⟩, hz1⟩ := after hb1; (try simp only [World.size_alloc, World.size_setCell, World.size_drew] at hz1))
          go_wp2
          go_roundw
          case rel => exact ⟨k + 1, by omega, by go_num, by (repeat (first | exact Below.refl _ _ | refine Below.setCell ?_ (by first | omega | (simp; omega) | (simp; done)) _ | refine Below.alloc ?_ (by first | omega | (simp; omega) | (simp; done)) _ | refine Below.drew ?_ | refine below_drewN ?_ _ | refine Below.trans ?_ (Below.mono (by assumption) (by first | omega | (simp; omega) | (simp; done))))), .inr ⟨rfl, hb9⟩⟩
          case measure => simp [intOf]; omega
        rcases hxz : xb == yb with _ | _
        · have hb9 : Hid (decide (l = m) = false) := by
            unfold Hid
            rw [decide_eq_false_iff_not]
            rintro rfl
            rw [hx] at hy
            simp at hy
            simp [hy.2] at hxz
          clear hx hy
          go_wp2_with fail
          (refine wp_region_grow_lit (by kernel_rfl) (by kernel_rfl) ?_; (repeat (go_big_quiet_step (fail))); refine wpQuiet_nil ?_; intro w1 hw1; have hb1 := below_of_plus hw1; clear hw1; obtain ⟨⟨hc1, hf1, hs1⟩, hz1⟩ := after hb1; (try simp only [World.size_alloc, World.size_setCell, World.size_drew] at hz1))
          go_wp2
          go_roundw
          case rel => exact ⟨k + 1, by omega, by go_num, by (repeat (first | exact Below.refl _ _ | refine Below.setCell ?_ (by first | omega | (simp; omega) | (simp; done)) _ | refine Below.alloc ?_ (by first | omega | (simp; omega) | (simp; done)) _ | refine Below.drew ?_ | refine below_drewN ?_ _ | refine Below.trans ?_ (Below.mono (by assumption) (by first | omega | (simp; omega) | (simp; done))))), .inr ⟨rfl, hb9⟩⟩
          case measure => simp [intOf]; omega
        · have hst : Hid (l.take (k + 1) = m.take (k + 1)) := by
            obtain ⟨h1, e1⟩ := List.getElem?_eq_some_iff.1 hx
            obtain ⟨h2, e2⟩ := List.getElem?_eq_some_iff.1 hy
            unfold Hid
            rw [List.take_succ_eq_append_getElem h1, List.take_succ_eq_append_getElem h2, heq.out, e1, e2, beq_iff_eq.1 hxy, beq_iff_eq.1 hxz]
          clear hx hy
          go_wp2_with fail
          (refine wp_region_grow_lit (by kernel_rfl) (by kernel_rfl) ?_; (repeat (go_big_quiet_step (fail))); refine wpQuiet_nil ?_; intro w1 hw1; have hb1 := below_of_plus hw1; clear hw1; obtain ⟨⟨hc1, hf1, hs1⟩, hz1⟩ := after hb1; (try simp only [World.size_alloc, World.size_setCell, World.size_drew] at hz1))
          go_wp2
          go_roundw
          case rel => exact ⟨k + 1, by omega, by go_num, by (repeat (first | exact Below.refl _ _ | refine Below.setCell ?_ (by first | omega | (simp; omega) | (simp; done)) _ | refine Below.alloc ?_ (by first | omega | (simp; omega) | (simp; done)) _ | refine Below.drew ?_ | refine below_drewN ?_ _ | refine Below.trans ?_ (Below.mono (by assumption) (by first | omega | (simp; omega) | (simp; done))))), .inl ⟨rfl, hst⟩⟩
          case measure => simp [intOf]; omega
      · obtain rfl : k = l.length := by omega
        have E : Hid (decide (l = m) = true) := by
          have := heq.out
          rw [List.take_length, hle, List.take_length] at this
          unfold Hid
          simp [this]
        go_wp2
        go_ret
        refine ⟨retB E.out.symm, ?_⟩
        exact hB
    · go_wp2
      go_ret
      refine ⟨retB hbad.out.symm, ?_⟩
      exact hB
end Go.Proofs.YtomgnpfpaodpiaaDoor

/- Contracts of slices.Clone and floor.with. -/
namespace Go.Proofs.YtomgnpfpaodpiaaDoor
open Go Go.RowKit
set_option maxHeartbeats 2000000
abbrev flatSl (l : List SSlip) : List Value := l.flatMap SSlip.cells
theorem info_slip : (Tryd.prog.info? 52).map (fun i => (i.zero, i.size, i.bytes)) = some (some (.agg #[.slice none 0 0, vi 0]), 2, 32) := by kernel_rfl
theorem slips_two (l : List SSlip) : ∀ r ∈ l.map SSlip.cells, r.length = 2 := fun r hr => by
  obtain ⟨s, _, rfl⟩ := List.mem_map.1 hr
  rfl
theorem own_empty (w : World) (e : TypeId) (sz : Nat) : (w.alloc (.cells #[] e)).ownsRow w.heap.size e sz (.slice (some ⟨w.heap.size, 0, none⟩) 0 0) 0 [] :=
  ⟨by simp, .inr ⟨w.heap.size, 0, #[], rfl, Nat.le_refl _, World.alloc_heap_new w _, Nat.le_refl _, by simp [maxLen], by simp, by simp⟩⟩
theorem row_cells {w : World} {B sz : Nat} {b off : Nat} {rows : List (List Value)} (h : RowAt w B sz (some ⟨b, off, none⟩) rows) (hsz : ∀ r ∈ rows, r.length = sz) (hp : 0 < sz) (h0 : 0 < rows.length) : ∀ j u, rows.flatten[j]? = some u → w.cell? ((⟨b, off, none⟩ : Addr).add j) = some u := by
  intro j u hj
  obtain ⟨b', off', hA, _, hc⟩ := h h0
  cases hA
  have hlt := (List.getElem?_eq_some_iff.1 hj).1
  rw [flat_len rows hsz] at hlt
  have hi : j / sz < rows.length := Nat.div_lt_of_lt_mul (by rw [Nat.mul_comm]; exact hlt)
  have hr : rows[j / sz]? = some rows[j / sz] := List.getElem?_eq_getElem hi
  have hrl := hsz _ (List.getElem_mem hi)
  have hm := Nat.mod_lt j hp
  have hu : rows[j / sz][j % sz]? = some rows[j / sz][j % sz] := List.getElem?_eq_getElem (by omega)
  have hf := flat_at rows hsz _ _ hr _ _ hm hu
  rw [Nat.div_add_mod' j sz, hj] at hf
  have := hc _ _ hr _ _ hm hu
  have e : off + j / sz * sz + j % sz = off + j := by rw [Nat.add_assoc, Nat.div_add_mod']
  rw [e] at this
  cases hf
  have ea : (⟨b, off, none⟩ : Addr).add j = ⟨b, off + j, none⟩ := by unfold Addr.add; split <;> simp_all
  rw [ea]
  exact this
set_option maxRecDepth 100000 in
theorem clone_any (A : Option Addr) (cap : Nat) (l : List SSlip) (h1 : 1 ≤ l.length) (h9 : l.length ≤ 1000) (w : World) (h : RowsAt w w.heap.size 2 A cap (l.map SSlip.cells)) :
    Calls Tryd.prog 110 #[.slice A l.length cap] w fun e w' => ∃ g c rest, e = .returned (.slice (some ⟨g, 0, none⟩) l.length c) ∧ l.length ≤ c ∧ c ≤ maxLen ∧ w.heap.size ≤ g ∧ CellsBox w' g 52 (flatSl l ++ rest) ∧ Below w.heap.size w w' := by
  obtain ⟨i0, hi, hy0, hy1, hy2⟩ := info_parts info_slip
  obtain ⟨b, off, rfl, hb, -⟩ := h.row (by simp; omega)
  have hnews := row_cells h.row (slips_two l) (by omega) (by simp; omega)
  have HN := Lib.hid hnews
  have hfl : (l.map SSlip.cells).flatten.length = l.length * 2 := by rw [flat_len _ (slips_two l)]; simp
  have HFL := Lib.hid hfl
  clear hnews hfl
  go_enter Tryd.func110, Tryd.ntmps110
  have hl0 : (0 : Int) < l.length := by omega
  have hle := h.lens
  have heq : ∀ w : World, (binOp .eql 26 (.slice (some ⟨b, off, none⟩) l.length cap) (.slice none 0 0)).run Tryd.prog w = .ok (.bool false) w := fun w => by (show (_ : Result _) = _); kernel_rfl
  go_wp2_with (at_builtin; go_loud (refine wpList_append_own _ rfl _ _ 26 rfl w.heap.size 52 i0 (.agg #[.slice none 0 0, vi 0]) 2 32 Tryd.underlying26 hi hy0 hy1 hy2 rfl (by decide) _ _ _ rfl (own_empty w _ _) ⟨b, off, none⟩ l.length cap (l.map SSlip.cells).flatten rfl HFL.out (fun j u hj => cell_alloc (HN.out j u hj) _) (by intro u hu; simp only [List.mem_flatten, List.mem_map] at hu; obtain ⟨r, ⟨s, _, rfl⟩, hu⟩ := hu; simp only [SSlip.cells, List.mem_cons, List.mem_nil_iff, or_false] at hu; rcases hu with rfl | rfl <;> rfl) (by unfold maxLen; omega) (by omega) (by simp) ?_; intro v5 w5 hown5 hgrow5 _))
  have hB5 : Below w.heap.size w w5 := Below.grown ((Below.refl w.heap.size w).alloc (Nat.le_refl _) _) hgrow5 (by simp) (fun k e => by
    have e2 : some w.heap.size = some k := e
    cases e2; exact Nat.le_refl _)
  rw [Nat.zero_add, List.nil_append] at hown5
  rcases hown5.2 with ⟨_, e0⟩ | ⟨g, c, cur, rfl, g1, g2, g3, g4, g5, g6⟩
  · omega
  · go_ret
    refine ⟨g, c, (cur.toList.drop (l.length * 2)), rfl, g3, g4, g1, ?_, hB5⟩
    unfold CellsBox
    rw [g2]
    have e : flatSl l ++ cur.toList.drop (l.length * 2) = cur.toList := by
      have : flatSl l = cur.toList.take (l.length * 2) := by rw [g6, flatSl, List.flatMap_def]
      rw [this, List.take_append_drop]
    rw [e]
/-- the floor with another Until of a slip -/
def withF (f : Floor) (A : Option Addr) (C : Nat) (k : Nat) (u : Int) : Floor := { f with sA := A, sC := C, slips := f.slips.modify k fun s => { s with till := u } }
theorem flatSl_at : ∀ (l : List SSlip) (k : Nat) (s : SSlip), l[k]? = some s → (flatSl l)[k * 2]? = some s.slice ∧ (flatSl l)[k * 2 + 1]? = some (vi s.till)
  | [], _, _, h => by simp at h
  | a :: l, 0, s, h => by simp at h; subst h; simp [flatSl, SSlip.cells]
  | a :: l, k + 1, s, h => by
    have ih := flatSl_at l k s (by simpa using h)
    have e2 : flatSl (a :: l) = a.slice :: vi a.till :: flatSl l := rfl
    rw [e2, show (k + 1) * 2 = k * 2 + 1 + 1 by omega]
    simpa using ih
theorem flatSl_len (l : List SSlip) : (flatSl l).length = l.length * 2 := by
  have := flat_len _ (slips_two l)
  rw [List.length_map] at this
  rw [flatSl, List.flatMap_def, this]
theorem flatSl_set : ∀ (l : List SSlip) (k : Nat) (u : Int), k < l.length → flatSl (l.modify k fun s => { s with till := u }) = (flatSl l).set (k * 2 + 1) (vi u)
  | [], _, _, h => by simp at h
  | a :: l, 0, u, _ => by simp [flatSl, SSlip.cells, List.modify]
  | a :: l, k + 1, u, h => by
    have ih := flatSl_set l k u (by simpa using h)
    have e2 : flatSl (a :: l) = a.slice :: vi a.till :: flatSl l := rfl
    have e1 : flatSl ((a :: l).modify (k + 1) fun s => { s with till := u }) = a.slice :: vi a.till :: flatSl (l.modify k fun s => { s with till := u }) := rfl
    rw [e1, e2, ih, show (k + 1) * 2 + 1 = (k * 2 + 1) + 1 + 1 by omega]
    simp
theorem slips_of_box {w : World} {g c : Nat} {l : List SSlip} {rest : List Value} (h : CellsBox w g 52 (flatSl l ++ rest)) (hc : l.length ≤ c) (hm : c ≤ maxLen) (h9 : l.length ≤ 35184372088832) : RowsAt w w.heap.size 2 (some ⟨g, 0, none⟩) c (l.map SSlip.cells) := by
  refine ⟨by simpa using hc, by have := hm; unfold maxLen at this; omega, by simpa using h9, fun _ => ⟨g, 0, rfl, h.lt, fun i r hr j u hj hu => ?_⟩⟩
  have := flat_at (sz := 2) (l.map SSlip.cells) (slips_two l) i r hr j u hj hu
  rw [Nat.zero_add]
  refine h.cell ?_
  have hlt := (List.getElem?_eq_some_iff.1 this).1
  rw [List.getElem?_append_left (by rw [flatSl, List.flatMap_def]; exact hlt), flatSl, List.flatMap_def]
  exact this
theorem with_rows {w w' : World} {f : Floor} {g c k : Nat} {u : Int} {rest : List Value} (h : FloorAt w w.heap.size f) (hb : Below w.heap.size w w') (hx : CellsBox w' g 52 (flatSl (f.slips.modify k fun s => { s with till := u }) ++ rest)) (hc : f.slips.length ≤ c) (hm : c ≤ maxLen) (h9 : f.slips.length ≤ 9) : FloorAt w' w'.heap.size (withF f (some ⟨g, 0, none⟩) c k u) := by
  have h' := h.to hb
  refine ⟨h'.far, h'.picks, slips_of_box hx (by simp only [withF, List.length_modify]; exact hc) hm (by simp only [withF, List.length_modify]; omega), fun s hs => ?_⟩
  have : ∃ s0 ∈ f.slips, s.ad = s0.ad ∧ s.cap = s0.cap ∧ s.lines = s0.lines := by
    simp only [withF] at hs
    obtain ⟨i, hi, rfl⟩ := List.mem_iff_getElem.1 hs
    rw [List.getElem_modify]
    have hi2 : i < f.slips.length := by simpa using hi
    refine ⟨f.slips[i], List.getElem_mem hi2, ?_⟩
    split <;> exact ⟨rfl, rfl, rfl⟩
  obtain ⟨s0, h0, e1, e2, e3⟩ := this
  have := h'.each s0 h0
  rw [e1, e2, e3]
  exact this
set_option maxRecDepth 100000 in
theorem with_any (f : Floor) (k : Nat) (s : SSlip) (hs : f.slips[k]? = some s) (h9 : f.slips.length ≤ 9) (u : Int) (w : World) (h : FloorAt w w.heap.size f) :
    Calls Tryd.prog 80 #[f.val, vi k, vi u] w fun e w' => ∃ g c, e = .returned (withF f (some ⟨g, 0, none⟩) c k u).val ∧ FloorAt w' w'.heap.size (withF f (some ⟨g, 0, none⟩) c k u) ∧ Below w.heap.size w w' := by
  have hk := (List.getElem?_eq_some_iff.1 hs).1
  have HF := Lib.hid h
  have CL := Lib.hid (fun (W : World) hW => clone_any f.sA f.sC f.slips (by omega) (by omega) W hW)
  have HWR := Lib.hid (fun (w' : World) (g c : Nat) (rest : List Value) (hb : Below w.heap.size w w') hx hc hm => with_rows (k := k) (u := u) (rest := rest) (g := g) (c := c) h hb hx hc hm h9)
  have hat := flatSl_at f.slips k s hs
  have HAT := Lib.hid hat
  have HSET := Lib.hid (flatSl_set f.slips k u hk)
  have hfl := flatSl_len f.slips
  have HLEN := Lib.hid hfl
  have hkI : (k : Int) < f.slips.length := by omega
  have h0k : (0 : Int) ≤ k := by omega
  clear h hs hat hfl
  go_enter Tryd.func80, Tryd.ntmps80
  go_wp2_with fail
  refine (CL.out _ (HF.out.slips.to (by (repeat (first | exact Below.refl _ _ | refine Below.setCell ?_ (by first | omega | (simp; omega) | (simp; done)) _ | refine Below.alloc ?_ (by first | omega | (simp; omega) | (simp; done)) _ | refine Below.drew ?_ | refine below_drewN ?_ _ | refine Below.trans ?_ (Below.mono (by assumption) (by first | omega | (simp; omega) | (simp; done)))))))).mono ?_
  rintro e W ⟨g, c, rest, rfl, hc1, hc2, hg, hX, hb⟩
  have HB0 : Below w.heap.size w W := by (repeat (first | exact Below.refl _ _ | refine Below.setCell ?_ (by first | omega | (simp; omega) | (simp; done)) _ | refine Below.alloc ?_ (by first | omega | (simp; omega) | (simp; done)) _ | refine Below.drew ?_ | refine below_drewN ?_ _ | refine Below.trans ?_ (Below.mono (by assumption) (by first | omega | (simp; omega) | (simp; done)))))
  have XF : Hid (CellsBox W w.heap.size 89 f.cells) := ((CellsBox.new w 89 f.cells).alloc _).keep hb
  have XR0 := CellsBox.new (w.alloc (.cells f.cells.toArray 89)) 89 [.slice none 0 0, vi 0, vi 0, .slice none 0 0, vi 0, .slice none 0 0]
  rw [World.size_alloc] at XR0
  have XR : Hid (CellsBox W (w.heap.size + 1) 89 [.slice none 0 0, vi 0, vi 0, .slice none 0 0, vi 0, .slice none 0 0]) := XR0.keep hb
  have HX := Lib.hid hX
  simp only [World.size_alloc] at hg
  have hzW := hb.size
  simp only [World.size_alloc] at hzW
  clear hb hX XR0
  have a0 := XF.out.cell (j := 0) rfl
  have a1 := XF.out.cell (j := 1) rfl
  have a2 := XF.out.cell (j := 2) rfl
  have a3 := XF.out.cell (j := 3) rfl
  have a4 := XF.out.cell (j := 4) rfl
  have a5 := XF.out.cell (j := 5) rfl
  have f5 := XF.out.frozen 5
  have zF := XF.out.lt
  have zR := XR.out.lt
  have zX := HX.out.lt
  have x1 : W.cell? ⟨g, 0 + (k * 2 + 1), none⟩ = some (vi s.till) := by
    rw [Nat.zero_add]
    exact HX.out.cell (by rw [List.getElem?_append_left (by rw [HLEN.out]; omega)]; exact HAT.out.2)
  rw [Nat.zero_add] at x1
  have y1 := HX.out.frozen (k * 2 + 1)
  have r0 := XR.out.cell (j := 0) rfl
  have r1 := XR.out.cell (j := 1) rfl
  have r2 := XR.out.cell (j := 2) rfl
  have r3 := XR.out.cell (j := 3) rfl
  have r4 := XR.out.cell (j := 4) rfl
  have r5 := XR.out.cell (j := 5) rfl
  have q0 := XR.out.frozen 0
  have q1 := XR.out.frozen 1
  have q2 := XR.out.frozen 2
  have q3 := XR.out.frozen 3
  have q4 := XR.out.frozen 4
  have q5 := XR.out.frozen 5
  have ngF : g ≠ w.heap.size := by omega
  have ngR : g ≠ w.heap.size + 1 := by omega
  have NX := Lib.hid ((((((((HX.out.apart ⟨w.heap.size, 5, none⟩ (.slice (some ⟨g, 0, none⟩) f.slips.length c) (by simp only; omega)).store (k * 2 + 1) (vi u)).apart ⟨w.heap.size + 1, 0, none⟩ (.slice f.fA f.far.length f.fC) (by simp only; omega)).apart ⟨w.heap.size + 1, 1, none⟩ (vi f.slo) (by simp only; omega)).apart ⟨w.heap.size + 1, 2, none⟩ (vi f.shi) (by simp only; omega)).apart ⟨w.heap.size + 1, 3, none⟩ (.slice f.pA f.picks.length f.pC) (by simp only; omega)).apart ⟨w.heap.size + 1, 4, none⟩ (vi f.carry) (by simp only; omega)).apart ⟨w.heap.size + 1, 5, none⟩ (.slice (some ⟨g, 0, none⟩) f.slips.length c) (by simp only; omega))
  have NR := Lib.hid ((((((((XR.out.apart ⟨w.heap.size, 5, none⟩ (.slice (some ⟨g, 0, none⟩) f.slips.length c) (by simp only; omega)).apart ⟨g, k * 2 + 1, none⟩ (vi u) (by simp only; omega)).store 0 (.slice f.fA f.far.length f.fC)).store 1 (vi f.slo)).store 2 (vi f.shi)).store 3 (.slice f.pA f.picks.length f.pC)).store 4 (vi f.carry)).store 5 (.slice (some ⟨g, 0, none⟩) f.slips.length c))
  have NB := Lib.hid ((((((((HB0.setCell (p := ⟨w.heap.size, 5, none⟩) (by simp only; omega) (.slice (some ⟨g, 0, none⟩) f.slips.length c)).setCell (p := ⟨g, k * 2 + 1, none⟩) (by simp only; omega) (vi u)).setCell (p := ⟨w.heap.size + 1, 0, none⟩) (by simp only; omega) (.slice f.fA f.far.length f.fC)).setCell (p := ⟨w.heap.size + 1, 1, none⟩) (by simp only; omega) (vi f.slo)).setCell (p := ⟨w.heap.size + 1, 2, none⟩) (by simp only; omega) (vi f.shi)).setCell (p := ⟨w.heap.size + 1, 3, none⟩) (by simp only; omega) (.slice f.pA f.picks.length f.pC)).setCell (p := ⟨w.heap.size + 1, 4, none⟩) (by simp only; omega) (vi f.carry)).setCell (p := ⟨w.heap.size + 1, 5, none⟩) (by simp only; omega) (.slice (some ⟨g, 0, none⟩) f.slips.length c))
  go_wp2_with fail
  refine (?_ : ∀ Z : World, CellsBox Z g 52 ((flatSl f.slips ++ rest).set (k * 2 + 1) (vi u)) → CellsBox Z (w.heap.size + 1) 89 [.slice f.fA f.far.length f.fC, vi f.slo, vi f.shi, .slice f.pA f.picks.length f.pC, vi f.carry, .slice (some ⟨g, 0, none⟩) f.slips.length c] → Below w.heap.size w Z → bodyPost _ _ _ _ _ Z) _ NX.out NR.out NB.out
  clear a0 a1 a2 a3 a4 a5 r0 r1 r2 r3 r4 r5 q0 q1 q2 q3 q4 q5 x1 y1 f5 NX NR NB
  intro Z ZX ZR ZB
  have r0 := ZR.cell (j := 0) rfl
  have r1 := ZR.cell (j := 1) rfl
  have r2 := ZR.cell (j := 2) rfl
  have r3 := ZR.cell (j := 3) rfl
  have r4 := ZR.cell (j := 4) rfl
  have r5 := ZR.cell (j := 5) rfl
  refine bodyPost_ret (v := .agg #[.slice f.fA f.far.length f.fC, vi f.slo, vi f.shi, .slice f.pA f.picks.length f.pC, vi f.carry, .slice (some ⟨g, 0, none⟩) f.slips.length c]) (by simp [results, Tryd.results80, go_sem, r0, r1, r2, r3, r4, r5]) rfl ⟨g, c, ?_, HWR.out Z g c rest ZB ?_ hc1 hc2, ZB⟩
  · simp [withF]
  · rw [List.set_append_left _ _ (by rw [HLEN.out]; omega)] at ZX
    rw [HSET.out]
    exact ZX
end Go.Proofs.YtomgnpfpaodpiaaDoor

