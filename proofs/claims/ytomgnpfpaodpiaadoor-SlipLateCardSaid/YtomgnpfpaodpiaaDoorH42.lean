/- Contracts of the specification's Steps and Takes. -/
import Derived.Test.YtomgnpfpaodpiaaDoorH41
import Derived.Test.YtomgnpfpaodpiaaDoorH09
import Derived.Test.YtomgnpfpaodpiaaDoorH27
import Derived.Test.YtomgnpfpaodpiaaDoorH34
import Derived.Laws.AppendOwn
set_option linter.unusedVariables false
set_option linter.unusedSimpArgs false
namespace Go.Proofs.YtomgnpfpaodpiaaDoor
open Go Go.RowKit
set_option maxHeartbeats 4000000
def rStepsV (f : Floor) (n : Int) : Int := if checkSlipV f n = 0 then (match f.slips[n.toNat]? with | some s => rstepsF f s | none => 0) else 0
def rTakesV (f : Floor) (n : Int) : Int × Int := if checkSlipV f n = 0 then (match f.slips[n.toNat]? with | some s => rtakesF f s | none => (0, 0)) else (0, 0)
set_option maxRecDepth 100000 in
theorem rSteps_any (f : Floor) (n : Int) (w : World) (h : FloorAt w w.heap.size f) :
    Calls Tryd.prog 19 #[f.val, vi n] w fun e w' => e = .returned (.tuple #[vi (rStepsV f n), vi (checkSlipV f n)]) ∧ Below w.heap.size w w' := by
  have HF := Lib.hid h
  have h3l := h.slips.lens
  obtain ⟨b, hb⟩ : ∃ b, slipB f n = b := ⟨_, rfl⟩
  have IS := Lib.hid (fun (W : World) => isSlip_is hb W h3l.2)
  obtain ⟨c, hc⟩ : ∃ c, checkSlipV f n = c := ⟨_, rfl⟩
  have AS := Lib.hid (fun (W : World) hW => asked_is (b := b) (e := c) (by rw [← hb, asked_slip, hc]) W hW)
  have X0 := CellsBox.new w 28 f.cells
  have HX := Lib.hid X0
  have hb0 : Below w.heap.size w (w.alloc (.cells f.cells.toArray 28)) := below1 _ _
  have a0 := X0.cell (j := 0) rfl
  have a1 := X0.cell (j := 1) rfl
  have a2 := X0.cell (j := 2) rfl
  have a3 := X0.cell (j := 3) rfl
  have a4 := X0.cell (j := 4) rfl
  have a5 := X0.cell (j := 5) rfl
  have za := X0.lt
  obtain ⟨V, hV⟩ : ∃ V, V = w.alloc (.cells f.cells.toArray 28) := ⟨_, rfl⟩
  rw [← hV] at X0 hb0 a0 a1 a2 a3 a4 a5 za HX
  have hFV : Hid (FloorAt V V.heap.size f) := HF.out.to hb0
  rcases check_cases f n with hbad | ⟨h0, hv, k, s, rfl, hs⟩
  · have hne : c ≠ 0 := by omega
    have hnb : (c != 0) = true := by simp; exact hne
    have E : Hid (rStepsV f n = 0) := by unfold Hid rStepsV; rw [if_neg (by omega)]
    obtain ⟨an, han⟩ : ∃ an, an = rStepsV f n := ⟨_, rfl⟩
    rw [← han] at E ⊢
    rw [hc]
    clear hbad hne hb hc han h X0
    show Calls Tryd.prog 19 #[.agg #[.slice f.fA f.far.length f.fC, vi f.slo, vi f.shi, .slice f.pA f.picks.length f.pC, vi f.carry, .slice f.sA f.slips.length f.sC], vi n] w _
    go_enter Tryd.func19, Tryd.ntmps19
    go_wp2_with fail
    rw [← show V = w.alloc (.cells #[.slice f.fA f.far.length f.fC, vi f.slo, vi f.shi, .slice f.pA f.picks.length f.pC, vi f.carry, .slice f.sA f.slips.length f.sC] 28) from hV]
    clear hV
    (refine wp_region_grow_lit (by kernel_rfl) (by kernel_rfl) ?_; (repeat (go_big_quiet_step (first | (go_at_call 55; refine Calls.grow_of (IS.out _)) | (go_at_call 54; refine Calls.grow_of (AS.out _ (hFV.out.to (plus_below _ _))))))); refine wpQuiet_nil ?_; intro w1 hw1; have hb1 := below_of_plus hw1; clear hw1; obtain ⟨⟨hc1, hf1, hs1⟩, hz1⟩ := after hb1; (try simp only [World.size_alloc, World.size_setCell, World.size_drew] at hz1))
    have HB1 : Below w.heap.size w w1 := hb0.trans (hb1.mono hb0.size)
    clear hb1 hc1 hf1 hs1 hz1 a0 a1 a2 a3 a4 a5 za
    go_wp2_with fail
    go_ret2
    exact ⟨by rw [E.out]; rfl, HB1⟩
  · rw [h0] at hc
    subst hc
    have hf := fine hv
    have ST := Lib.hid (fun (X : World) hX => rsteps_any f hv k s hs X hX)
    have E : Hid (rStepsV f k = rstepsF f s) := by unfold Hid rStepsV; rw [if_pos h0, Int.toNat_natCast, hs]
    obtain ⟨an, han⟩ : ∃ an, an = rstepsF f s := ⟨_, rfl⟩
    rw [← han] at ST E
    rw [E.out, h0]
    clear h0 hs hv hb h X0 han hf
    show Calls Tryd.prog 19 #[.agg #[.slice f.fA f.far.length f.fC, vi f.slo, vi f.shi, .slice f.pA f.picks.length f.pC, vi f.carry, .slice f.sA f.slips.length f.sC], vi k] w _
    go_enter Tryd.func19, Tryd.ntmps19
    go_wp2_with fail
    rw [← show V = w.alloc (.cells #[.slice f.fA f.far.length f.fC, vi f.slo, vi f.shi, .slice f.pA f.picks.length f.pC, vi f.carry, .slice f.sA f.slips.length f.sC] 28) from hV]
    clear hV
    (refine wp_region_grow_lit (by kernel_rfl) (by kernel_rfl) ?_; (repeat (go_big_quiet_step (first | (go_at_call 55; refine Calls.grow_of (IS.out _)) | (go_at_call 54; refine Calls.grow_of (AS.out _ (hFV.out.to (plus_below _ _))))))); refine wpQuiet_nil ?_; intro w1 hw1; have hb1 := below_of_plus hw1; clear hw1; obtain ⟨⟨hc1, hf1, hs1⟩, hz1⟩ := after hb1; (try simp only [World.size_alloc, World.size_setCell, World.size_drew] at hz1))
    have HB1 : Below w.heap.size w w1 := hb0.trans (hb1.mono hb0.size)
    have HX1 := HX.out.keep hb1
    have HF1 := Lib.hid (hFV.out.to hb1)
    have c0 := HX1.cell (j := 0) rfl
    have c1 := HX1.cell (j := 1) rfl
    have c2 := HX1.cell (j := 2) rfl
    have c3 := HX1.cell (j := 3) rfl
    have c4 := HX1.cell (j := 4) rfl
    have c5 := HX1.cell (j := 5) rfl
    have zc := HX1.lt
    clear hb1 hc1 hf1 hs1 hz1 a0 a1 a2 a3 a4 a5 za HX1
    go_wp2_with fail
    refine (ST.out _ HF1.out).mono ?_
    rintro e w2 ⟨rfl, hb2⟩
    have HB2 : Below w.heap.size w w2 := HB1.trans (hb2.mono HB1.size)
    clear hb2 c0 c1 c2 c3 c4 c5 zc
    go_wp2_with fail
    go_ret2
    exact ⟨rfl, HB2⟩
set_option maxRecDepth 100000 in
theorem rTakes_any (f : Floor) (n : Int) (w : World) (h : FloorAt w w.heap.size f) :
    Calls Tryd.prog 21 #[f.val, vi n] w fun e w' => e = .returned (.tuple #[spanV (rTakesV f n), vi (checkSlipV f n)]) ∧ Below w.heap.size w w' := by
  have HF := Lib.hid h
  have h3l := h.slips.lens
  obtain ⟨b, hb⟩ : ∃ b, slipB f n = b := ⟨_, rfl⟩
  have IS := Lib.hid (fun (W : World) => isSlip_is hb W h3l.2)
  obtain ⟨c, hc⟩ : ∃ c, checkSlipV f n = c := ⟨_, rfl⟩
  have AS := Lib.hid (fun (W : World) hW => asked_is (b := b) (e := c) (by rw [← hb, asked_slip, hc]) W hW)
  have X0 := (CellsBox.new w 28 f.cells).alloc (.cells #[vi 0, vi 0] 24)
  have XR0 := CellsBox.new (w.alloc (.cells f.cells.toArray 28)) 24 [vi 0, vi 0]
  rw [World.size_alloc] at XR0
  have HX := Lib.hid X0
  have hb0 : Below w.heap.size w ((w.alloc (.cells f.cells.toArray 28)).alloc (.cells #[vi 0, vi 0] 24)) := below2 _ _ _
  have a0 := X0.cell (j := 0) rfl
  have a1 := X0.cell (j := 1) rfl
  have a2 := X0.cell (j := 2) rfl
  have a3 := X0.cell (j := 3) rfl
  have a4 := X0.cell (j := 4) rfl
  have a5 := X0.cell (j := 5) rfl
  have za := X0.lt
  obtain ⟨V, hV⟩ : ∃ V, V = (w.alloc (.cells f.cells.toArray 28)).alloc (.cells #[vi 0, vi 0] 24) := ⟨_, rfl⟩
  rw [← hV] at X0 hb0 a0 a1 a2 a3 a4 a5 za HX XR0
  have HR := Lib.hid XR0
  clear XR0
  have hFV : Hid (FloorAt V V.heap.size f) := HF.out.to hb0
  rcases check_cases f n with hbad | ⟨h0, hv, k, s, rfl, hs⟩
  · have hne : c ≠ 0 := by omega
    have hnb : (c != 0) = true := by simp; exact hne
    have E : Hid (rTakesV f n = (0, 0)) := by unfold Hid rTakesV; rw [if_neg (by omega)]
    obtain ⟨an, han⟩ : ∃ an, an = rTakesV f n := ⟨_, rfl⟩
    rw [← han] at E ⊢
    rw [hc]
    clear hbad hne hb hc han h X0
    show Calls Tryd.prog 21 #[.agg #[.slice f.fA f.far.length f.fC, vi f.slo, vi f.shi, .slice f.pA f.picks.length f.pC, vi f.carry, .slice f.sA f.slips.length f.sC], vi n] w _
    go_enter Tryd.func21, Tryd.ntmps21
    go_wp2_with fail
    rw [← show V = (w.alloc (.cells #[.slice f.fA f.far.length f.fC, vi f.slo, vi f.shi, .slice f.pA f.picks.length f.pC, vi f.carry, .slice f.sA f.slips.length f.sC] 28)).alloc (.cells #[vi 0, vi 0] 24) from hV]
    clear hV
    (refine wp_region_grow_lit (by kernel_rfl) (by kernel_rfl) ?_; (repeat (go_big_quiet_step (first | (go_at_call 55; refine Calls.grow_of (IS.out _)) | (go_at_call 54; refine Calls.grow_of (AS.out _ (hFV.out.to (plus_below _ _))))))); refine wpQuiet_nil ?_; intro w1 hw1; have hb1 := below_of_plus hw1; clear hw1; obtain ⟨⟨hc1, hf1, hs1⟩, hz1⟩ := after hb1; (try simp only [World.size_alloc, World.size_setCell, World.size_drew] at hz1))
    have HB1 : Below w.heap.size w w1 := hb0.trans (hb1.mono hb0.size)
    have HR1 := HR.out.keep hb1
    have r0 := HR1.cell (j := 0) rfl
    have r1 := HR1.cell (j := 1) rfl
    have e0 := HR1.frozen 0
    have e1 := HR1.frozen 1
    have zr := HR1.lt
    clear hb1 hc1 hf1 hs1 hz1 a0 a1 a2 a3 a4 a5 za
    go_wp2_with fail
    have Z1 := (HR1.store 0 (vi 0)).store 1 (vi 0)
    have o0 := Z1.cell (j := 0) rfl
    have o1 := Z1.cell (j := 1) rfl
    refine bodyPost_ret (v := .tuple #[.agg #[vi 0, vi 0], vi c]) (by simp [results, Tryd.results21, go_sem, o0, o1]) rfl ?_
    exact ⟨by rw [E.out], (HB1.setCell (by simp) _).setCell (by simp) _⟩
  · rw [h0] at hc
    subst hc
    have hf := fine hv
    have ST := Lib.hid (fun (X : World) hX => rtakes_any f hv k s hs X hX)
    have E : Hid (rTakesV f k = rtakesF f s) := by unfold Hid rTakesV; rw [if_pos h0, Int.toNat_natCast, hs]
    obtain ⟨an, han⟩ : ∃ an, an = rtakesF f s := ⟨_, rfl⟩
    rw [← han] at ST E
    rw [E.out, h0]
    clear h0 hs hv hb h X0 han hf
    show Calls Tryd.prog 21 #[.agg #[.slice f.fA f.far.length f.fC, vi f.slo, vi f.shi, .slice f.pA f.picks.length f.pC, vi f.carry, .slice f.sA f.slips.length f.sC], vi k] w _
    go_enter Tryd.func21, Tryd.ntmps21
    go_wp2_with fail
    rw [← show V = (w.alloc (.cells #[.slice f.fA f.far.length f.fC, vi f.slo, vi f.shi, .slice f.pA f.picks.length f.pC, vi f.carry, .slice f.sA f.slips.length f.sC] 28)).alloc (.cells #[vi 0, vi 0] 24) from hV]
    clear hV
    (refine wp_region_grow_lit (by kernel_rfl) (by kernel_rfl) ?_; (repeat (go_big_quiet_step (first | (go_at_call 55; refine Calls.grow_of (IS.out _)) | (go_at_call 54; refine Calls.grow_of (AS.out _ (hFV.out.to (plus_below _ _))))))); refine wpQuiet_nil ?_; intro w1 hw1; have hb1 := below_of_plus hw1; clear hw1; obtain ⟨⟨hc1, hf1, hs1⟩, hz1⟩ := after hb1; (try simp only [World.size_alloc, World.size_setCell, World.size_drew] at hz1))
    have HB1 : Below w.heap.size w w1 := hb0.trans (hb1.mono hb0.size)
    have HX1 := HX.out.keep hb1
    have HB01 := hb1
    have HF1 := Lib.hid (hFV.out.to hb1)
    have c0 := HX1.cell (j := 0) rfl
    have c1 := HX1.cell (j := 1) rfl
    have c2 := HX1.cell (j := 2) rfl
    have c3 := HX1.cell (j := 3) rfl
    have c4 := HX1.cell (j := 4) rfl
    have c5 := HX1.cell (j := 5) rfl
    have zc := HX1.lt
    clear hb1 hc1 hf1 hs1 hz1 a0 a1 a2 a3 a4 a5 za HX1
    go_wp2_with fail
    refine (ST.out _ HF1.out).mono ?_
    rintro e w2 ⟨rfl, hb2⟩
    have HB2 : Below w.heap.size w w2 := HB1.trans (hb2.mono HB1.size)
    have HR1 := (HR.out.keep HB01).keep hb2
    have r0 := HR1.cell (j := 0) rfl
    have r1 := HR1.cell (j := 1) rfl
    have e0 := HR1.frozen 0
    have e1 := HR1.frozen 1
    have zr := HR1.lt
    clear hb2 c0 c1 c2 c3 c4 c5 zc
    obtain ⟨u, v⟩ := an
    go_wp2_with fail
    have Z1 := (HR1.store 0 (vi u)).store 1 (vi v)
    have o0 := Z1.cell (j := 0) rfl
    have o1 := Z1.cell (j := 1) rfl
    refine bodyPost_ret (v := .tuple #[.agg #[vi u, vi v], vi 0]) (by simp [results, Tryd.results21, go_sem, o0, o1]) rfl ?_
    exact ⟨rfl, (HB2.setCell (by simp) _).setCell (by simp) _⟩
end Go.Proofs.YtomgnpfpaodpiaaDoor

/- Contracts of what specifications share: Spin, Lot, Take, Place, Climbs, In, Of, Total, Ahead. -/
namespace Go.Proofs.YtomgnpfpaodpiaaDoor
open Go Go.RowKit
set_option maxHeartbeats 2000000
theorem findIdx_step {α : Type} {p : α → Bool} {l : List α} {k : Nat} {x : α} (h : ∀ y, y ∈ l.take k → p y = false) (hx : l[k]? = some x) (hp : p x = true) : l.findIdx? p = some k := by
  obtain ⟨hk, rfl⟩ := List.getElem?_eq_some_iff.1 hx
  rw [List.findIdx?_eq_some_iff_getElem]
  refine ⟨hk, hp, fun j hj => ?_⟩
  have := h l[j] (by rw [List.mem_take_iff_getElem]; exact ⟨j, by omega, rfl⟩)
  simp [this]
theorem take_step {α : Type} {p : α → Bool} {l : List α} {k : Nat} {x : α} (h : ∀ y, y ∈ l.take k → p y = false) (hx : l[k]? = some x) (hp : p x = false) : ∀ y, y ∈ l.take (k + 1) → p y = false := by
  obtain ⟨hk, rfl⟩ := List.getElem?_eq_some_iff.1 hx
  intro y hy
  rw [List.take_succ_eq_append_getElem hk] at hy
  rcases List.mem_append.1 hy with h1 | h1
  · exact h y h1
  · obtain rfl : y = l[k] := by simpa using h1
    exact hp
theorem spin_any (n m : Int) (w : World) (h0 : -9223372036854775808 ≤ n) (h1 : n ≤ 9223372036854775807) (h2 : m ≤ 9223372036854775807) :
    Calls Tryd.prog 36 #[vi n, vi m] w fun e w' => e = .returned (vi (spinI n m)) ∧ w = w' := by
  by_cases hm : m < 1
  · have E : Hid (spinI n m = 0) := if_pos hm
    go_enter Tryd.func36, Tryd.ntmps36
    go_wp2
    go_ret
    exact ⟨retI (by rw [E.out]), rfl⟩
  · have ha := Int.emod_nonneg n (b := m) (by omega)
    have hb := Int.emod_lt_of_pos n (b := m) (by omega)
    have E0 : Hid (spinI n m = n % m) := if_neg hm
    by_cases hk : n.tmod m < 0
    · have e := spin_neg (by omega) hk
      have E : Hid (wrap64 (n.tmod m + m) = n % m) := by rw [e]; exact IntWalk.wrap64_in _ ⟨by omega, by omega⟩
      clear e
      go_enter Tryd.func36, Tryd.ntmps36
      go_wp2
      go_ret
      exact ⟨retI (by rw [E0.out, ← E.out]), rfl⟩
    · have E := Lib.hid (spin_pos (n := n) (m := m) (by omega) (by omega))
      go_enter Tryd.func36, Tryd.ntmps36
      go_wp2
      go_ret
      exact ⟨retI (by rw [E0.out, ← E.out]), rfl⟩
theorem lot_any (a b n : Int) (w : World) (ha : -9223372036854775808 ≤ a) (hb : b ≤ 9223372036854775807) (hab : b - a < 9223372036854775807) (hn : -9223372036854775808 ≤ n) (hn' : n ≤ 9223372036854775807) (ha' : a ≤ 9223372036854775807) (hb' : -9223372036854775808 ≤ b) :
    Calls Tryd.prog 49 #[.agg #[vi a, vi b], vi n] w fun e w' => e = .returned (vi (lotI a b n)) ∧ Below w.heap.size w w' := by
  by_cases h : b ≤ a
  · go_enter Tryd.func49, Tryd.ntmps49
    go_wp2
    go_ret
    refine ⟨retI (by rw [lotI, if_pos h]), ?_⟩
    (repeat (first | exact Below.refl _ _ | refine Below.setCell ?_ (by first | omega | (simp; omega) | (simp; done)) _ | refine Below.alloc ?_ (by first | omega | (simp; omega) | (simp; done)) _ | refine Below.drew ?_ | refine below_drewN ?_ _ | refine Below.trans ?_ (Below.mono (by assumption) (by first | omega | (simp; omega) | (simp; done)))))
  · obtain ⟨p0, p1⟩ := spin_range n (b - a + 1) (by omega)
    have E : Hid (wrap64 (a + spinI n (b - a + 1)) = lotI a b n) := by rw [lotI, if_neg h]; exact IntWalk.wrap64_in _ ⟨by omega, by omega⟩
    go_enter Tryd.func49, Tryd.ntmps49
    go_wp2_with fail
    (refine wp_region_grow_lit (by kernel_rfl) (by kernel_rfl) ?_; (repeat (go_big_quiet_step ((go_at_call 36; refine Calls.grow_same (spin_any _ _ _ (by omega) (by omega) (by omega)))))); refine wpQuiet_nil ?_; intro w1 hw1; have hb1 := below_of_plus hw1; clear hw1; obtain ⟨⟨hc1, hf1, hs1⟩, hz1⟩ := after hb1; (try simp only [World.size_alloc, World.size_setCell, World.size_drew] at hz1))
    go_wp2
    go_ret
    refine ⟨retI (by first | exact E.out | (rw [← E.out, IntWalk.wrap64_in _ ⟨by omega, by omega⟩])), ?_⟩
    (repeat (first | exact Below.refl _ _ | refine Below.setCell ?_ (by first | omega | (simp; omega) | (simp; done)) _ | refine Below.alloc ?_ (by first | omega | (simp; omega) | (simp; done)) _ | refine Below.drew ?_ | refine below_drewN ?_ _ | refine Below.trans ?_ (Below.mono (by assumption) (by first | omega | (simp; omega) | (simp; done)))))
def placeF (l : List Int) (n : Int) : Int := match l.findIdx? fun e => e == n with | some k => k | none => -1
theorem place_free (A : Option Addr) (cap : Nat) (l : List Int) (n : Int) (w : World) (hh : IntsAt w w.heap.size A l.length l) :
    Calls Tryd.prog 83 #[.slice A l.length cap, vi n] w fun e w' => e = .returned (vi (placeF l n)) ∧ w = w' := by
  have hcap := hh.lens
  go_enter Tryd.func83, Tryd.ntmps83
  go_wp2
  go_loopw [5] (fun i wr => ∃ k : Nat, k ≤ l.length ∧ i = .int .i64 k ∧ wr = w ∧ Hid (∀ y, y ∈ l.take k → (y == n) = false)) (fun i _ => l.length - (intOf i).toNat)
  case atStart => exact ⟨0, Nat.zero_le _, rfl, rfl, by simp [Hid]⟩
  case round =>
    obtain ⟨k, hk, rfl, rfl, hno⟩ := hrel
    by_cases hlt : k < l.length
    · obtain ⟨x, hx⟩ : ∃ x, l[k]? = some x := ⟨_, List.getElem?_eq_getElem hlt⟩
      obtain ⟨bb, off, rfl, hb, c0⟩ := ints_at hh hx
      have Hx := Lib.hid hx
      clear hx
      rcases hq : x == n with _ | _
      · have hst := Lib.hid (take_step (p := fun y : Int => y == n) hno.out Hx.out hq)
        go_wp2
        go_roundw
        case rel => exact ⟨k + 1, by omega, by go_num, trivial, hst⟩
        case measure => simp [intOf]; omega
      · have E : Hid (placeF l n = (k : Int)) := by unfold Hid placeF; rw [findIdx_step (p := fun y : Int => y == n) hno.out Hx.out hq]
        go_wp2
        go_ret
        exact ⟨retI E.out.symm, rfl⟩
    · obtain rfl : k = l.length := by omega
      have E : Hid (placeF l n = -1) := by
        have := hno.out
        rw [List.take_length] at this
        unfold Hid placeF
        rw [List.findIdx?_eq_none_iff.2 this]
      go_wp2
      go_ret
      exact ⟨retI E.out.symm, rfl⟩
def climbsB (n : Int) : Int → List Int → Bool
  | _, [] => true
  | b, x :: r => decide (b < x) && (decide (x < n) && climbsB n x r)
theorem climbs_step {n b : Int} {l : List Int} {k : Nat} {x : Int} (h : climbsB n b (l.drop k) = true) (hx : l[k]? = some x) : b < x ∧ x < n ∧ climbsB n x (l.drop (k + 1)) = true := by
  obtain ⟨hk, rfl⟩ := List.getElem?_eq_some_iff.1 hx
  rw [List.drop_eq_getElem_cons hk, climbsB] at h
  simp only [Bool.and_eq_true, decide_eq_true_eq] at h
  exact h
theorem climbs_yes (A : Option Addr) (cap : Nat) (l : List Int) (n : Int) (w : World) (hh : IntsAt w w.heap.size A cap l) (hc : climbsB n (-1) l = true) :
    Calls Tryd.prog 43 #[.slice A l.length cap, vi n] w fun e w' => e = .returned (.bool true) ∧ w' = w := by
  have hcap := hh.lens
  have HC := Lib.hid hc
  clear hc
  go_enter Tryd.func43, Tryd.ntmps43
  go_wp2
  go_loopw [5, 6] (fun b i wr => ∃ (k : Nat) (m : Int), k ≤ l.length ∧ i = .int .i64 k ∧ b = vi m ∧ wr = w ∧ Hid (climbsB n m (l.drop k) = true)) (fun _ i _ => l.length - (intOf i).toNat)
  case atStart => exact ⟨0, -1, Nat.zero_le _, rfl, rfl, rfl, by have := HC.out; unfold Hid; simpa using this⟩
  case round =>
    obtain ⟨k, m, hk, rfl, rfl, rfl, hc⟩ := hrel
    by_cases hlt : k < l.length
    · obtain ⟨x, hx⟩ : ∃ x, l[k]? = some x := ⟨_, List.getElem?_eq_getElem hlt⟩
      obtain ⟨bb, off, rfl, hb, c0⟩ := ints_at hh hx
      obtain ⟨h1, h2, h3⟩ := climbs_step hc.out hx
      have H3 := Lib.hid h3
      have hltI : (k : Int) < l.length := by omega
      have h0I : (0 : Int) ≤ k := by omega
      clear hx h3
      go_wp2
      go_roundw
      case rel => exact ⟨k + 1, x, by omega, by go_num, rfl, trivial, H3⟩
      case measure => simp [intOf]; omega
    · obtain rfl : k = l.length := by omega
      go_wp2
      go_ret
      exact ⟨rfl, rfl⟩
/-- the number of a list that a number chooses -/
def takeI (l : List Int) (n : Int) : Int := if l = [] then 0 else (l[(spinI n l.length).toNat]?).getD 0
set_option maxRecDepth 100000 in
theorem take_any (A : Option Addr) (cap : Nat) (l : List Int) (n : Int) (w : World) (hh : IntsAt w w.heap.size A cap l) (h0 : -9223372036854775808 ≤ n) (h1 : n ≤ 9223372036854775807) :
    Calls Tryd.prog 81 #[.slice A l.length cap, vi n] w fun e w' => e = .returned (vi (takeI l n)) ∧ Below w.heap.size w w' := by
  have hl := hh.lens
  by_cases hn : l = []
  · subst hn
    have E : Hid (takeI [] n = 0) := rfl
    have hz : (([] : List Int).length : Int) = 0 := rfl
    clear hh
    go_enter Tryd.func81, Tryd.ntmps81
    go_wp2
    go_ret
    exact ⟨retI E.out.symm, Below.refl _ _⟩
  · have hpos : 1 ≤ l.length := by
      cases l with
      | nil => exact absurd rfl hn
      | cons _ _ => simp
    obtain ⟨p0, p1⟩ := spin_range n l.length (by omega)
    obtain ⟨j, hj⟩ : ∃ j : Nat, spinI n l.length = j := ⟨(spinI n l.length).toNat, by omega⟩
    obtain ⟨x, hx⟩ : ∃ x, l[j]? = some x := ⟨_, List.getElem?_eq_getElem (by omega)⟩
    have E : Hid (takeI l n = x) := by unfold Hid takeI; rw [if_neg hn, hj, Int.toNat_natCast, hx]; rfl
    have SP := Lib.hid (fun (W : World) => (hj ▸ spin_any n l.length W h0 h1 (by omega)))
    have hne : ((l.length : Int) == 0) = false := by simp; omega
    have hjI : (j : Int) < l.length := by omega
    have hj0 : (0 : Int) ≤ j := by omega
    have HH := Lib.hid hh
    obtain ⟨bb, off, rfl, hbb, c0⟩ := ints_at hh hx
    clear hx hj p0 p1 hh
    go_enter Tryd.func81, Tryd.ntmps81
    go_wp2_with fail
    refine (SP.out _).mono ?_
    rintro e w1 ⟨rfl, rfl⟩
    go_wp2
    go_ret
    exact ⟨retI E.out.symm, Below.refl _ _⟩
theorem in_any (m s : Nat) (hm : m < 512) (hs : s < 9) (w : World) :
    Calls Tryd.prog 84 #[vi m, vi s] w fun e w' => e = .returned (.bool (m.testBit s)) ∧ w = w' := by
  have h1 : (0 : Int) ≤ s := by omega
  have h2 : (s : Int) < 9 := by omega
  go_enter Tryd.func84, Tryd.ntmps84
  go_wp2_with fail
  go_ret
  exact ⟨retB (has_fact ⟨s, hs⟩ ⟨m, hm⟩), rfl⟩
theorem in_is {m s : Nat} {b : Bool} (hb : m.testBit s = b) (hm : m < 512) (hs : s < 9) (w : World) :
    Calls Tryd.prog 84 #[vi m, vi s] w fun e w' => e = .returned (.bool b) ∧ w = w' := by
  subst hb
  exact in_any m s hm hs w
/-- all numbers of a set that are below a number -/
theorem of_set_any (m n : Nat) (hm : m < 512) (hn : n ≤ 9) (w : World) :
    Calls Tryd.prog 47 #[vi m, vi n] w fun e w' => ∃ A cap, e = .returned (.slice A (membersK m n).length cap) ∧ IntsAt w' w'.heap.size A cap (natsC (membersK m n)) ∧ (∀ b, A = some b → w.heap.size ≤ b.block) ∧ Below w.heap.size w w' := by
  obtain ⟨i0, hi, hy0, hy1, hy2⟩ := info_parts info_int
  have HX : Hid (∀ k : Nat, k < n → ∃ b : Bool, m.testBit k = b ∧ membersK m (k + 1) = membersK m k ++ (if b then [k] else [])) := fun k hk => ⟨_, rfl, membersK_succ m k⟩
  have HL : Hid (∀ k, (membersK m k).length ≤ k) := membersK_le m
  have H0 : Hid (membersK m 0 = []) := rfl
  obtain ⟨S, hS⟩ : ∃ S, S = fun k => membersK m k := ⟨_, rfl⟩
  have eS : ∀ k, membersK m k = S k := fun k => by rw [hS]
  simp only [eS] at HX HL H0 ⊢
  clear eS hS
  go_enter Tryd.func47, Tryd.ntmps47
  go_wp2_with fail
  go_loopw [5, 6] (fun v i wr => ∃ k : Nat, k ≤ n ∧ i = .int .i64 k ∧ Below w.heap.size w wr ∧ wr.ownsRow w.heap.size 3 1 v (S k).length ((natsC (S k)).map vi)) (fun _ i _ => n - (intOf i).toNat)
  case atStart => exact ⟨0, Nat.zero_le _, rfl, Below.refl _ _, by rw [H0.out]; simpa using World.ownsRow_nil _ _ _ _⟩
  obtain ⟨k, hk, rfl, hB, hown⟩ := hrel
  have hz := hB.size
  by_cases hlt : k < n
  · obtain ⟨b, hb, S1⟩ := HX.out k hlt
    have HS1 := Lib.hid S1
    have HLk := HL.out k
    have IN := Lib.hid (fun W => in_is hb hm (show k < 9 by omega) W)
    have hkI : (k : Int) < n := by omega
    obtain ⟨L, hL⟩ : ∃ L, L = S k := ⟨_, rfl⟩
    rw [← hL] at hown HS1 HLk
    clear hL S1 hb
    obtain ⟨A', c', rfl, h1, h2⟩ := own_form hown
    go_wp2_with fail
    refine (IN.out _).mono ?_
    rintro e W2 ⟨rfl, rfl⟩
    rcases b with _ | _
    · go_wp2_with fail
      go_roundw
      case rel =>
        refine ⟨k + 1, by omega, by go_num, hB, ?_⟩
        rw [HS1.out]
        simpa using hown
      case measure => simp [intOf]; omega
    · go_wp2_with (at_builtin; go_loud (refine wpList_append_own _ rfl _ _ 22 rfl w.heap.size 3 i0 (.int .i64 0) 1 8 Tryd.underlying22 hi hy0 hy1 hy2 rfl (by decide) _ _ _ rfl (hown.alloc _) ⟨wr.heap.size, 0, none⟩ 1 1 [vi k] rfl rfl (cell_one_new _ _ _) (by simp [Value.oneCell']) (by unfold maxLen; omega) (by omega) (by simp; omega) ?_; intro v5 w5 hown5 hgrow5 _))
      have HB5 : Below w.heap.size w w5 := Below.grown (hB.alloc (by omega) _) hgrow5 (by simp; omega) (fun j e => (hown.lt j e).1)
      obtain ⟨A5, c5, rfl, -, -⟩ := own_form hown5
      go_roundw
      case rel =>
        refine ⟨k + 1, by omega, by go_num, HB5, ?_⟩
        rw [HS1.out]
        simpa using hown5
      case measure => simp [intOf]; omega
  · obtain rfl : k = n := by omega
    have hlen := HL.out k
    rw [← intC_flat] at hown
    obtain ⟨A', c', rfl, h1, h2, h3⟩ := own_rows (m := (natsC (S k)).map intC) (intC_one _) hown (by simp) (by omega)
    go_wp2_with fail
    go_ret
    exact ⟨A', c', rfl, ⟨by simp; omega, by unfold maxLen at h2; omega, h3.few, h3.row⟩, fun b hb => (hown.lt b.block (by rw [hb]; rfl)).1, hB⟩
def sumI (l : List Int) : Int := l.sum
end Go.Proofs.YtomgnpfpaodpiaaDoor

