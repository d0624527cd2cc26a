/- Contract of the law's truly: how long a slip takes when numbers choose how long each step and each piece takes lies between both ends. -/
import Derived.Test.YtomgnpfpaodpiaaDoorJ13
import Derived.Test.YtomgnpfpaodpiaaDoorJ11
import Derived.Deep.CutRange
import Derived.Test.YtomgnpfpaodpiaaDoorJ16
set_option linter.unusedVariables false
set_option linter.unusedSimpArgs false
namespace Go.Proofs.YtomgnpfpaodpiaaDoor
open Go Go.RowKit
set_option maxHeartbeats 8000000
theorem lot_between {a b n : Int} (h : a ≤ b) : a ≤ lotI a b n ∧ lotI a b n ≤ b := by
  unfold lotI
  split
  · omega
  · have := spin_range n (b - a + 1) (by omega)
    omega
theorem take_between {l : List Int} (h : ∀ x ∈ l, -9223372036854775808 ≤ x ∧ x ≤ 9223372036854775807) (n : Int) : -9223372036854775808 ≤ takeI l n ∧ takeI l n ≤ 9223372036854775807 := by
  unfold takeI
  split
  · omega
  · cases hx : l[(spinI n l.length).toNat]? with
    | none => simp
    | some x => exact h x (List.mem_of_getElem? hx)
theorem times_fun (a : Int) : ∃ L : Nat → Int, L 0 = 0 ∧ (∀ i, L (i + 1) = L i + a) ∧ (∀ i, L i = i * a) := ⟨fun i => i * a, by simp, fun i => by simp only; rw [Int.natCast_add, Int.add_mul]; simp, fun _ => rfl⟩
set_option maxRecDepth 100000 in
theorem truly_any (f : Floor) (hv : validB f = true) (k : Nat) (s : SSlip) (hs : f.slips[k]? = some s) (A : Option Addr) (cap : Nat) (bits : List Int) (hr : ∀ x ∈ bits, -9223372036854775808 ≤ x ∧ x ≤ 9223372036854775807) (w : World) (h : FloorAt w w.heap.size f) (hb : IntsAt w w.heap.size A cap bits) :
    Calls Tryd.prog 40 #[f.val, vi k, vi (stepsF f s), .slice A bits.length cap] w fun e w' => ∃ R, e = .returned (vi R) ∧ (takesF f s).1 ≤ R ∧ R ≤ (takesF f s).2 ∧ Below w.heap.size w w' := by
  have hF := fine hv
  have hsm := List.mem_of_getElem? hs
  have hsl := (hF.slips s hsm).2.2
  obtain ⟨g1, g2, g3⟩ := hF.step
  have hst0 := stepsF_range hF hsm
  have HA : Hid ((takesF f s).1 = secsKLo f s.lines (stepsF f s) s.lines.length ∧ (takesF f s).2 = secsKHi f s.lines (stepsF f s) s.lines.length) := ⟨rfl, rfl⟩
  have HPX : Hid (∀ (i : Nat) (x : SLine), s.lines[i]? = some x → ∃ (j c : Nat) (q : Int × Int), x.shelf = j ∧ x.many = c ∧ j < f.picks.length ∧ f.picks[j]? = some q ∧ (0 ≤ q.1 ∧ q.1 ≤ q.2 ∧ q.2 ≤ 300) ∧ (1 ≤ c ∧ c ≤ 20) ∧ secsKLo f s.lines (stepsF f s) (i + 1) = secsKLo f s.lines (stepsF f s) i + c * q.1 ∧ secsKHi f s.lines (stepsF f s) (i + 1) = secsKHi f s.lines (stepsF f s) i + c * q.2) := fun i x hx => by
    have hk := (List.getElem?_eq_some_iff.1 hx).1
    obtain ⟨l1, l2, l3⟩ := linesB_ok hsl
    obtain ⟨k1, k2, k3, k4⟩ := l3 i x hx
    have hpl := hF.picksl
    have hj : x.shelf.toNat < f.picks.length := by omega
    have e := List.getElem?_eq_getElem hj
    have pk := hF.picks _ (List.mem_of_getElem? e)
    refine ⟨x.shelf.toNat, x.many.toNat, f.picks[x.shelf.toNat], by omega, by omega, hj, e, by omega, by omega, ?_, ?_⟩
    · simp only [secsKLo, hx, e, Option.getD_some]; rw [show ((x.many.toNat : Nat) : Int) = x.many by omega]
    · simp only [secsKHi, hx, e, Option.getD_some]; rw [show ((x.many.toNat : Nat) : Int) = x.many by omega]
  have HPB : Hid (∀ i : Nat, i ≤ s.lines.length → 0 ≤ secsKLo f s.lines (stepsF f s) i ∧ secsKHi f s.lines (stepsF f s) i ≤ 20000000) := fun i hi => by
    have r1 := secsLo_range hv hsl (steps := stepsF f s) (by omega) i hi
    have r2 := secsHi_range hv hsl (steps := stepsF f s) (by omega) i hi
    have := (linesB_ok hsl).2.1
    omega
  obtain ⟨st, hst⟩ : ∃ st : Nat, stepsF f s = st := ⟨(stepsF f s).toNat, by omega⟩
  have HP0 : Hid (secsKLo f s.lines (stepsF f s) 0 = st * f.slo ∧ secsKHi f s.lines (stepsF f s) 0 = st * f.shi) := by unfold Hid; rw [hst]; exact ⟨rfl, rfl⟩
  obtain ⟨P, hP⟩ : ∃ P, P = secsKLo f s.lines (stepsF f s) := ⟨_, rfl⟩
  obtain ⟨Q, hQ⟩ : ∃ Q, Q = secsKHi f s.lines (stepsF f s) := ⟨_, rfl⟩
  rw [← hP, ← hQ] at HPX HPB HP0 HA
  rw [hst] at hst0 ⊢
  obtain ⟨R1, hR1⟩ : ∃ R, R = (takesF f s).1 := ⟨_, rfl⟩
  obtain ⟨R2, hR2⟩ : ∃ R, R = (takesF f s).2 := ⟨_, rfl⟩
  rw [← hR1, ← hR2] at HA ⊢
  obtain ⟨L, L0, LS, LM⟩ := times_fun f.slo
  obtain ⟨M, M0, MS, MM⟩ := times_fun f.shi
  have RT := Lib.hid (take_between hr)
  have HF := Lib.hid h
  have HBT := Lib.hid hb
  have HLS := Lib.hid LS
  have HMS := Lib.hid MS
  have HLM := Lib.hid LM
  have HMM := Lib.hid MM
  have hbl := hb.lens
  obtain ⟨bs, os, hsA, hbs, r0, -⟩ := row2 h.slips.row hs rfl
  have HSA := Lib.hid hsA
  have hln1 := (linesB_ok hsl).1
  obtain ⟨bl, ol, hlA, hbl', -, -⟩ := row2 (h.each s hsm).row (List.getElem?_eq_getElem (show 0 < s.lines.length by omega)) rfl
  have HLN : Hid (∀ (m : Nat) (x : SLine), s.lines[m]? = some x → w.cell? ⟨bl, ol + m * 2, none⟩ = some (vi x.shelf) ∧ w.cell? ⟨bl, ol + m * 2 + 1, none⟩ = some (vi x.many)) := fun m x hx => by
    obtain ⟨b2, o2, e2, -, y0, y1⟩ := row2 (h.each s hsm).row hx rfl
    rw [hlA] at e2
    cases e2
    exact ⟨y0, y1⟩
  replace r0 : w.cell? ⟨bs, os + k * 2, none⟩ = some (.slice s.ad s.lines.length s.cap) := r0
  rw [hlA] at r0
  have HR0 : Hid (w.cell? ⟨bs, os + k * 2, none⟩ = some (.slice (some ⟨bl, ol, none⟩) s.lines.length s.cap)) := r0
  have hkl := (List.getElem?_eq_some_iff.1 hs).1
  have h9 := hF.slips9
  have hl12 := (linesB_ok hsl).2.1
  have hls := h.slips.lens
  have hlc := (h.each s hsm).lens
  have hpc := h.picks.lens
  have hkI : (k : Int) < f.slips.length := by omega
  have h0k : (0 : Int) ≤ k := by omega
  clear hs hsm hsl hF hst hP hQ hR1 hR2 LS MS LM MM h hb hr hv hsA r0 hlA
  have X0 := CellsBox.new w 28 f.cells
  have hb0 := below1 w (.cells f.cells.toArray 28)
  show Calls Tryd.prog 40 #[.agg #[.slice f.fA f.far.length f.fC, vi f.slo, vi f.shi, .slice f.pA f.picks.length f.pC, vi f.carry, .slice f.sA f.slips.length f.sC], vi k, vi st, .slice A bits.length cap] w _
  go_enter Tryd.func40, Tryd.ntmps40
  go_upto_region 1 with fail
  refine (?_ : ∀ V : World, CellsBox V w.heap.size 28 f.cells → Below w.heap.size w V → Code.wp _ _ _ _ V) _ X0 hb0
  clear X0 hb0
  intro V X0 HB
  go_wp2_with fail
  go_loopw [9, 10, 11] (fun a b c wr => ∃ (i : Nat) (x : Int), i ≤ st ∧ i ≤ 2000 ∧ a = vi x ∧ b = vi ((k : Int) + i) ∧ c = vi i ∧ (L i ≤ x ∧ x ≤ M i) ∧ (0 ≤ L i ∧ M i ≤ 10 * i) ∧ Below w.heap.size w wr ∧ Hid (CellsBox wr w.heap.size 28 f.cells)) (fun _ _ c _ => st - (intOf c).toNat)
  case atStart => exact ⟨0, 0, by omega, by omega, rfl, by simp, rfl, by omega, by omega, HB, X0⟩
  clear X0 HB
  obtain ⟨i, x, hi1, hi2, rfl, rfl, rfl, hx, hLM, HB, HX⟩ := hrel
  by_cases hA : i < st
  case' pos =>
    by_cases hB2 : i < 2000
    case' pos =>
      have d1 : decide ((i : Int) < st) = true := by simp; omega
      have d2 : decide ((i : Int) < 2000) = true := by simp; omega
      have d3 : decide (i < st) = true := by simpa using hA
      have d4 : decide (i < 2000) = true := by simpa using hB2
      have a1 := HX.out.cell (j := 1) rfl
      have a2 := HX.out.cell (j := 2) rfl
      have za := HX.out.lt
      have hki : 0 ≤ (k : Int) + i := by omega
      have hki2 : (k : Int) + i ≤ 3000 := by omega
      obtain ⟨nn, hnn⟩ : ∃ nn : Int, nn = (k : Int) + i + 1 := ⟨_, rfl⟩
      obtain ⟨y, hy⟩ : ∃ y, y = lotI f.slo f.shi (takeI bits ((k : Int) + i + 1)) := ⟨_, rfl⟩
      have hyr := lot_between (n := takeI bits ((k : Int) + i + 1)) g1
      rw [← hy] at hyr
      have HY := Lib.hid hy
      clear hy
      go_wp2_with fail
      (refine wp_region_grow_lit (by kernel_rfl) (by kernel_rfl) ?_; (repeat (go_big_quiet_step (first | (go_at_call 81; refine Calls.grow_of (take_any _ _ _ _ _ (HBT.out.to (HB.trans (by (repeat (first | exact Below.refl _ _ | refine Below.setCell ?_ (by first | omega | (simp; omega) | (simp; done)) _ | refine Below.alloc ?_ (by first | omega | (simp; omega) | (simp; done)) _ | refine Below.drew ?_ | refine below_drewN ?_ _ | refine Below.trans ?_ (Below.mono (plus_below _ _) (by first | omega | (simp; omega) | (simp; done))) | refine Below.trans ?_ (Below.mono (by assumption) (by first | omega | (simp; omega) | (simp; done)))))))) (by omega) (by omega))) | (go_at_call 49; refine Calls.grow_of (lot_any _ _ _ _ (by omega) (by omega) (by omega) (RT.out _).1 (RT.out _).2 (by omega) (by omega)))))); refine wpQuiet_nil ?_; intro w1 hw1; have hb1 := below_of_plus hw1; clear hw1; obtain ⟨⟨hc1, hf1, hs1⟩, hz1⟩ := after hb1; (try simp only [World.size_alloc, World.size_setCell, World.size_drew] at hz1))
      rw [← HY.out, IntWalk.wrap64_in _ ⟨by omega, by omega⟩]
      replace HB := HB.trans (hb1.mono HB.size)
      replace HX := Lib.hid (HX.out.keep hb1)
      clear hb1 hc1 hf1 hs1 hz1 a1 a2 za
      have e1 := HLS.out i
      have e2 := HMS.out i
      go_wp2_with fail
      go_roundw
      case rel => exact ⟨i + 1, x + y, by omega, by omega, rfl, congrArg vi (by omega), by go_num, by omega, by omega, HB, HX⟩
      case measure => simp [intOf]; omega
    case' neg =>
      obtain rfl : i = 2000 := by omega
      have d1 : decide (((2000 : Nat) : Int) < st) = true := by simp; omega
      have d5 : decide ((2000 : Int) < st) = true := by simp; omega
      have d6 : decide (2000 < st) = true := by simp; omega
      have a1 := HX.out.cell (j := 1) rfl
      have a2 := HX.out.cell (j := 2) rfl
      have za := HX.out.lt
      obtain ⟨y, hy⟩ : ∃ y, y = lotI f.slo f.shi (takeI bits k) := ⟨_, rfl⟩
      have hyr := lot_between (n := takeI bits k) g1
      rw [← hy] at hyr
      have HY := Lib.hid hy
      obtain ⟨z, hz⟩ : ∃ z, z = ((st : Int) - 2000) * y := ⟨_, rfl⟩
      have hzr : 0 ≤ z ∧ z ≤ 2400000 := by
        rw [hz]
        exact ⟨Int.mul_nonneg (by omega) (by omega), Int.mul_le_mul (by omega : (st : Int) - 2000 ≤ 240000) (by omega : y ≤ 10) (by omega) (by omega)⟩
      have hzl : L st ≤ x + z ∧ x + z ≤ M st := by
        have k1 : ((st : Int) - 2000) * f.slo ≤ z := by rw [hz]; exact Int.mul_le_mul_of_nonneg_left hyr.1 (by omega)
        have k2 : z ≤ ((st : Int) - 2000) * f.shi := by rw [hz]; exact Int.mul_le_mul_of_nonneg_left hyr.2 (by omega)
        have k3 := HLM.out st
        have k4 := HMM.out st
        have k5 := HLM.out 2000
        have k6 := HMM.out 2000
        rw [Int.sub_mul] at k1 k2
        omega
      have hz2 : (st : Int) - 2000 ≤ 240000 := by omega
      have hz3 : 0 ≤ (st : Int) - 2000 := by omega
      have HZ := Lib.hid hz
      clear hy hz
      go_wp2_with fail
      (refine wp_region_grow_lit (by kernel_rfl) (by kernel_rfl) ?_; (repeat (go_big_quiet_step (first | (go_at_call 81; refine Calls.grow_of (take_any _ _ _ _ _ (HBT.out.to (HB.trans (by (repeat (first | exact Below.refl _ _ | refine Below.setCell ?_ (by first | omega | (simp; omega) | (simp; done)) _ | refine Below.alloc ?_ (by first | omega | (simp; omega) | (simp; done)) _ | refine Below.drew ?_ | refine below_drewN ?_ _ | refine Below.trans ?_ (Below.mono (plus_below _ _) (by first | omega | (simp; omega) | (simp; done))) | refine Below.trans ?_ (Below.mono (by assumption) (by first | omega | (simp; omega) | (simp; done)))))))) (by omega) (by omega))) | (go_at_call 49; refine Calls.grow_of (lot_any _ _ _ _ (by omega) (by omega) (by omega) (RT.out _).1 (RT.out _).2 (by omega) (by omega)))))); refine wpQuiet_nil ?_; intro w1 hw1; have hb1 := below_of_plus hw1; clear hw1; obtain ⟨⟨hc1, hf1, hs1⟩, hz1⟩ := after hb1; (try simp only [World.size_alloc, World.size_setCell, World.size_drew] at hz1))
      rw [← HY.out, ← HZ.out, IntWalk.wrap64_in z ⟨by omega, by omega⟩, IntWalk.wrap64_in (x + z) ⟨by omega, by omega⟩]
      replace HB := HB.trans (hb1.mono HB.size)
      replace HX := Lib.hid (HX.out.keep hb1)
      clear hb1 hc1 hf1 hs1 hz1 a1 a2 za
      obtain ⟨x9, hx9⟩ : ∃ x9, x9 = x + z := ⟨_, rfl⟩
      obtain ⟨n9, hn9⟩ : ∃ n9 : Int, n9 = (k : Int) + ((2000 : Nat) : Int) := ⟨_, rfl⟩
      rw [← hx9, ← hn9]
      have hnr : 0 ≤ n9 ∧ n9 ≤ 3000 := by omega
      have hx0 : P 0 ≤ x9 ∧ x9 ≤ Q 0 := by
        have k1 := HP0.out
        rw [← HLM.out st, ← HMM.out st] at k1
        omega
      clear hx9 hn9 hyr hzr hzl hz2 hz3 HZ HY d1 d5 d6 hx hLM
      go_upto_region 9 with fail
      refine (?_ : ∀ W9 : World, CellsBox W9 w.heap.size 28 f.cells → Below w.heap.size w W9 → Code.wp _ _ _ _ W9) _ HX.out HB
  case' neg =>
    obtain rfl : st = i := by omega
    have d1 : decide ((st : Int) < st) = false := by simp
    have d5 : decide ((2000 : Int) < st) = false := by simp; omega
    have d6 : decide (2000 < st) = false := by simp; omega
    obtain ⟨x9, hx9⟩ : ∃ x9, x9 = x := ⟨_, rfl⟩
    obtain ⟨n9, hn9⟩ : ∃ n9 : Int, n9 = (k : Int) + (st : Int) := ⟨_, rfl⟩
    rw [← hx9, ← hn9]
    have hnr : 0 ≤ n9 ∧ n9 ≤ 3000 := by omega
    have hx0 : P 0 ≤ x9 ∧ x9 ≤ Q 0 := by
      have k1 := HP0.out
      rw [← HLM.out st, ← HMM.out st] at k1
      omega
    clear hx9 hn9 hx hLM
    go_upto_region 9 with fail
    clear d1 d5 d6
    refine (?_ : ∀ W9 : World, CellsBox W9 w.heap.size 28 f.cells → Below w.heap.size w W9 → Code.wp _ _ _ _ W9) _ HX.out HB
  all_goals
    clear HX HB HP0 HLM HMM HLS HMS L0 M0
    intro W9 X9 HB
    have HX := Lib.hid X9
    have a5 := X9.cell (j := 5) rfl
    rw [HSA.out] at a5
    have R0 := (HB.cell hbs).trans HR0.out
    have zR := cell_lt R0
    have za := X9.lt
    clear X9
    go_wp2_with fail
    clear a5 R0 zR za
    go_loopw [9, 10, 13, 14] (fun a b c e wr => ∃ (m : Nat) (x nn : Int), m ≤ s.lines.length ∧ c = .int .i64 m ∧ a = vi x ∧ b = vi nn ∧ (0 ≤ nn ∧ nn ≤ 3000 + 20 * m) ∧ (P m ≤ x ∧ x ≤ Q m) ∧ Below w.heap.size w wr ∧ Hid (CellsBox wr w.heap.size 28 f.cells)) (fun _ _ c _ _ => s.lines.length - (intOf c).toNat)
    case atStart => exact ⟨0, x9, n9, Nat.zero_le _, rfl, rfl, rfl, by omega, hx0, HB, HX.out⟩
    clear hx0 hnr HX HB
    obtain ⟨m, x1, nn, hm, rfl, rfl, rfl, hnr, hxr, HB, HX⟩ := hrel
    by_cases hlt : m < s.lines.length
    · obtain ⟨y0, hy0⟩ : ∃ y, s.lines[m]? = some y := ⟨_, List.getElem?_eq_getElem hlt⟩
      obtain ⟨j, c, q, hj, hc, hjl, hq, ⟨q1, q2, q3⟩, ⟨c1, c2⟩, S1, S2⟩ := HPX.out m y0 hy0
      obtain ⟨x0, x2⟩ := HLN.out m y0 hy0
      obtain ⟨bp, op, hpA, hbp, p0, p1⟩ := row2 HF.out.picks.row hq rfl
      rw [hj] at x0
      rw [hc] at x2
      obtain ⟨AA, A0, AS, AM⟩ := times_fun q.1
      obtain ⟨BB, B0, BS, BM⟩ := times_fun q.2
      have HE1 : Hid (P (m + 1) = P m + AA c ∧ Q (m + 1) = Q m + BB c) := by unfold Hid; rw [AM, BM]; exact ⟨S1, S2⟩
      have pb1 := HPB.out m (by omega)
      have hmI : (m : Int) < s.lines.length := by omega
      have h0m : (0 : Int) ≤ m := by omega
      have hjI : (j : Int) < f.picks.length := by omega
      have h0j : (0 : Int) ≤ j := by omega
      have HAS := Lib.hid AS
      have HBS := Lib.hid BS
      have HX0 := Lib.hid x0
      have HX2 := Lib.hid x2
      have HP0 := Lib.hid p0
      have HP1 := Lib.hid p1
      have HPA := Lib.hid hpA
      clear S1 S2 hy0 hq AM BM AS BS x0 x2 p0 p1 hpA hj hc
      go_wp2_with fail
      go_loopw [9, 10, 14] (fun a b e wr => ∃ (r : Nat) (x nn : Int), r ≤ c ∧ e = .int .i64 r ∧ a = vi x ∧ b = vi nn ∧ (0 ≤ nn ∧ nn ≤ 3000 + 20 * m + r) ∧ (P m + AA r ≤ x ∧ x ≤ Q m + BB r) ∧ (0 ≤ AA r ∧ BB r ≤ 300 * r) ∧ Below w.heap.size w wr ∧ Hid (CellsBox wr w.heap.size 28 f.cells)) (fun _ _ e _ => c - (intOf e).toNat)
      case atStart => exact ⟨0, x1, nn, Nat.zero_le _, rfl, rfl, rfl, by omega, by omega, by omega, HB, HX⟩
      clear hnr hxr HX HB
      obtain ⟨r, x2, n2, hrc, rfl, rfl, rfl, hnr, hxr, hab, HB, HX⟩ := hrel
      have x1r := (HB.cell hbl').trans HX2.out
      have zl := cell_lt x1r
      by_cases hlr : r < c
      · have d1 : decide ((r : Int) < c) = true := by simp; omega
        have x0r := (HB.cell hbl').trans HX0.out
        have p0r := (HB.cell hbp).trans HP0.out
        have p1r := (HB.cell hbp).trans HP1.out
        have zp := cell_lt p0r
        have a3 := HX.out.cell (j := 3) rfl
        rw [HPA.out] at a3
        have za := HX.out.lt
        obtain ⟨y, hy⟩ : ∃ y, y = lotI q.1 q.2 (takeI bits (n2 + 1)) := ⟨_, rfl⟩
        have hyr := lot_between (n := takeI bits (n2 + 1)) q2
        rw [← hy] at hyr
        have HY := Lib.hid hy
        clear hy
        go_wp2_with fail
        (refine wp_region_grow_lit (by kernel_rfl) (by kernel_rfl) ?_; (repeat (go_big_quiet_step (first | (go_at_call 81; refine Calls.grow_of (take_any _ _ _ _ _ (HBT.out.to (HB.trans (by (repeat (first | exact Below.refl _ _ | refine Below.setCell ?_ (by first | omega | (simp; omega) | (simp; done)) _ | refine Below.alloc ?_ (by first | omega | (simp; omega) | (simp; done)) _ | refine Below.drew ?_ | refine below_drewN ?_ _ | refine Below.trans ?_ (Below.mono (plus_below _ _) (by first | omega | (simp; omega) | (simp; done))) | refine Below.trans ?_ (Below.mono (by assumption) (by first | omega | (simp; omega) | (simp; done)))))))) (by omega) (by omega))) | (go_at_call 49; refine Calls.grow_of (lot_any _ _ _ _ (by omega) (by omega) (by omega) (RT.out _).1 (RT.out _).2 (by omega) (by omega)))))); refine wpQuiet_nil ?_; intro w1 hw1; have hb1 := below_of_plus hw1; clear hw1; obtain ⟨⟨hc1, hf1, hs1⟩, hz1⟩ := after hb1; (try simp only [World.size_alloc, World.size_setCell, World.size_drew] at hz1))
        rw [← HY.out, IntWalk.wrap64_in _ ⟨by omega, by omega⟩]
        replace HB := HB.trans (hb1.mono HB.size)
        replace HX := Lib.hid (HX.out.keep hb1)
        clear hb1 hc1 hf1 hs1 hz1 a3 za x0r p0r p1r zp x1r zl
        have e1 := HAS.out r
        have e2 := HBS.out r
        go_wp2_with fail
        go_roundw
        case rel => exact ⟨r + 1, x2 + y, n2 + 1, by omega, by go_num, rfl, rfl, by omega, by omega, by omega, HB, HX⟩
        case measure => simp [intOf]; omega
      · obtain rfl : c = r := by omega
        have d1 : decide ((c : Int) < c) = false := by simp
        have e1 := HE1.out
        go_wp2_with fail
        go_roundw
        case rel => exact ⟨m + 1, x2, n2, by omega, by go_num, rfl, rfl, by omega, by omega, HB, HX⟩
        case measure => simp [intOf]; omega
    · obtain rfl : m = s.lines.length := by omega
      have e1 := HA.out
      go_wp2_with fail
      go_ret
      exact ⟨x1, rfl, by omega, by omega, HB⟩
end Go.Proofs.YtomgnpfpaodpiaaDoor

/- The roster that is told, list by list: what each round of a walk over it finds. Plain mathematics. -/
namespace Go.Proofs.YtomgnpfpaodpiaaDoor
open Go Go.RowKit
def maskF (l : List Int) : Nat := setF (l.map Int.toNat)
theorem mask_snoc (l : List Int) (n : Int) : maskF (l ++ [n]) = maskF l ||| 2 ^ n.toNat := by
  unfold maskF
  rw [List.map_append, List.map_cons, List.map_nil, setF_snoc]
theorem sumT_snoc (tk : Int → Int × Int) (t : Int × Int) (l : List Int) (x : Int) : sumT tk t (l ++ [x]) = addS (sumT tk t l) (tk x) := by
  unfold sumT
  rw [List.foldl_append]
  rfl
theorem take_snoc {α : Type} {l : List α} {c : Nat} {x : α} (h : l[c]? = some x) : l.take (c + 1) = l.take c ++ [x] := by
  obtain ⟨hc, rfl⟩ := List.getElem?_eq_some_iff.1 h
  exact List.take_succ_eq_append_getElem hc
theorem natsC_take (l : List Nat) (c : Nat) : (natsC l).take c = natsC (l.take c) := by unfold natsC; rw [List.map_take]
def goneF (ts : List SRow) (i : Nat) : List Int := ((ts.take i).map SRow.slips).flatten
theorem gone_succ {ts : List SRow} {i : Nat} {t : SRow} (h : ts[i]? = some t) : goneF ts (i + 1) = goneF ts i ++ t.slips := by
  unfold goneF
  rw [take_snoc h, List.map_append, List.flatten_append]
  simp
theorem true_round {f : Floor} (hv : validB f = true) {p : Nat} (hp : fewF f = some p) {ts : List SRow} (h : ts.map SRow.slips = (rosterF f p (allF f)).map natsC) {i : Nat} {t : SRow} (hi : ts[i]? = some t) {c : Nat} {n : Int} (hc : t.slips[c]? = some n) :
    ∃ (s : Nat) (x : SSlip) (d : Int × Int), n = s ∧ s < f.slips.length ∧ f.slips[s]? = some x ∧ (doneF f (ts.map SRow.slips))[s]? = some d ∧ d = addS (sumT (tkF f) (0, 0) (t.slips.take c)) (takesF f x) ∧ sumT (tkF f) (0, 0) (t.slips.take (c + 1)) = d ∧ d.2 ≤ x.till ∧ maskF (goneF ts i ++ t.slips.take (c + 1)) = maskF (goneF ts i ++ t.slips.take c) ||| 2 ^ s ∧ maskF (goneF ts i ++ t.slips.take c) < 512 := by
  obtain ⟨h1, h5, hcan⟩ := few_can hp
  obtain ⟨k1, k2, k3⟩ := roster_spec hv p (allF f) (all_in f) hcan
  have htold := (roster_told hv hp h).2.2.2
  obtain ⟨rows, hrows⟩ : ∃ rows, rows = rosterF f p (allF f) := ⟨_, rfl⟩
  rw [← hrows] at h k2 k3
  have e1 : (ts.map SRow.slips)[i]? = some t.slips := by rw [List.getElem?_map, hi]; rfl
  have e2 := e1
  rw [h, List.getElem?_map] at e2
  obtain ⟨row, hrow, hrt⟩ := Option.map_eq_some_iff.1 e2
  have e3 := hc
  rw [← hrt] at e3
  unfold natsC at e3
  rw [List.getElem?_map] at e3
  obtain ⟨s, hs, hsn⟩ := Option.map_eq_some_iff.1 e3
  have hsr : s ∈ rows.flatten := List.mem_flatten.2 ⟨row, List.mem_of_getElem? hrow, List.mem_of_getElem? hs⟩
  have hsl : s < f.slips.length := by have := (k3 s).1 hsr; rwa [all_bit, decide_eq_true_eq] at this
  obtain ⟨x, hx⟩ : ∃ x, f.slips[s]? = some x := ⟨_, List.getElem?_eq_getElem hsl⟩
  obtain ⟨hil, hie⟩ := List.getElem?_eq_some_iff.1 hrow
  obtain ⟨hcl, hce⟩ := List.getElem?_eq_some_iff.1 hs
  have er : row = row.take c ++ s :: row.drop (c + 1) := by
    conv => lhs; rw [← List.take_append_drop c row, List.drop_eq_getElem_cons hcl, hce]
  have eA : rows = rows.take i ++ (row.take c ++ s :: row.drop (c + 1)) :: rows.drop (i + 1) := by
    rw [← er]
    conv => lhs; rw [← List.take_append_drop i rows, List.drop_eq_getElem_cons hil, hie]
  have hd := done_nats k2 eA hsl
  rw [← h] at hd
  have et : natsC (row.take c ++ [s]) = t.slips.take (c + 1) := by rw [← take_snoc hs, ← natsC_take, hrt]
  rw [et] at hd
  have hsum : sumT (tkF f) (0, 0) (t.slips.take (c + 1)) = addS (sumT (tkF f) (0, 0) (t.slips.take c)) (takesF f x) := by
    rw [take_snoc hc, sumT_snoc, ← hsn]
    congr 1
    unfold tkF
    simp [hx]
  have hdue := htold s _ hd
  rw [dueF_at hx] at hdue
  have hmem : ∀ y ∈ goneF ts i ++ t.slips.take c, y.toNat < 9 := fun y hy => by
    have h9 := (fine hv).slips9
    have : y ∈ (ts.map SRow.slips).flatten := by
      rcases List.mem_append.1 hy with hy | hy
      · unfold goneF at hy
        obtain ⟨l, hl, hyl⟩ := List.mem_flatten.1 hy
        rw [List.map_take] at hl
        exact List.mem_flatten.2 ⟨l, List.mem_of_mem_take hl, hyl⟩
      · exact List.mem_flatten.2 ⟨t.slips, List.mem_of_getElem? e1, List.mem_of_mem_take hy⟩
    rw [h, flat_nats] at this
    obtain ⟨z, hz, rfl⟩ := natsC_mem.1 this
    have := (k3 z).1 hz
    rw [all_bit, decide_eq_true_eq] at this
    simp
    omega
  refine ⟨s, x, _, hsn.symm, hsl, hx, hd, hsum, rfl, hdue, ?_, ?_⟩
  · rw [take_snoc hc, ← List.append_assoc, mask_snoc, ← hsn]
    simp
  · unfold maskF
    refine setF_lt _ fun y hy => ?_
    obtain ⟨z, hz, rfl⟩ := List.mem_map.1 hy
    exact hmem z hz
theorem true_mask {f : Floor} (hv : validB f = true) {p : Nat} (hp : fewF f = some p) {ts : List SRow} (h : ts.map SRow.slips = (rosterF f p (allF f)).map natsC) : maskF (goneF ts ts.length) = 2 ^ f.slips.length - 1 := by
  obtain ⟨h1, h5, hcan⟩ := few_can hp
  obtain ⟨k1, k2, k3⟩ := roster_spec hv p (allF f) (all_in f) hcan
  unfold maskF goneF
  rw [List.take_length, h, flat_nats]
  apply Nat.eq_of_testBit_eq
  intro i
  rw [PM.setF_bit, Nat.testBit_two_pow_sub_one]
  refine decide_eq_decide.2 ?_
  rw [List.mem_map]
  constructor
  · rintro ⟨y, hy, rfl⟩
    obtain ⟨z, hz, rfl⟩ := natsC_mem.1 hy
    have := (k3 z).1 hz
    rw [all_bit, decide_eq_true_eq] at this
    simpa using this
  · intro hi
    refine ⟨(i : Int), natsC_mem.2 ⟨i, (k3 i).2 ?_, rfl⟩, by simp⟩
    rw [all_bit, decide_eq_true_eq]
    exact hi
end Go.Proofs.YtomgnpfpaodpiaaDoor

/- The law SlipTrue holds of every floor and list of numbers. -/
namespace Go.Proofs.YtomgnpfpaodpiaaDoor
open Go Go.RowKit
set_option maxHeartbeats 8000000
set_option maxRecDepth 100000 in
theorem slipTrue_none (f : Floor) (A : Option Addr) (cap : Nat) (bits : List Int) (er : Int) (hv : validB f = false ∧ er = 30 ∨ validB f = true ∧ er = 4) (hR : RosterV f = ([], er)) (w : World) (hl : Lim w) (h : FloorAt w w.heap.size f) :
    Calls Tryd.prog 7 #[f.val, .slice A bits.length cap] w fun e w' => e = .returned (.bool true) ∧ Below w.heap.size w w' := by
  have HL := Lib.hid hl
  have HF := Lib.hid h
  have C1 : Hid (∀ W : World, Lim W → FloorAt W W.heap.size f → Calls Tryd.prog 28 #[f.val] W fun e w' => ∃ A : Option Addr, e = .returned (.tuple #[.slice A 0 0, vi er]) ∧ Below W.heap.size W w') := fun W h1 h2 => by
    refine (Roster_any f W h1 h2).mono ?_
    rintro e w' ⟨A, ts, rfl, -, g2, g3⟩
    rw [hR] at g2 ⊢
    obtain rfl : ts = [] := by simpa using g2
    exact ⟨A, rfl, g3⟩
  obtain ⟨b, hb⟩ : ∃ b, validB f = b := ⟨_, rfl⟩
  have SO := Lib.hid (fun (W : World) h1 h2 => sound_is hb W h1 h2)
  rw [hb] at hv
  clear hl h hb hR
  have X0 := CellsBox.new w 28 f.cells
  have hb0 : Below w.heap.size w (w.alloc (.cells f.cells.toArray 28)) := below1 _ _
  show Calls Tryd.prog 7 #[.agg #[.slice f.fA f.far.length f.fC, vi f.slo, vi f.shi, .slice f.pA f.picks.length f.pC, vi f.carry, .slice f.sA f.slips.length f.sC], .slice A bits.length cap] w _
  go_enter Tryd.func7, Tryd.ntmps7
  go_upto_region 1 with fail
  refine (?_ : ∀ V : World, CellsBox V w.heap.size 28 f.cells → Below w.heap.size w V → Code.wp _ _ _ _ V) _ X0 hb0
  clear X0 hb0
  intro V X0 HB
  have HX := Lib.hid X0
  (have a0 := X0.cell (j := 0) rfl; have a1 := X0.cell (j := 1) rfl; have a2 := X0.cell (j := 2) rfl; have a3 := X0.cell (j := 3) rfl; have a4 := X0.cell (j := 4) rfl; have a5 := X0.cell (j := 5) rfl; have za := X0.lt)
  clear X0
  go_wp2_with fail
  refine (C1.out _ (HL.out.next HB) (HF.out.to HB)).mono ?_
  rintro e W1 ⟨A1, rfl, hb⟩
  (replace HX := Lib.hid (HX.out.keep hb); replace HB : Below w.heap.size w W1 := HB.trans (hb.mono HB.size); clear hb a0 a1 a2 a3 a4 a5 za; (have a0 := HX.out.cell (j := 0) rfl; have a1 := HX.out.cell (j := 1) rfl; have a2 := HX.out.cell (j := 2) rfl; have a3 := HX.out.cell (j := 3) rfl; have a4 := HX.out.cell (j := 4) rfl; have a5 := HX.out.cell (j := 5) rfl; have za := HX.out.lt))
  go_wp2_with fail
  refine (SO.out _ (HL.out.next HB) (HF.out.to HB)).mono ?_
  rintro e W2 ⟨rfl, hb⟩
  clear a0 a1 a2 a3 a4 a5 za
  (replace HB : Below w.heap.size w W2 := HB.trans (hb.mono HB.size); clear hb)
  rcases hv with ⟨rfl, rfl⟩ | ⟨rfl, rfl⟩
  all_goals
    go_wp2_with fail
    refine (works_any _ (HL.out.next HB)).mono ?_
    rintro e W ⟨rfl, hb⟩
    (replace HB : Below w.heap.size w W := HB.trans (hb.mono HB.size); clear hb)
    go_wp2_with fail
    go_ret
    exact ⟨rfl, HB⟩
set_option maxRecDepth 100000 in
theorem slipTrue_some (f : Floor) (A : Option Addr) (cap : Nat) (bits : List Int) (hr : ∀ x ∈ bits, -9223372036854775808 ≤ x ∧ x ≤ 9223372036854775807) (hv : validB f = true) (p : Nat) (hp : fewF f = some p) (w : World) (hl : Lim w) (h : FloorAt w w.heap.size f) (hb : IntsAt w w.heap.size A cap bits) :
    Calls Tryd.prog 7 #[f.val, .slice A bits.length cap] w fun e w' => e = .returned (.bool true) ∧ Below w.heap.size w w' := by
  have HL := Lib.hid hl
  have HF := Lib.hid h
  have HBT := Lib.hid hb
  have h9 := (fine hv).slips9
  have hbl := hb.lens
  have hls := h.slips.lens
  have SO := Lib.hid (fun (W : World) h1 h2 => sound_is hv W h1 h2)
  obtain ⟨g1, g5, -⟩ := few_can hp
  have C1 : Hid (∀ W : World, Lim W → FloorAt W W.heap.size f → Calls Tryd.prog 28 #[f.val] W fun e w' => ∃ (A : Option Addr) (ts : List SRow), e = .returned (.tuple #[.slice A ts.length ts.length, vi 0]) ∧ RosterAt w' w'.heap.size A ts.length ts ∧ ts.map SRow.slips = (rosterF f p (allF f)).map natsC ∧ Below W.heap.size W w') := fun W h1 h2 => by
    have hc : checkV f = 0 := by unfold checkV; rw [if_pos hv]
    have e : RosterV f = (rosterF f p (allF f), 0) := by unfold RosterV; rw [if_pos hc, hp]
    have := Roster_any f W h1 h2
    rwa [e] at this
  have C2 : Hid (∀ (ts : List SRow) (A : Option Addr), ts.map SRow.slips = (rosterF f p (allF f)).map natsC → ∀ W : World, Lim W → FloorAt W W.heap.size f → RosterAt W W.heap.size A ts.length ts → Calls Tryd.prog 25 #[f.val, .slice A ts.length ts.length] W fun e w' => ∃ R, e = .returned (.tuple #[.slice R f.slips.length f.slips.length, vi 0]) ∧ RowsAt w' w'.heap.size 2 R f.slips.length ((doneF f (ts.map SRow.slips)).map spanC) ∧ Below W.heap.size W w') := fun ts A he W h1 h2 h3 => by
    have hc : checkV f = 0 := by unfold checkV; rw [if_pos hv]
    obtain ⟨k1, k2, k3, k4⟩ := roster_told hv hp he
    have e : DoneV f ts = (doneF f (ts.map SRow.slips), 0) := by unfold DoneV; rw [if_pos hc, if_pos k1]
    have := Done_any f A ts.length ts W h1 h2 h3
    rw [e] at this
    simp only [k3] at this
    exact this
  have C3 : Hid (∀ (k : Nat) (s : SSlip), f.slips[k]? = some s → ∀ W : World, Lim W → FloorAt W W.heap.size f → Calls Tryd.prog 18 #[f.val, vi k] W fun e w' => e = .returned (.tuple #[vi (stepsF f s), vi 0]) ∧ Below W.heap.size W w') := fun k s hs W h1 h2 => by
    have hc : checkSlipV f k = 0 := by
      unfold checkSlipV
      rw [if_pos hv, if_pos]
      unfold slipB
      have := (List.getElem?_eq_some_iff.1 hs).1
      simp
      omega
    have := Steps_any f k W h1 h2
    have e1 : StepsV f k = stepsF f s := by unfold StepsV; rw [if_pos hc, Int.toNat_natCast, hs]
    rwa [e1, hc] at this
  have C4 : Hid (∀ (k : Nat) (s : SSlip), f.slips[k]? = some s → ∀ W : World, Lim W → FloorAt W W.heap.size f → Calls Tryd.prog 20 #[f.val, vi k] W fun e w' => e = .returned (.tuple #[.agg #[vi (takesF f s).1, vi (takesF f s).2], vi 0]) ∧ Below W.heap.size W w') := fun k s hs W h1 h2 => by
    have hc : checkSlipV f k = 0 := by
      unfold checkSlipV
      rw [if_pos hv, if_pos]
      unfold slipB
      have := (List.getElem?_eq_some_iff.1 hs).1
      simp
      omega
    have := Takes_any f k W h1 h2
    have e1 : TakesV f k = takesF f s := by unfold TakesV; rw [if_pos hc, Int.toNat_natCast, hs]
    rwa [e1, hc] at this
  have C5 := Lib.hid (fun (k : Nat) (s : SSlip) hs (W : World) h1 h2 => truly_any f hv k s hs A cap bits hr W h1 h2)
  have HRD := Lib.hid (fun (ts : List SRow) (he : ts.map SRow.slips = (rosterF f p (allF f)).map natsC) (i : Nat) (t : SRow) (hi : ts[i]? = some t) (c : Nat) (n : Int) (hc : t.slips[c]? = some n) => true_round hv hp he hi hc)
  have HV := Lib.hid hv
  have HMK := Lib.hid (fun (ts : List SRow) (he : ts.map SRow.slips = (rosterF f p (allF f)).map natsC) => true_mask hv hp he)
  have HTR := Lib.hid (fun (s : SSlip) (hs : s ∈ f.slips) => (fine hv).slips s hs)
  have HTL := Lib.hid (fun (ts : List SRow) (he : ts.map SRow.slips = (rosterF f p (allF f)).map natsC) => (roster_told hv hp he).2.1)
  have HDL := Lib.hid (fun (ts : List SRow) (he : ts.map SRow.slips = (rosterF f p (allF f)).map natsC) => (roster_told hv hp he).2.2.1)
  clear hl h hb hv hp hr
  have X0 := CellsBox.new w 28 f.cells
  have hb0 : Below w.heap.size w (w.alloc (.cells f.cells.toArray 28)) := below1 _ _
  show Calls Tryd.prog 7 #[.agg #[.slice f.fA f.far.length f.fC, vi f.slo, vi f.shi, .slice f.pA f.picks.length f.pC, vi f.carry, .slice f.sA f.slips.length f.sC], .slice A bits.length cap] w _
  go_enter Tryd.func7, Tryd.ntmps7
  go_upto_region 1 with fail
  refine (?_ : ∀ V : World, CellsBox V w.heap.size 28 f.cells → Below w.heap.size w V → Code.wp _ _ _ _ V) _ X0 hb0
  clear X0 hb0
  intro V X0 HB
  have HX := Lib.hid X0
  (have a0 := X0.cell (j := 0) rfl; have a1 := X0.cell (j := 1) rfl; have a2 := X0.cell (j := 2) rfl; have a3 := X0.cell (j := 3) rfl; have a4 := X0.cell (j := 4) rfl; have a5 := X0.cell (j := 5) rfl; have za := X0.lt)
  clear X0
  go_wp2_with fail
  refine (C1.out _ (HL.out.next HB) (HF.out.to HB)).mono ?_
  rintro e W1 ⟨A1, ts, rfl, hT, he, hb⟩
  have HT := Lib.hid hT
  have HEQ := Lib.hid he
  have htl : 1 ≤ ts.length ∧ ts.length ≤ 5 := by have := HTL.out ts he; omega
  have hdl := Lib.hid (HDL.out ts he)
  clear hT he
  (replace HX := Lib.hid (HX.out.keep hb); replace HB : Below w.heap.size w W1 := HB.trans (hb.mono HB.size); clear hb a0 a1 a2 a3 a4 a5 za; (have a0 := HX.out.cell (j := 0) rfl; have a1 := HX.out.cell (j := 1) rfl; have a2 := HX.out.cell (j := 2) rfl; have a3 := HX.out.cell (j := 3) rfl; have a4 := HX.out.cell (j := 4) rfl; have a5 := HX.out.cell (j := 5) rfl; have za := HX.out.lt))
  go_wp2_with fail
  refine (SO.out _ (HL.out.next HB) (HF.out.to HB)).mono ?_
  rintro e W2 ⟨rfl, hb⟩
  replace HT := Lib.hid (HT.out.to hb)
  (replace HX := Lib.hid (HX.out.keep hb); replace HB : Below w.heap.size w W2 := HB.trans (hb.mono HB.size); clear hb a0 a1 a2 a3 a4 a5 za; (have a0 := HX.out.cell (j := 0) rfl; have a1 := HX.out.cell (j := 1) rfl; have a2 := HX.out.cell (j := 2) rfl; have a3 := HX.out.cell (j := 3) rfl; have a4 := HX.out.cell (j := 4) rfl; have a5 := HX.out.cell (j := 5) rfl; have za := HX.out.lt))
  go_wp2_with fail
  refine (C2.out ts A1 HEQ.out _ (HL.out.next HB) (HF.out.to HB) HT.out).mono ?_
  rintro e W3 ⟨R, rfl, hR, hb⟩
  replace HT := Lib.hid (HT.out.to hb)
  have HR := Lib.hid hR
  clear hR
  (replace HX := Lib.hid (HX.out.keep hb); replace HB : Below w.heap.size w W3 := HB.trans (hb.mono HB.size); clear hb a0 a1 a2 a3 a4 a5 za; (have a0 := HX.out.cell (j := 0) rfl; have a1 := HX.out.cell (j := 1) rfl; have a2 := HX.out.cell (j := 2) rfl; have a3 := HX.out.cell (j := 3) rfl; have a4 := HX.out.cell (j := 4) rfl; have a5 := HX.out.cell (j := 5) rfl; have za := HX.out.lt))
  have htw : hasB 1 5 ts.length = true := hasB_iff.2 ⟨by omega, by omega⟩
  have TW := Lib.hid (fun W : World => tween_is htw W)
  clear htw
  go_wp2_with fail
  refine (TW.out _).mono ?_
  rintro e W4 ⟨rfl, rfl⟩
  go_wp2_with fail
  clear a0 a1 a2 a3 a4 a5 za TW
  obtain ⟨D, hD⟩ : ∃ D, D = doneF f (ts.map SRow.slips) := ⟨_, rfl⟩
  have HRD2 := Lib.hid (fun i t hi c n hc => HRD.out ts HEQ.out i t hi c n hc)
  have HMK2 := Lib.hid (HMK.out ts HEQ.out)
  rw [← hD] at HR hdl
  simp only [← hD] at HRD2
  clear hD HRD HMK HTL HDL HEQ C1 C2 SO
  have hm0 : maskF (goneF ts 0) = 0 := rfl
  go_loopw [9, 10, 11, 12, 13, 14, 15, 16, 17, 18] (fun a b _ _ _ _ _ _ _ _ wr => ∃ i : Nat, i ≤ ts.length ∧ b = .int .i64 i ∧ a = vi (maskF (goneF ts i) : Nat) ∧ Below w.heap.size w wr ∧ Hid (CellsBox wr w.heap.size 28 f.cells) ∧ Hid (RosterAt wr wr.heap.size A1 ts.length ts) ∧ Hid (RowsAt wr wr.heap.size 2 R f.slips.length (D.map spanC))) (fun _ b _ _ _ _ _ _ _ _ _ => ts.length - (intOf b).toNat)
  case atStart => exact ⟨0, Nat.zero_le _, rfl, by rw [hm0]; rfl, HB, HX, HT, HR⟩
  clear HX HT HR HB hm0
  obtain ⟨i, hi, rfl, rfl, HB, HX, HT, HR⟩ := hrel
  by_cases hlt : i < ts.length
  · obtain ⟨t, ht⟩ : ∃ t, ts[i]? = some t := ⟨_, List.getElem?_eq_getElem hlt⟩
    have HG := Lib.hid (gone_succ ht)
    have HI := Lib.hid (fun c n hc => HRD2.out i t ht c n hc)
    have hti := HT.out.each t (List.mem_of_getElem? ht)
    have htil := hti.lens
    have hiI : (i : Int) < ts.length := by omega
    have h0i : (0 : Int) ≤ i := by omega
    have HTT := Lib.hid ht
    clear ht hti
    go_wp2_with fail
    go_loopw [9, 11, 12, 13, 14, 15, 16, 17, 18] (fun a b c _ _ _ _ _ _ wr => ∃ (k : Nat) (x : Int), k ≤ t.slips.length ∧ c = .int .i64 k ∧ a = vi (maskF (goneF ts i ++ t.slips.take k) : Nat) ∧ b = vi x ∧ Hid ((sumT (tkF f) (0, 0) (t.slips.take k)).1 ≤ x ∧ x ≤ (sumT (tkF f) (0, 0) (t.slips.take k)).2) ∧ (0 ≤ x ∧ x ≤ 100000) ∧ Below w.heap.size w wr ∧ Hid (CellsBox wr w.heap.size 28 f.cells) ∧ Hid (RosterAt wr wr.heap.size A1 ts.length ts) ∧ Hid (RowsAt wr wr.heap.size 2 R f.slips.length (D.map spanC))) (fun _ _ c _ _ _ _ _ _ _ => t.slips.length - (intOf c).toNat)
    case atStart => exact ⟨0, 0, Nat.zero_le _, rfl, by rw [List.take_zero, List.append_nil], rfl, ⟨Int.le_refl _, Int.le_refl _⟩, by omega, HB, HX, HT, HR⟩
    clear HX HT HR HB
    obtain ⟨k, x, hk, rfl, rfl, rfl, HS, hxr, HB, HX, HT, HR⟩ := hrel
    obtain ⟨rb, ro, hA1, hrb, hrc⟩ := HT.out.rows.row (by simp; omega)
    have R0 : wr.cell? ⟨rb, ro + i, none⟩ = some (.slice t.ad t.slips.length t.cap) := by
      have := hrc i [t.slice] (by rw [List.getElem?_map, HTT.out]; rfl) 0 t.slice (by omega) rfl
      simpa using this
    have zR := cell_lt R0
    subst hA1
    clear hrc
    by_cases hltk : k < t.slips.length
    · obtain ⟨n, hn⟩ : ∃ n, t.slips[k]? = some n := ⟨_, List.getElem?_eq_getElem hltk⟩
      obtain ⟨s, y, dd, rfl, hsl, hys, hds, hde, hsu, hdt, hmk, hm5⟩ := HI.out k n hn
      obtain ⟨tb, tq, htA, htb, htc⟩ := (HT.out.each t (List.mem_of_getElem? HTT.out)).row (by simp; omega)
      have N0 : wr.cell? ⟨tb, tq + k, none⟩ = some (vi s) := by
        have := htc k [vi s] (by rw [List.getElem?_map, hn]; rfl) 0 (vi s) (by omega) rfl
        simpa using this
      have zN := cell_lt N0
      rw [htA] at R0
      have hkI : (k : Int) < t.slips.length := by omega
      have h0k : (0 : Int) ≤ k := by omega
      have hsI : (s : Int) < f.slips.length := by omega
      have h0s : (0 : Int) ≤ s := by omega
      have a0 := HX.out.cell (j := 0) rfl
      have a1 := HX.out.cell (j := 1) rfl
      have a2 := HX.out.cell (j := 2) rfl
      have a3 := HX.out.cell (j := 3) rfl
      have a4 := HX.out.cell (j := 4) rfl
      have a5 := HX.out.cell (j := 5) rfl
      have za := HX.out.lt
      have htw : hasB 0 ((f.slips.length : Int) - 1) s = true := hasB_iff.2 ⟨by omega, by omega⟩
      have TW := Lib.hid (fun W : World => tween_is htw W)
      have HN := Lib.hid hds
      have hsr := HTR.out y (List.mem_of_getElem? hys)
      have htr1 := hsr.1
      have htr2 := hsr.2.1
      have HYS := Lib.hid hys
      have HDE := Lib.hid hde
      have HSU := Lib.hid hsu
      have HMM := Lib.hid hmk
      have K3 := Lib.hid (fun W h1 h2 => C3.out s y hys W h1 h2)
      have K4 := Lib.hid (fun W h1 h2 => C4.out s y hys W h1 h2)
      have K5 := Lib.hid (fun W h1 h2 => C5.out s y hys W h1 h2)
      obtain ⟨st, hst⟩ : ∃ st, st = stepsF f y := ⟨_, rfl⟩
      obtain ⟨lo, hlo⟩ : ∃ v, v = (takesF f y).1 := ⟨_, rfl⟩
      obtain ⟨hi2, hhi⟩ : ∃ v, v = (takesF f y).2 := ⟨_, rfl⟩
      rw [← hst] at K3 K5
      rw [← hlo, ← hhi] at K4 K5
      have htk := tk_range (f := f) HV.out s
      have hty : tkF f s = takesF f y := by unfold tkF; simp [hys]
      rw [hty, ← hlo, ← hhi] at htk
      have HLO := Lib.hid hlo
      have HHI := Lib.hid hhi
      clear htw htc hn hds hde hsu hmk hys hst hlo hhi hsr hty
      go_wp2_with fail
      refine (TW.out _).mono ?_
      rintro e W4 ⟨rfl, rfl⟩
      clear TW R0 N0 zR zN htA
      go_wp2_with fail
      refine (K3.out _ (HL.out.next HB) (HF.out.to HB)).mono ?_
      rintro e W5 ⟨rfl, hb⟩
      replace HX := Lib.hid (HX.out.keep hb)
      replace HT := Lib.hid (HT.out.to hb)
      replace HR := Lib.hid (HR.out.to hb)
      replace HB := HB.trans (hb.mono HB.size)
      clear hb a0 a1 a2 a3 a4 a5 za
      have a0 := HX.out.cell (j := 0) rfl
      have a1 := HX.out.cell (j := 1) rfl
      have a2 := HX.out.cell (j := 2) rfl
      have a3 := HX.out.cell (j := 3) rfl
      have a4 := HX.out.cell (j := 4) rfl
      have a5 := HX.out.cell (j := 5) rfl
      have za := HX.out.lt
      go_wp2_with fail
      refine (K4.out _ (HL.out.next HB) (HF.out.to HB)).mono ?_
      rintro e W6 ⟨rfl, hb⟩
      replace HX := Lib.hid (HX.out.keep hb)
      replace HT := Lib.hid (HT.out.to hb)
      replace HR := Lib.hid (HR.out.to hb)
      replace HB := HB.trans (hb.mono HB.size)
      clear hb a0 a1 a2 a3 a4 a5 za
      have a0 := HX.out.cell (j := 0) rfl
      have a1 := HX.out.cell (j := 1) rfl
      have a2 := HX.out.cell (j := 2) rfl
      have a3 := HX.out.cell (j := 3) rfl
      have a4 := HX.out.cell (j := 4) rfl
      have a5 := HX.out.cell (j := 5) rfl
      have za := HX.out.lt
      go_wp2_with fail
      have hbA := below1 W6 (.cells #[vi lo, vi hi2] 24)
      have HS1 := CellsBox.new W6 24 [vi lo, vi hi2]
      have HBA := HB.trans (hbA.mono HB.size)
      refine (K5.out _ (HF.out.to HBA) (HBT.out.to HBA)).mono ?_
      rintro e W7 ⟨rr, rfl, hr1, hr2, hb⟩
      have HS1 := Lib.hid (HS1.keep hb)
      replace hb := gr_trans hbA hb
      obtain ⟨b16, hb16⟩ : ∃ b, b = W6.heap.size := ⟨_, rfl⟩
      rw [← hb16] at HS1 ⊢
      clear hb16 hbA HBA
      replace HX := Lib.hid (HX.out.keep hb)
      replace HT := Lib.hid (HT.out.to hb)
      replace HR := Lib.hid (HR.out.to hb)
      replace HB := HB.trans (hb.mono HB.size)
      clear hb a0 a1 a2 a3 a4 a5 za
      have HWF := Lib.hid (with_fact ⟨s, by omega⟩ ⟨_, hm5⟩)
      simp only at HWF
      rw [← HMM.out] at HWF
      go_wp2_with fail
      (refine wp_region_grow_lit (by kernel_rfl) (by kernel_rfl) ?_; (repeat (go_big_quiet_step (fail))); refine wpQuiet_nil ?_; intro w1 hw1; have hb1 := below_of_plus hw1; clear hw1; obtain ⟨⟨hc1, hf1, hs1⟩, hz1⟩ := after hb1; (try simp only [World.size_alloc, World.size_setCell, World.size_drew] at hz1))
      have q1 : dd.1 = (sumT (tkF f) (0, 0) (t.slips.take k)).1 + lo := by rw [HDE.out, HLO.out]; rfl
      have q2 : dd.2 = (sumT (tkF f) (0, 0) (t.slips.take k)).2 + hi2 := by rw [HDE.out, HHI.out]; rfl
      have hxs := HS.out
      rw [HWF.out]
      try rw [IntWalk.wrap64_in (x + rr) ⟨by omega, by omega⟩]
      obtain ⟨xr, hxe⟩ : ∃ v, v = x + rr := ⟨_, rfl⟩
      rw [← hxe]
      have t1 : dd.1 ≤ xr ∧ xr ≤ dd.2 := by omega
      have t2 : 0 ≤ xr ∧ xr ≤ 100000 := by omega
      have hh1 : hasB lo hi2 rr = true := hasB_iff.2 ⟨hr1, hr2⟩
      have hh2 : hasB dd.1 dd.2 xr = true := hasB_iff.2 t1
      have HSN : Hid ((sumT (tkF f) (0, 0) (t.slips.take (k + 1))).1 ≤ xr ∧ xr ≤ (sumT (tkF f) (0, 0) (t.slips.take (k + 1))).2) := by unfold Hid; rw [HSU.out]; exact t1
      have K6 : Hid (∀ W : World, Calls Tryd.prog 41 #[.agg #[vi lo, vi hi2], vi rr] W fun e w' => e = .returned (.bool true) ∧ Below W.heap.size W w') := fun W => by
        have := rhas_any lo hi2 rr W
        rwa [hh1] at this
      have K7 : Hid (∀ W : World, Calls Tryd.prog 41 #[.agg #[vi dd.1, vi dd.2], vi xr] W fun e w' => e = .returned (.bool true) ∧ Below W.heap.size W w') := fun W => by
        have := rhas_any dd.1 dd.2 xr W
        rwa [hh2] at this
      have hb := hb1
      replace HS1 := Lib.hid (HS1.out.keep hb)
      replace HX := Lib.hid (HX.out.keep hb)
      replace HT := Lib.hid (HT.out.to hb)
      replace HR := Lib.hid (HR.out.to hb)
      replace HB := HB.trans (hb.mono HB.size)
      have htl2 : xr ≤ y.till := by omega
      clear hb hb1 hc1 hf1 hs1 hz1 q1 q2 hxs hxe hh1 hh2 hr1 hr2 htk hdt t1 hxr
      have z0 := HS1.out.cell (j := 0) rfl
      have z1 := HS1.out.cell (j := 1) rfl
      have zz := HS1.out.lt
      go_wp2_with fail
      refine (K6.out _).mono ?_
      rintro e W8 ⟨rfl, hb⟩
      replace HX := Lib.hid (HX.out.keep hb)
      replace HT := Lib.hid (HT.out.to hb)
      replace HR := Lib.hid (HR.out.to hb)
      replace HB := HB.trans (hb.mono HB.size)
      clear hb z0 z1 zz HS1 K6
      obtain ⟨db, dq, hRA, hdb, dd0, dd1⟩ := row2 HR.out.row HN.out rfl
      have zd := cell_lt dd0
      have hRAh := Lib.hid hRA
      subst hRA
      go_wp2_with fail
      refine (K7.out _).mono ?_
      rintro e W9 ⟨rfl, hb⟩
      replace HX := Lib.hid (HX.out.keep hb)
      replace HT := Lib.hid (HT.out.to hb)
      replace HR := Lib.hid (HR.out.to hb)
      replace HB := HB.trans (hb.mono HB.size)
      clear hb dd0 dd1 zd hRAh K7
      obtain ⟨bs, os, hsA, hbs, -, s1⟩ := row2 (HF.out.to HB).slips.row HYS.out rfl
      have a5 := HX.out.cell (j := 5) rfl
      rw [hsA] at a5
      have za := HX.out.lt
      have zs := cell_lt s1
      have hgt : decide (y.till < xr) = false := by simp; omega
      clear hsA
      go_wp2_with fail
      go_roundw
      case rel => exact ⟨k + 1, xr, by omega, by go_num, rfl, rfl, HSN, t2, HB, HX, HT, HR⟩
      case measure => simp [intOf]; omega
    · obtain rfl : k = t.slips.length := by omega
      have hg := HG.out
      go_wp2_with fail
      go_roundw
      case rel => exact ⟨i + 1, by omega, by go_num, by rw [hg, List.take_length], HB, HX, HT, HR⟩
      case measure => simp [intOf]; omega
  · obtain rfl : i = ts.length := by omega
    rw [HMK2.out]
    have a5 := HX.out.cell (j := 5) rfl
    have za := HX.out.lt
    have h0l : (0 : Int) ≤ f.slips.length := by omega
    obtain ⟨MM, hMM⟩ : ∃ MM, MM = 2 ^ f.slips.length - 1 := ⟨_, rfl⟩
    have hmm : (MM : Int) = wrap64 (wrap64 (2 ^ f.slips.length) - 1) := by
      rw [hMM]
      exact (all_fact ⟨f.slips.length, by omega⟩).symm
    rw [← hMM]
    have hmb : ((MM : Int) == wrap64 (wrap64 (2 ^ f.slips.length) - 1)) = true := by rw [← hmm]; simp
    clear hMM hmm
    go_wp2_with fail
    refine (works_any _ (HL.out.next HB)).mono ?_
    rintro e W ⟨rfl, hb⟩
    clear a5 za
    (replace HB : Below w.heap.size w W := HB.trans (hb.mono HB.size); clear hb)
    go_wp2_with fail
    go_ret
    exact ⟨rfl, HB⟩
theorem slipTrue_any (f : Floor) (A : Option Addr) (cap : Nat) (bits : List Int) (hr : ∀ x ∈ bits, -9223372036854775808 ≤ x ∧ x ≤ 9223372036854775807) (w : World) (hl : Lim w) (h : FloorAt w w.heap.size f) (hb : IntsAt w w.heap.size A cap bits) :
    Calls Tryd.prog 7 #[f.val, .slice A bits.length cap] w fun e w' => e = .returned (.bool true) ∧ Below w.heap.size w w' := by
  cases hv : validB f with
  | false =>
    have e : checkV f = 30 := by unfold checkV; rw [if_neg (by simp [hv])]
    exact slipTrue_none f A cap bits 30 (.inl ⟨hv, rfl⟩) (by unfold RosterV; rw [if_neg (by rw [e]; decide), e]) w hl h
  | true =>
    have e : checkV f = 0 := by unfold checkV; rw [if_pos hv]
    cases hp : fewF f with
    | none => exact slipTrue_none f A cap bits 4 (.inr ⟨hv, rfl⟩) (by unfold RosterV; rw [if_pos e, hp]) w hl h
    | some p => exact slipTrue_some f A cap bits hr hv p hp w hl h hb
end Go.Proofs.YtomgnpfpaodpiaaDoor

