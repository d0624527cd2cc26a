/- Contract of floor.farthest. -/
import Derived.Test.YtomgnpfpaodpiaaDoorH07
set_option linter.unusedVariables false
set_option linter.unusedSimpArgs false
namespace Go.Proofs.YtomgnpfpaodpiaaDoor
open Go Go.RowKit
set_option maxHeartbeats 2000000
theorem last_is {p : List Int} {o : Option Nat} (ho : lastF p = o) (hp : p.length = 12) (w : World) :
    Calls Tryd.prog 113 #[piecesV p] w fun e w' => e = .returned (.tuple #[vi (lastI o), .bool o.isSome]) ∧ Below w.heap.size w w' := by
  subst ho
  exact last_any p hp w
theorem move_cases {p : List Int} {m : Int} (hp : Twelve m p) (k : Nat) : lastF (movesF k p).1 = none ∨ ∃ (s : Nat) (n r : Int), lastF (movesF k p).1 = some s ∧ s < 12 ∧ (movesF k p).1[s]?.getD 0 = n ∧ (1 ≤ n ∧ n ≤ m) ∧ (movesF k p).2[s]?.getD 0 = r ∧ (0 ≤ r ∧ r ≤ k) ∧ (movesF (k + 1) p).1 = (movesF k p).1.set s (n - 1) ∧ (movesF (k + 1) p).2 = (movesF k p).2.set s (r + 1) := by
  obtain ⟨h1, h2, -⟩ := moves_ok hp k
  have h3 := lastF_is (movesF k p).1
  cases hl : lastF (movesF k p).1 with
  | none => exact .inl rfl
  | some s =>
    rw [hl] at h3
    obtain ⟨⟨n, e, hn⟩, -⟩ := h3
    have hs : s < 12 := by have := (List.getElem?_eq_some_iff.1 e).1; rw [h1.len] at this; exact this
    obtain ⟨n', e', g1, g2⟩ := h1.at_ hs
    obtain ⟨r, e2, g3, g4⟩ := h2.at_ hs
    rw [e] at e'
    cases e'
    refine .inr ⟨s, n, r, rfl, hs, by rw [e]; rfl, ⟨by omega, g2⟩, by rw [e2]; rfl, ⟨g3, g4⟩, ?_, ?_⟩
    · rw [movesF_succ]; unfold moveF; rw [hl]; simp [e]
    · rw [movesF_succ]; unfold moveF; rw [hl]; simp [e2]
theorem farthest_any (f : Floor) (c : Nat) (hc : f.carry = c) (hc1 : c ≤ 1000) (p : List Int) (hp : Twelve 1000000 p) (w : World) :
    Calls Tryd.prog 95 #[f.val, piecesV p] w fun e w' => e = .returned (piecesV (farthestF c p)) ∧ Below w.heap.size w w' := by
  have HX : Hid (∀ k, _) := fun k => move_cases hp k
  have HL : Hid (∀ k, ((movesF k p).1.length = 12)) := fun k => (moves_ok hp k).1.len
  have HEND : Hid (∀ k, k ≤ c → lastF (movesF k p).1 = none → (movesF k p).2 = farthestF c p) := fun k hk h => by
    have := moves_stop h (c - k)
    rw [show k + (c - k) = c by omega] at this
    rw [farthest_is, this]
  have HA : Hid ((movesF c p).2 = farthestF c p) := rfl
  have HP0 : Hid ((movesF 0 p).1 = p) := rfl
  have HQ0 : Hid ((movesF 0 p).2 = [0, 0, 0, 0, 0, 0, 0, 0, 0, 0, 0, 0]) := rfl
  have LAST := Lib.hid (fun (q : List Int) (o : Option Nat) (ho : lastF q = o) (hq : q.length = 12) (W : World) => last_is ho hq W)
  obtain ⟨R, hR⟩ : ∃ R, R = farthestF c p := ⟨_, rfl⟩
  obtain ⟨S, hS⟩ : ∃ S, S = fun k => (movesF k p).1 := ⟨_, rfl⟩
  obtain ⟨T, hT⟩ : ∃ T, T = fun k => (movesF k p).2 := ⟨_, rfl⟩
  have eS : ∀ k, (movesF k p).1 = S k := fun k => by rw [hS]
  have eT : ∀ k, (movesF k p).2 = T k := fun k => by rw [hT]
  simp only [eS, eT] at HX HL HEND HA HP0 HQ0
  rw [← hR] at HEND HA ⊢
  clear eS eT hS hT hR
  obtain ⟨n0, n1, n2, n3, n4, n5, n6, n7, n8, n9, n10, n11, hpp⟩ := spread hp.len
  rw [hpp] at HP0 ⊢
  clear hpp hp
  obtain ⟨fA, fC, ff, slo, shi, pA, pC, fp, fc, sA, sC, fs⟩ := f
  simp only at hc
  subst hc
  show Calls Tryd.prog 95 #[.agg #[.slice fA ff.length fC, vi slo, vi shi, .slice pA fp.length pC, vi c, .slice sA fs.length sC], .agg #[vi n0, vi n1, vi n2, vi n3, vi n4, vi n5, vi n6, vi n7, vi n8, vi n9, vi n10, vi n11]] w _
  go_enter Tryd.func95, Tryd.ntmps95
  go_wp2_with fail
  go_loopw [6, 7, 11] (fun x y i wr => ∃ k : Nat, k ≤ c ∧ i = .int .i64 k ∧ Below w.heap.size w wr ∧ ArrAt wr (w.heap.size + 1) (S k) ∧ ArrAt wr (w.heap.size + 3) (T k) ∧ ArrAt wr (w.heap.size + 2) [0, 0, 0, 0, 0, 0, 0, 0, 0, 0, 0, 0]) (fun _ _ i _ => c - (intOf i).toNat)
  case atStart =>
    refine ⟨0, Nat.zero_le _, rfl, by (repeat (first | exact Below.refl _ _ | refine Below.setCell ?_ (by first | omega | (simp; omega) | (simp; done)) _ | refine Below.alloc ?_ (by first | omega | (simp; omega) | (simp; done)) _ | refine Below.drew ?_ | refine below_drewN ?_ _ | refine Below.trans ?_ (Below.mono (by assumption) (by first | omega | (simp; omega) | (simp; done))))), ?_, ?_, ?_⟩
    · rw [HP0.out]
      exact arr_new (by simp [go_sem]) (by simp [go_sem])
    · rw [HQ0.out]
      exact arr_new (by simp [go_sem]) (by simp [go_sem])
    · exact arr_new (by simp [go_sem]) (by simp [go_sem])
  obtain ⟨k, hk, rfl, hB, hX, hY, hZ⟩ := hrel
  by_cases hlt : k < c
  · obtain ⟨m0, m1, m2, m3, m4, m5, m6, m7, m8, m9, m10, m11, hM⟩ := spread (HL.out k)
    have hX2 := hX
    rw [hM] at hX2
    obtain ⟨c0, c1, c2, c3, c4, c5, c6, c7, c8, c9, c10, c11⟩ := hX2.cells
    have hkI : (k : Int) < c := by omega
    have hz := hX.lt
    have HXX := Lib.hid hX
    have HYY := Lib.hid hY
    have HZZ := Lib.hid hZ
    rcases HX.out k with ho | ⟨s, n, r, ho, s12, hn, ⟨n1, n2⟩, hr, ⟨r1, r2⟩, S1, T1⟩
    · have hR := HEND.out k hk ho
      rw [hM] at ho
      have HO := Lib.hid ho
      have HRR := Lib.hid hR
      clear hX hY hZ hX2 hM ho hR
      go_wp2_with fail
      refine (LAST.out [m0, m1, m2, m3, m4, m5, m6, m7, m8, m9, m10, m11] _ HO.out rfl _).mono ?_
      rintro e W2 ⟨rfl, hb2⟩
      have HB2 : Below w.heap.size w W2 := hB.trans (hb2.mono hB.size)
      have hX := HXX.out.keep hb2
      have hY := HYY.out.keep hb2
      have hZ := HZZ.out.keep hb2
      rw [HRR.out] at hY
      clear hb2 c0 c1 c2 c3 c4 c5 c6 c7 c8 c9 c10 c11 HXX HYY HZZ HX HL HEND HA HP0 HQ0 HRR HO LAST
      obtain ⟨r0, r1, r2, r3, r4, r5, r6, r7, r8, r9, r10, r11, rfl⟩ := spread hY.len
      obtain ⟨c0, c1, c2, c3, c4, c5, c6, c7, c8, c9, c10, c11⟩ := hY.cells
      obtain ⟨d0, d1, d2, d3, d4, d5, d6, d7, d8, d9, d10, d11⟩ := hZ.cells
      obtain ⟨e0, e1, e2, e3, e4, e5, e6, e7, e8, e9, e10, e11⟩ := hZ.softs
      have HZZ : Hid (ArrAt W2 (w.heap.size + 1 + 1) [0, 0, 0, 0, 0, 0, 0, 0, 0, 0, 0, 0]) := hZ
      clear hX hY hZ
      go_wp2_with fail
      clear c0 c1 c2 c3 c4 c5 c6 c7 c8 c9 c10 c11 d0 d1 d2 d3 d4 d5 d6 d7 d8 d9 d10 d11 e0 e1 e2 e3 e4 e5 e6 e7 e8 e9 e10 e11
      refine (?key : ∀ W9 : World, ArrAt W9 (w.heap.size + 1 + 1) [r0, r1, r2, r3, r4, r5, r6, r7, r8, r9, r10, r11] ∧ Below w.heap.size w W9 → bodyPost _ _ _ _ _ W9) _ (HZZ.out.setBoth HB2 (by omega) r0 r1 r2 r3 r4 r5 r6 r7 r8 r9 r10 r11)
      case key =>
        intro W9 ⟨Z, B9⟩
        obtain ⟨c0, c1, c2, c3, c4, c5, c6, c7, c8, c9, c10, c11⟩ := Z.cells
        refine bodyPost_ret (v := .agg #[vi r0, vi r1, vi r2, vi r3, vi r4, vi r5, vi r6, vi r7, vi r8, vi r9, vi r10, vi r11]) (by simp [results, Tryd.results95, go_sem, c0, c1, c2, c3, c4, c5, c6, c7, c8, c9, c10, c11]) rfl ⟨rfl, B9⟩
    · rw [hM] at ho
      have HO := Lib.hid ho
      have S1 := Lib.hid S1
      have T1 := Lib.hid T1
      have hcS := hX.cell s s12
      have hcT := hY.cell s s12
      have hfS := hX.soft s s12
      have hfT := hY.soft s s12
      rw [hn] at hcS
      rw [hr] at hcT
      have hsI : (s : Int) < 12 := by omega
      have h0s : (0 : Int) ≤ s := by omega
      clear hX hY hZ hX2 hM ho hn hr HX HL HEND HA HP0 HQ0
      go_wp2_with fail
      refine (LAST.out [m0, m1, m2, m3, m4, m5, m6, m7, m8, m9, m10, m11] _ HO.out rfl _).mono ?_
      rintro e W2 ⟨rfl, hb2⟩
      have HB2 : Below w.heap.size w W2 := hB.trans (hb2.mono hB.size)
      have HXX2 := Lib.hid (HXX.out.keep hb2)
      have HYY2 := Lib.hid (HYY.out.keep hb2)
      have HZZ2 := Lib.hid (HZZ.out.keep hb2)
      have k1 := cell_keep hb2 hcS
      have k2 := cell_keep hb2 hcT
      have f1 := soft_keep hb2 (by omega) hfS
      have f2 := soft_keep hb2 (by have := HYY.out.lt; simpa using this) hfT
      have hz2 := HXX2.out.lt
      have hz3 := HYY2.out.lt
      clear hb2 c0 c1 c2 c3 c4 c5 c6 c7 c8 c9 c10 c11 hcS hcT hfS hfT HXX HYY HZZ LAST HO
      rw [show lastI (some s) = (s : Int) from rfl, show (some s).isSome = true from rfl]
      go_wp2_with fail
      go_roundw
      case rel =>
        refine ⟨k + 1, by omega, by go_num, by (repeat (first | exact Below.refl _ _ | refine Below.setCell ?_ (by first | omega | (simp; omega) | (simp; done)) _ | refine Below.alloc ?_ (by first | omega | (simp; omega) | (simp; done)) _ | refine Below.drew ?_ | refine below_drewN ?_ _ | refine Below.trans ?_ (Below.mono (by assumption) (by first | omega | (simp; omega) | (simp; done))))), ?_, ?_, (HZZ2.out.apart (by omega) _).apart (by omega) _⟩
        · rw [S1.out]
          exact (HXX2.out.set s s12 _).apart (by omega) _
        · rw [T1.out]
          exact (HYY2.out.apart (by omega) _).set s s12 _
      case measure => simp [intOf]; omega
  · obtain rfl : k = c := by omega
    rw [HA.out] at hY
    clear HX HL HEND HA HP0 HQ0 LAST
    obtain ⟨r0, r1, r2, r3, r4, r5, r6, r7, r8, r9, r10, r11, rfl⟩ := spread hY.len
    obtain ⟨c0, c1, c2, c3, c4, c5, c6, c7, c8, c9, c10, c11⟩ := hY.cells
    obtain ⟨d0, d1, d2, d3, d4, d5, d6, d7, d8, d9, d10, d11⟩ := hZ.cells
    obtain ⟨e0, e1, e2, e3, e4, e5, e6, e7, e8, e9, e10, e11⟩ := hZ.softs
    have HZZ : Hid (ArrAt wr (w.heap.size + 1 + 1) [0, 0, 0, 0, 0, 0, 0, 0, 0, 0, 0, 0]) := hZ
    clear hX hY hZ
    go_wp2_with fail
    clear c0 c1 c2 c3 c4 c5 c6 c7 c8 c9 c10 c11 d0 d1 d2 d3 d4 d5 d6 d7 d8 d9 d10 d11 e0 e1 e2 e3 e4 e5 e6 e7 e8 e9 e10 e11
    refine (?key : ∀ W9 : World, ArrAt W9 (w.heap.size + 1 + 1) [r0, r1, r2, r3, r4, r5, r6, r7, r8, r9, r10, r11] ∧ Below w.heap.size w W9 → bodyPost _ _ _ _ _ W9) _ (HZZ.out.setBoth hB (by omega) r0 r1 r2 r3 r4 r5 r6 r7 r8 r9 r10 r11)
    case key =>
      intro W9 ⟨Z, B9⟩
      obtain ⟨c0, c1, c2, c3, c4, c5, c6, c7, c8, c9, c10, c11⟩ := Z.cells
      refine bodyPost_ret (v := .agg #[vi r0, vi r1, vi r2, vi r3, vi r4, vi r5, vi r6, vi r7, vi r8, vi r9, vi r10, vi r11]) (by simp [results, Tryd.results95, go_sem, c0, c1, c2, c3, c4, c5, c6, c7, c8, c9, c10, c11]) rfl ⟨rfl, B9⟩
end Go.Proofs.YtomgnpfpaodpiaaDoor

/- Contract of floor.isTour. -/
namespace Go.Proofs.YtomgnpfpaodpiaaDoor
open Go Go.RowKit
set_option maxHeartbeats 2000000
theorem linesB_ok {n : Int} {l : List SLine} (h : linesB n l = true) : 1 ≤ l.length ∧ l.length ≤ 12 ∧ ∀ (k : Nat) (x : SLine), l[k]? = some x → 0 ≤ x.shelf ∧ x.shelf < n ∧ 1 ≤ x.many ∧ x.many ≤ 20 := by
  unfold linesB at h
  rw [Bool.and_eq_true, List.all_eq_true] at h
  obtain ⟨h1, h2⟩ := h
  simp only [hasB, Bool.and_eq_true, decide_eq_true_eq] at h1
  have good : ∀ (k : Nat) (x : SLine), l[k]? = some x → nextF l k ≤ x.shelf ∧ x.shelf < n ∧ 1 ≤ x.many ∧ x.many ≤ 20 := fun k x hx => by
    have hk := (List.getElem?_eq_some_iff.1 hx).1
    have := h2 k (List.mem_range.2 hk)
    rw [goodLine_of hx] at this
    simp only [hasB, Bool.and_eq_true, decide_eq_true_eq] at this
    omega
  have next : ∀ (k : Nat), k ≤ l.length → 0 ≤ nextF l k := by
    intro k
    induction k with
    | zero => intro _; simp [nextF]
    | succ k ih =>
      intro hk
      have hx : l[k]? = some l[k] := List.getElem?_eq_getElem (by omega)
      have := ih (by omega)
      have := (good k _ hx).1
      rw [nextF_succ hx]
      omega
  refine ⟨by omega, by omega, fun k x hx => ?_⟩
  have hk := (List.getElem?_eq_some_iff.1 hx).1
  have g := good k x hx
  have := next k (by omega)
  omega
def sumK (l : List SLine) (k : Nat) : Int := ((l.take k).map SLine.many).sum
theorem sumK_succ {l : List SLine} {k : Nat} {x : SLine} (h : l[k]? = some x) : sumK l (k + 1) = sumK l k + x.many := by
  obtain ⟨hk, rfl⟩ := List.getElem?_eq_some_iff.1 h
  unfold sumK
  rw [List.take_succ_eq_append_getElem hk, List.map_append, List.sum_append]
  simp
theorem sumK_range {l : List SLine} (h : ∀ (k : Nat) (x : SLine), l[k]? = some x → 1 ≤ x.many ∧ x.many ≤ 20) : ∀ k : Nat, k ≤ l.length → 0 ≤ sumK l k ∧ sumK l k ≤ 20 * k
  | 0, _ => by simp [sumK]
  | k + 1, hk => by
    have hx : l[k]? = some l[k] := List.getElem?_eq_getElem (by omega)
    have := sumK_range h k (by omega)
    have := h k _ hx
    rw [sumK_succ hx]
    omega
def togetherF (l : List SLine) : Int := (l.map SLine.many).sum
theorem sumK_all (l : List SLine) : sumK l l.length = togetherF l := by unfold sumK togetherF; rw [List.take_length]
def tourB (f : Floor) (l : List SLine) : Bool := linesB f.far.length l && decide (togetherF l ≤ f.carry)
theorem isTour_any (f : Floor) (A : Option Addr) (cap : Nat) (l : List SLine) (hf : f.far.length ≤ 35184372088832) (w : World) (hl : Lim w) (h : SLinesAt w w.heap.size A l.length l) :
    Calls Tryd.prog 87 #[f.val, .slice A l.length cap] w fun e w' => e = .returned (.bool (tourB f l)) ∧ Below w.heap.size w w' := by
  have hll := h.lens
  have HL := Lib.hid hl
  have HH := Lib.hid h
  obtain ⟨an, han⟩ : ∃ an, an = tourB f l := ⟨_, rfl⟩
  rcases hv : linesB f.far.length l with _ | _
  · have E : Hid (an = false) := by unfold Hid; rw [han]; simp [tourB, hv]
    have LI := Lib.hid (fun (W : World) hL hW => lines_is hv A cap hf W hL hW)
    rw [← han]
    clear han hv hl h
    obtain ⟨fA, fC, ff, slo, shi, pA, pC, fp, fc, sA, sC, fs⟩ := f
    show Calls Tryd.prog 87 #[.agg #[.slice fA ff.length fC, vi slo, vi shi, .slice pA fp.length pC, vi fc, .slice sA fs.length sC], .slice A l.length cap] w _
    go_enter Tryd.func87, Tryd.ntmps87
    go_wp2_with fail
    refine (LI.out _ (HL.out.next (by (repeat (first | exact Below.refl _ _ | refine Below.setCell ?_ (by first | omega | (simp; omega) | (simp; done)) _ | refine Below.alloc ?_ (by first | omega | (simp; omega) | (simp; done)) _ | refine Below.drew ?_ | refine below_drewN ?_ _ | refine Below.trans ?_ (Below.mono (by assumption) (by first | omega | (simp; omega) | (simp; done))))))) (HH.out.to (by (repeat (first | exact Below.refl _ _ | refine Below.setCell ?_ (by first | omega | (simp; omega) | (simp; done)) _ | refine Below.alloc ?_ (by first | omega | (simp; omega) | (simp; done)) _ | refine Below.drew ?_ | refine below_drewN ?_ _ | refine Below.trans ?_ (Below.mono (by assumption) (by first | omega | (simp; omega) | (simp; done)))))))).mono ?_
    rintro e W ⟨rfl, hb⟩
    have HB0 : Below w.heap.size w W := by (repeat (first | exact Below.refl _ _ | refine Below.setCell ?_ (by first | omega | (simp; omega) | (simp; done)) _ | refine Below.alloc ?_ (by first | omega | (simp; omega) | (simp; done)) _ | refine Below.drew ?_ | refine below_drewN ?_ _ | refine Below.trans ?_ (Below.mono (by assumption) (by first | omega | (simp; omega) | (simp; done)))))
    clear hb
    go_wp2_with fail
    go_ret
    exact ⟨retB E.out.symm, HB0⟩
  · have E : Hid (an = decide (togetherF l ≤ f.carry)) := by unfold Hid; rw [han]; simp [tourB, hv]
    have LI := Lib.hid (fun (W : World) hL hW => lines_is hv A cap hf W hL hW)
    obtain ⟨l1, l2, each⟩ := linesB_ok hv
    have HX : Hid (∀ (k : Nat) (x : SLine), l[k]? = some x → (1 ≤ x.many ∧ x.many ≤ 20) ∧ (0 ≤ sumK l k ∧ sumK l k ≤ 240) ∧ sumK l (k + 1) = sumK l k + x.many) := fun k x hx => by
      have hk := (List.getElem?_eq_some_iff.1 hx).1
      have := sumK_range (fun k x hx => (each k x hx).2.2) k (by omega)
      exact ⟨(each k x hx).2.2, by omega, sumK_succ hx⟩
    have HA := Lib.hid (sumK_all l)
    have H0 : Hid (sumK l 0 = 0) := by simp [sumK, Hid]
    obtain ⟨S, hS⟩ : ∃ S, S = sumK l := ⟨_, rfl⟩
    rw [← hS] at HX HA H0
    rw [← han]
    clear han hv hl h each hS
    obtain ⟨fA, fC, ff, slo, shi, pA, pC, fp, fc, sA, sC, fs⟩ := f
    simp only at E
    show Calls Tryd.prog 87 #[.agg #[.slice fA ff.length fC, vi slo, vi shi, .slice pA fp.length pC, vi fc, .slice sA fs.length sC], .slice A l.length cap] w _
    go_enter Tryd.func87, Tryd.ntmps87
    go_wp2_with fail
    refine (LI.out _ (HL.out.next (by (repeat (first | exact Below.refl _ _ | refine Below.setCell ?_ (by first | omega | (simp; omega) | (simp; done)) _ | refine Below.alloc ?_ (by first | omega | (simp; omega) | (simp; done)) _ | refine Below.drew ?_ | refine below_drewN ?_ _ | refine Below.trans ?_ (Below.mono (by assumption) (by first | omega | (simp; omega) | (simp; done))))))) (HH.out.to (by (repeat (first | exact Below.refl _ _ | refine Below.setCell ?_ (by first | omega | (simp; omega) | (simp; done)) _ | refine Below.alloc ?_ (by first | omega | (simp; omega) | (simp; done)) _ | refine Below.drew ?_ | refine below_drewN ?_ _ | refine Below.trans ?_ (Below.mono (by assumption) (by first | omega | (simp; omega) | (simp; done)))))))).mono ?_
    rintro e W ⟨rfl, hb⟩
    have HB0 : Below w.heap.size w W := by (repeat (first | exact Below.refl _ _ | refine Below.setCell ?_ (by first | omega | (simp; omega) | (simp; done)) _ | refine Below.alloc ?_ (by first | omega | (simp; omega) | (simp; done)) _ | refine Below.drew ?_ | refine below_drewN ?_ _ | refine Below.trans ?_ (Below.mono (by assumption) (by first | omega | (simp; omega) | (simp; done)))))
    have a4 : W.cell? ⟨w.heap.size, 4, none⟩ = some (vi fc) := cell_keep hb (by simp [go_sem])
    clear hb
    go_wp2_with fail
    go_loopw [5, 14] (fun x i wr => ∃ k : Nat, k ≤ l.length ∧ i = .int .i64 k ∧ Below W.heap.size W wr ∧ x = vi (S k)) (fun _ i _ => l.length - (intOf i).toNat)
    case atStart => exact ⟨0, Nat.zero_le _, rfl, Below.refl _ _, by rw [H0.out]⟩
    obtain ⟨k, hk, rfl, hB, rfl⟩ := hrel
    have HBr : Below w.heap.size w wr := HB0.trans (hB.mono HB0.size)
    have a4r := cell_keep hB a4
    have hz := hB.size
    by_cases hlt : k < l.length
    · obtain ⟨x, hx⟩ : ∃ x, l[k]? = some x := ⟨_, List.getElem?_eq_getElem hlt⟩
      obtain ⟨⟨m1, m2⟩, ⟨s1, s2⟩, S1⟩ := HX.out k x hx
      obtain ⟨bb, off, rfl, hbb, x0, x1⟩ := row2 (HH.out.to HBr).row hx rfl
      obtain ⟨xs, xm⟩ := x
      simp only at m1 m2 S1 x0 x1
      have S1 := Lib.hid S1
      have hkI : (k : Int) < l.length := by omega
      have h0k : (0 : Int) ≤ k := by omega
      obtain ⟨sk, hsk⟩ : ∃ sk, sk = S k := ⟨_, rfl⟩
      rw [← hsk] at s1 s2 S1 ⊢
      clear hx hsk
      go_wp2_with fail
      go_roundw
      case rel => exact ⟨k + 1, by omega, by go_num, hB.alloc hz _, by rw [S1.out]⟩
      case measure => simp [intOf]; omega
    · obtain rfl : k = l.length := by omega
      rw [HA.out] at *
      go_wp2_with fail
      go_ret
      exact ⟨retB E.out.symm, HBr⟩
end Go.Proofs.YtomgnpfpaodpiaaDoor

/- Contract of floor.areTours. -/
namespace Go.Proofs.YtomgnpfpaodpiaaDoor
open Go Go.RowKit
set_option maxHeartbeats 2000000
structure STour where
  ad : Option Addr
  cap : Nat
  lines : List SLine
abbrev STour.slice (t : STour) : Value := .slice t.ad t.lines.length t.cap
def STour.cells (t : STour) : List Value := [t.slice]
structure ToursAt (w : World) (B : Nat) (A : Option Addr) (cap : Nat) (ts : List STour) : Prop where
  rows : RowsAt w B 1 A cap (ts.map STour.cells)
  each : ∀ t ∈ ts, SLinesAt w B t.ad t.cap t.lines
theorem ToursAt.to {w w' : World} {A : Option Addr} {cap : Nat} {ts : List STour} (h : ToursAt w w.heap.size A cap ts) (hb : Below w.heap.size w w') : ToursAt w' w'.heap.size A cap ts := ⟨h.rows.to hb, fun t ht => (h.each t ht).to hb⟩
/-- the cell of the k-th element of a row of one -/
theorem row1 {w : World} {B : Nat} {A : Option Addr} {α : Type} {enc : α → List Value} {l : List α} (h : RowAt w B 1 A (l.map enc)) {k : Nat} {x : α} {c0 : Value} (hx : l[k]? = some x) (he : enc x = [c0]) :
    ∃ b off, A = some ⟨b, off, none⟩ ∧ b < B ∧ w.cell? ⟨b, off + k, none⟩ = some c0 := by
  have hk : k < l.length := (List.getElem?_eq_some_iff.1 hx).1
  obtain ⟨b, off, hA, hb, hc⟩ := h (by rw [List.length_map]; omega)
  have hr : (l.map enc)[k]? = some [c0] := by rw [List.getElem?_map, hx]; simp [he]
  exact ⟨b, off, hA, hb, by simpa using hc k _ hr 0 c0 (by omega) rfl⟩
def leftK (p : List Int) (ts : List STour) (k : Nat) : List Int := (ts.take k).foldl (fun p t => withoutF p (piecesF t.lines)) p
def toursB (f : Floor) (p : List Int) (ts : List STour) : Bool := ts.all (fun t => tourB f t.lines) && decide (leftK p ts ts.length = [0, 0, 0, 0, 0, 0, 0, 0, 0, 0, 0, 0])
theorem leftK_succ {p : List Int} {ts : List STour} {k : Nat} {t : STour} (h : ts[k]? = some t) : leftK p ts (k + 1) = withoutF (leftK p ts k) (piecesF t.lines) := by
  obtain ⟨hk, rfl⟩ := List.getElem?_eq_some_iff.1 h
  unfold leftK
  rw [List.take_succ_eq_append_getElem hk, List.foldl_append]
  rfl
theorem lines_good {n : Int} {l : List SLine} (hn : n ≤ 12) (h : linesB n l = true) : LinesOk l ∧ Twelve 12000 (piecesF l) := by
  obtain ⟨h1, h2, h3⟩ := linesB_ok h
  have ok : LinesOk l := ⟨by omega, fun x hx => by
    obtain ⟨k, hk, e⟩ := List.mem_iff_getElem.1 hx
    have := h3 k x (by rw [List.getElem?_eq_getElem hk, e])
    omega⟩
  have := piecesK_ok ok l.length (Nat.le_refl _)
  rw [piecesK_all] at this
  exact ⟨ok, this.wide (by omega)⟩
theorem withoutF_len {p q : List Int} (hp : p.length = 12) (hq : q.length = 12) : (withoutF p q).length = 12 := by
  unfold withoutF
  simp [hp, hq]
theorem withoutF_mem {p q : List Int} {n : Int} (h : n ∈ withoutF p q) : ∃ a ∈ p, ∃ b ∈ q, n = a - b := by
  unfold withoutF at h
  obtain ⟨⟨a, b⟩, h1, rfl⟩ := List.mem_map.1 h
  exact ⟨a, (List.of_mem_zip h1).1, b, (List.of_mem_zip h1).2, rfl⟩
theorem leftK_ok {p : List Int} {ts : List STour} (hp : Twelve 12000 p) : ∀ k : Nat, k ≤ ts.length → (∀ (j : Nat) (t : STour), j < k → ts[j]? = some t → Twelve 12000 (piecesF t.lines)) → (leftK p ts k).length = 12 ∧ ∀ n ∈ leftK p ts k, -(12000 * (k : Int)) ≤ n ∧ n ≤ 12000
  | 0, _, _ => ⟨hp.len, fun n hn => by have h1 := hp.pos n hn; have h2 := hp.top n hn; omega⟩
  | k + 1, hk, ht => by
    obtain ⟨i1, i2⟩ := leftK_ok hp k (by omega) (fun j t hj => ht j t (by omega))
    have hx : ts[k]? = some ts[k] := List.getElem?_eq_getElem (by omega)
    have hq := ht k _ (by omega) hx
    rw [leftK_succ hx]
    refine ⟨withoutF_len i1 hq.len, fun n hn => ?_⟩
    obtain ⟨a, ha, b, hb, rfl⟩ := withoutF_mem hn
    have h1 := i2 a ha
    have h2 := hq.pos b hb
    have h3 := hq.top b hb
    omega
theorem piecesOf_is {l : List SLine} {p : List Int} (hp : piecesF l = p) (hok : LinesOk l) (A : Option Addr) (cap : Nat) (w : World) (h : SLinesAt w w.heap.size A cap l) :
    Calls Tryd.prog 86 #[.slice A l.length cap] w fun e w' => e = .returned (piecesV p) ∧ Below w.heap.size w w' := by
  subst hp
  exact piecesOf_any A cap l hok w h.short
theorem tour_is {f : Floor} {l : List SLine} {b : Bool} (hb : tourB f l = b) (A : Option Addr) (cap : Nat) (hf : f.far.length ≤ 35184372088832) (w : World) (hl : Lim w) (h : SLinesAt w w.heap.size A cap l) :
    Calls Tryd.prog 87 #[f.val, .slice A l.length cap] w fun e w' => e = .returned (.bool b) ∧ Below w.heap.size w w' := by
  subst hb
  exact isTour_any f A cap l hf w hl h.short
theorem without_is {p q r : List Int} (hr : withoutF p q = r) (hp : p.length = 12) (hq : q.length = 12) (hpb : ∀ n ∈ p, -1152921504606846976 ≤ n ∧ n ≤ 1152921504606846976) (hqb : ∀ n ∈ q, -1000000 ≤ n ∧ n ≤ 1000000) (w : World) :
    Calls Tryd.prog 88 #[piecesV p, piecesV q] w fun e w' => e = .returned (piecesV r) ∧ Below w.heap.size w w' := by
  subst hr
  exact without_any p q hp hq hpb hqb w
end Go.Proofs.YtomgnpfpaodpiaaDoor

/- Two arrays of twelve numbers compared. -/
namespace Go.Proofs.YtomgnpfpaodpiaaDoor
open Go Go.RowKit
set_option maxHeartbeats 2000000
set_option maxRecDepth 100000 in
theorem part12 {q : List Int} (h : q.length = 12) (k : Nat) (hk : k < 12) (w : World) : (part 3 (q.map vi).toArray (k * 1)).run Tryd.prog w = .ok (vi (q[k]?.getD 0)) w := by
  obtain ⟨n0, n1, n2, n3, n4, n5, n6, n7, n8, n9, n10, n11, rfl⟩ := spread h
  have hk : k = 0 ∨ k = 1 ∨ k = 2 ∨ k = 3 ∨ k = 4 ∨ k = 5 ∨ k = 6 ∨ k = 7 ∨ k = 8 ∨ k = 9 ∨ k = 10 ∨ k = 11 := by omega
  rcases hk with rfl | rfl | rfl | rfl | rfl | rfl | rfl | rfl | rfl | rfl | rfl | rfl <;> (show (_ : Result _) = _; kernel_rfl)
theorem size_int (w : World) : (sizeOf 3).run Tryd.prog w = .ok 1 w := by
  show (_ : Result _) = _
  kernel_rfl
theorem eq12 {x y : List Int} (hx : x.length = 12) (hy : y.length = 12) (d : Nat) (w : World) : (Op.equalIn (d + 2) 102 (.agg (x.map vi).toArray) (.agg (y.map vi).toArray)).run Tryd.prog w = .ok (decide (x = y)) w := by
  unfold Op.equalIn
  simp only [Sem.run_bind, run_underlying Tryd.underlying102, Result.andThen_ok, size_int]
  simp only [Std.Legacy.Range.forIn_eq_forIn_range', Std.Legacy.Range.size, Nat.sub_zero, Nat.add_one_sub_one, Nat.div_one]
  have key : ∀ (is : List Nat) (w : World), (∀ i ∈ is, i < 12) → ((forIn is ((none : Option Bool), ()) fun i __s => do
            let a ← part 3 (List.map vi x).toArray (i * 1)
            let b ← part 3 (List.map vi y).toArray (i * 1)
            let c ← Op.equalIn (d + 1) 3 a b
            if (!c) = true then pure (ForInStep.done (some false, ())) else pure (ForInStep.yield ((none : Option Bool), ())) : Sem (Option Bool × Unit)).run Tryd.prog w) = .ok (if is.all (fun i => x[i]?.getD 0 == y[i]?.getD 0) then (none, ()) else (some false, ())) w := by
    intro is
    induction is with
    | nil => intro w _; simp
    | cons i is ih =>
      intro w hi
      have h1 := hi i (by simp)
      simp only [List.forIn_cons, Sem.run_bind, part12 hx i h1, part12 hy i h1, Result.andThen_ok, run_equalIn_int _ _ _ _ _ _ _ Tryd.underlying3]
      by_cases e : x[i]?.getD 0 = y[i]?.getD 0
      · have := ih w (fun j hj => hi j (by simp [hj]))
        simpa [e] using this
      · simp [e]
  rw [key _ w (fun i hi => by simp [List.mem_range'] at hi; omega)]
  have hall : ((List.range' 0 12).all (fun i => x[i]?.getD 0 == y[i]?.getD 0)) = decide (x = y) := by
    rw [Bool.eq_iff_iff, List.all_eq_true, decide_eq_true_iff]
    constructor
    · intro h
      apply List.ext_getElem (by omega)
      intro i h1 h2
      have := h i (by simp [List.mem_range']; omega)
      simpa [h1, h2] using this
    · rintro rfl i _
      simp
  rw [hall]
  by_cases e : x = y
  · simp [e]
  · simp [e]
end Go.Proofs.YtomgnpfpaodpiaaDoor

