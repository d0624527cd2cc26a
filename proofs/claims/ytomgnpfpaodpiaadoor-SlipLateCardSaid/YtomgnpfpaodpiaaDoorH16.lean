/- Contracts of pace.seconds, least and most. -/
import Derived.Test.YtomgnpfpaodpiaaDoorH09
import Derived.Test.YtomgnpfpaodpiaaDoorH06
set_option linter.unusedVariables false
set_option linter.unusedSimpArgs false
namespace Go.Proofs.YtomgnpfpaodpiaaDoor
open Go Go.RowKit
set_option maxHeartbeats 2000000
theorem picks_ok {f : Floor} (hv : validB f = true) (k : Nat) : (0 ≤ ((f.picks[k]?).getD (0, 0)).1 ∧ ((f.picks[k]?).getD (0, 0)).1 ≤ 300) ∧ (0 ≤ ((f.picks[k]?).getD (0, 0)).2 ∧ ((f.picks[k]?).getD (0, 0)).2 ≤ 300) := by
  obtain ⟨p1, p2, p3, -⟩ := valid_parts hv
  by_cases hk : k < f.picks.length
  · have h2 : f.picks[k]? = some f.picks[k] := List.getElem?_eq_getElem hk
    have h1 : f.far[k]? = some f.far[k] := List.getElem?_eq_getElem (by omega)
    unfold validB shelvesB at hv
    simp only [Bool.and_eq_true, List.all_eq_true, List.mem_range] at hv
    have := hv.1.1.1.1.2 k (by omega)
    rw [goodShelf_of h1 h2] at this
    simp only [withinB, hasB, Bool.and_eq_true, decide_eq_true_eq] at this
    rw [h2]
    simp only [Option.getD_some]
    omega
  · rw [List.getElem?_eq_none (by omega)]
    simp
def secsKLo (f : Floor) (l : List SLine) (steps : Int) : Nat → Int
  | 0 => steps * (f.slo, f.shi).1
  | k + 1 => secsKLo f l steps k + (match l[k]? with | some x => x.many * ((f.picks[x.shelf.toNat]?).getD (0, 0)).1 | none => 0)
def secsFLo (f : Floor) (l : List SLine) (steps : Int) : Int := secsKLo f l steps l.length
theorem secsLo_range {f : Floor} {l : List SLine} {steps : Int} (hv : validB f = true) (hl : linesB f.far.length l = true) (hs : 0 ≤ steps ∧ steps ≤ 1000000) : ∀ k : Nat, k ≤ l.length → 0 ≤ secsKLo f l steps k ∧ secsKLo f l steps k ≤ 10000000 + 6000 * k
  | 0, _ => by
    obtain ⟨-, -, -, p4, -, -, -⟩ := valid_parts hv
    have h1 : 0 ≤ steps * (f.slo, f.shi).1 := Int.mul_nonneg hs.1 (by simp only; omega)
    have h2 : steps * (f.slo, f.shi).1 ≤ 1000000 * 10 := Int.mul_le_mul hs.2 (by simp only; omega) (by simp only; omega) (by omega)
    simp only [secsKLo] at *
    omega
  | k + 1, hk => by
    have ih := secsLo_range hv hl hs k (by omega)
    have hx : l[k]? = some l[k] := List.getElem?_eq_getElem (by omega)
    obtain ⟨g1, g2, g3, g4⟩ := (linesB_ok hl).2.2 k _ hx
    have pk := picks_ok hv l[k].shelf.toNat
    simp only [secsKLo, hx]
    have h1 : 0 ≤ l[k].many * ((f.picks[l[k].shelf.toNat]?).getD (0, 0)).1 := Int.mul_nonneg (by omega) (by omega)
    have h2 : l[k].many * ((f.picks[l[k].shelf.toNat]?).getD (0, 0)).1 ≤ 20 * 300 := Int.mul_le_mul g4 (by omega) (by omega) (by omega)
    omega
theorem secondsLo_any (f : Floor) (n : Nat) (s : SSlip) (hs : f.slips[n]? = some s) (hv : validB f = true) (steps : Int) (hst : 0 ≤ steps ∧ steps ≤ 1000000) (w : World) (h : FloorAt w w.heap.size f) :
    Calls Tryd.prog 120 #[.agg #[.func (Fn.func 119) #[] #[]], .agg #[.slice f.fA f.far.length f.fC, vi f.slo, vi f.shi, .slice f.pA f.picks.length f.pC, vi f.carry, .slice f.sA f.slips.length f.sC, vi n, vi steps]] w fun e w' => e = .returned (vi (secsFLo f s.lines steps)) ∧ Below w.heap.size w w' := by
  obtain ⟨p1, p2, p3, p4, p5, p6, p7⟩ := valid_parts hv
  have hsl := (p7 n s hs).2
  have HF := Lib.hid h
  have hsll := h.slips.lens
  have hpl := h.picks.lens
  have HX : Hid (∀ (k : Nat) (x : SLine), s.lines[k]? = some x → ∃ (j : Nat) (q : Int × Int), x.shelf = j ∧ j < f.picks.length ∧ f.picks[j]? = some q ∧ (0 ≤ q.1 ∧ q.1 ≤ 300) ∧ (1 ≤ x.many ∧ x.many ≤ 20) ∧ (0 ≤ x.many * q.1 ∧ x.many * q.1 ≤ 6000) ∧ (0 ≤ secsKLo f s.lines steps k ∧ secsKLo f s.lines steps k ≤ 20000000) ∧ secsKLo f s.lines steps (k + 1) = secsKLo f s.lines steps k + x.many * q.1) := fun k x hx => by
    have hk := (List.getElem?_eq_some_iff.1 hx).1
    obtain ⟨l1, l2, l3⟩ := linesB_ok hsl
    obtain ⟨g1, g2, g3, g4⟩ := l3 k x hx
    have hj : x.shelf.toNat < f.picks.length := by omega
    have e := List.getElem?_eq_getElem hj
    have pk := picks_ok hv x.shelf.toNat
    rw [e] at pk
    simp only [Option.getD_some] at pk
    have r := secsLo_range hv hsl hst k (by omega)
    refine ⟨x.shelf.toNat, f.picks[x.shelf.toNat], by omega, hj, e, by omega, ⟨g3, g4⟩, ⟨Int.mul_nonneg (by omega) (by omega), Int.mul_le_mul g4 (by omega : f.picks[x.shelf.toNat].1 ≤ 300) (by omega) (by omega)⟩, by omega, ?_⟩
    simp only [secsKLo, hx, e, Option.getD_some]
  have R0 := secsLo_range hv hsl hst 0 (Nat.zero_le _)
  have hS0 : secsKLo f s.lines steps 0 = steps * (f.slo, f.shi).1 := rfl
  have HA : Hid (secsKLo f s.lines steps s.lines.length = secsFLo f s.lines steps) := rfl
  obtain ⟨R, hR⟩ : ∃ R, R = secsFLo f s.lines steps := ⟨_, rfl⟩
  obtain ⟨S, hS⟩ : ∃ S, S = secsKLo f s.lines steps := ⟨_, rfl⟩
  rw [← hR] at HA ⊢
  rw [← hS] at HX HA R0 hS0
  rw [hS0] at R0
  have HS0 := Lib.hid hS0
  have HP := Lib.hid h.picks
  have hsR := h.slips.row
  obtain ⟨bs, os, hsA, hbs, s0, s1⟩ := row2 hsR hs rfl
  have HSL := Lib.hid (h.each s (List.mem_of_getElem? hs))
  have hnl : (n : Int) < f.slips.length := by have := (List.getElem?_eq_some_iff.1 hs).1; omega
  have h0n : (0 : Int) ≤ n := by omega
  have zbs : bs < w.heap.size := cell_lt s0
  clear hs hR hS hS0 hsR h hsl p7 hv
  have P3 := Lib.hid p3
  clear p3
  obtain ⟨sa, sc, sl, till⟩ := s
  simp only at HSL HX HA
  replace s0 : w.cell? ⟨bs, os + n * 2, none⟩ = some (.slice sa sl.length sc) := s0
  have hll := HSL.out.lens
  obtain ⟨fA, fC, ff, slo, shi, pA, pC, fp, fc, sA, sC, fs⟩ := f
  simp only at hsll hnl hsA hpl HX HP R0 HS0
  subst hsA
  show Calls Tryd.prog 120 #[.agg #[.func (Fn.func 119) #[] #[]], .agg #[.slice fA ff.length fC, vi slo, vi shi, .slice pA fp.length pC, vi fc, .slice (some ⟨bs, os, none⟩) fs.length sC, vi n, vi steps]] w _
  go_enter Tryd.func120, Tryd.ntmps120
  go_wp2_with fail
  (refine wp_region_grow_lit (by kernel_rfl) (by kernel_rfl) ?_; (repeat (go_big_quiet_step ((go_at_call 119; refine Calls.grow_of (low_any _ _ _))))); refine wpQuiet_nil ?_; intro w1 hw1; have hb1 := below_of_plus hw1; clear hw1; obtain ⟨⟨hc1, hf1, hs1⟩, hz1⟩ := after hb1; (try simp only [World.size_alloc, World.size_setCell, World.size_drew] at hz1))
  have HB0 : Below w.heap.size w w1 := by (repeat (first | exact Below.refl _ _ | refine Below.setCell ?_ (by first | omega | (simp; omega) | (simp; done)) _ | refine Below.alloc ?_ (by first | omega | (simp; omega) | (simp; done)) _ | refine Below.drew ?_ | refine below_drewN ?_ _ | refine Below.trans ?_ (Below.mono (by assumption) (by first | omega | (simp; omega) | (simp; done)))))
  have q0 : w1.cell? ⟨w.heap.size, 0, none⟩ = some (.func (Fn.func 119) #[] #[]) := cell_keep hb1 (by simp [go_sem])
  have a3 : w1.cell? ⟨w.heap.size + 1, 3, none⟩ = some (.slice pA fp.length pC) := cell_keep hb1 (by simp [go_sem])
  have a5 : w1.cell? ⟨w.heap.size + 1, 5, none⟩ = some (.slice (some ⟨bs, os, none⟩) fs.length sC) := cell_keep hb1 (by simp [go_sem])
  have a6 : w1.cell? ⟨w.heap.size + 1, 6, none⟩ = some (vi n) := cell_keep hb1 (by simp [go_sem])
  have s01 := cell_keep HB0 s0
  have z1 := cell_lt a3
  clear hb1 hc1 hf1 hs1 hz1 s0 s1
  go_wp2_with fail
  go_loopw [5, 28] (fun x i wr => ∃ k : Nat, k ≤ sl.length ∧ i = .int .i64 k ∧ Below w1.heap.size w1 wr ∧ x = vi (S k)) (fun _ i _ => sl.length - (intOf i).toNat)
  case atStart => exact ⟨0, Nat.zero_le _, rfl, Below.refl _ _, by rw [HS0.out]⟩
  obtain ⟨k, hk, rfl, hB, rfl⟩ := hrel
  have hz := hB.size
  have HBr : Below w.heap.size w wr := gr_trans HB0 hB
  by_cases hlt : k < sl.length
  · obtain ⟨x, hx⟩ : ∃ x, sl[k]? = some x := ⟨_, List.getElem?_eq_getElem hlt⟩
    obtain ⟨j, q, hj, hjl, hq, ⟨q1, q2⟩, ⟨m1, m2⟩, ⟨e1, e2⟩, ⟨r1, r2⟩, S1⟩ := HX.out k x hx
    obtain ⟨bb, off, rfl, hbb, x0, x1⟩ := row2 (HSL.out.to HBr).row hx rfl
    obtain ⟨bp, op, rfl, hbp, y0, y1⟩ := row2 (HP.out.to HBr).row hq rfl
    obtain ⟨xs, xm⟩ := x
    obtain ⟨ql, qh⟩ := q
    simp only at hj q1 q2 m1 m2 e1 e2 S1 x0 x1 y0 y1
    subst hj
    have S1 := Lib.hid S1
    have hkI : (k : Int) < sl.length := by omega
    have h0k : (0 : Int) ≤ k := by omega
    have hjI : (j : Int) < fp.length := by omega
    have h0j : (0 : Int) ≤ j := by omega
    have zbb : bb < wr.heap.size := cell_lt x0
    have zbp : bp < wr.heap.size := cell_lt y0
    have q0r := cell_keep hB q0
    have a3r := cell_keep hB a3
    have z1r := cell_lt a3r
    have z0r := cell_lt q0r
    obtain ⟨sk, hsk⟩ : ∃ sk, sk = S k := ⟨_, rfl⟩
    rw [← hsk] at r1 r2 S1 ⊢
    clear hx hq hsk HX HA HS0 a5 a6 s01
    go_wp2_with fail
    (refine wp_region_grow_lit (by kernel_rfl) (by kernel_rfl) ?_; (repeat (go_big_quiet_step ((go_at_call 119; refine Calls.grow_of (low_any _ _ _))))); refine wpQuiet_nil ?_; intro w1 hw1; have hb1 := below_of_plus hw1; clear hw1; obtain ⟨⟨hc1, hf1, hs1⟩, hz1⟩ := after hb1; (try simp only [World.size_alloc, World.size_setCell, World.size_drew] at hz1))
    have HB1 : Below wr.heap.size wr w1 := by (repeat (first | exact Below.refl _ _ | refine Below.setCell ?_ (by first | omega | (simp; omega) | (simp; done)) _ | refine Below.alloc ?_ (by first | omega | (simp; omega) | (simp; done)) _ | refine Below.drew ?_ | refine below_drewN ?_ _ | refine Below.trans ?_ (Below.mono (by assumption) (by first | omega | (simp; omega) | (simp; done)))))
    clear hb1 hc1 hf1 hs1 hz1
    go_wp2_with fail
    go_roundw
    case rel => exact ⟨k + 1, by omega, by go_num, gr_trans hB HB1, by rw [S1.out]⟩
    case measure => simp [intOf]; omega
  · obtain rfl : k = sl.length := by omega
    rw [HA.out]
    go_wp2_with fail
    go_ret
    exact ⟨rfl, HBr⟩
theorem least_any (f : Floor) (n : Nat) (s : SSlip) (hs : f.slips[n]? = some s) (hv : validB f = true) (steps : Int) (hst : 0 ≤ steps ∧ steps ≤ 1000000) (w : World) (h : FloorAt w w.heap.size f) :
    Calls Tryd.prog 111 #[.agg #[.slice f.fA f.far.length f.fC, vi f.slo, vi f.shi, .slice f.pA f.picks.length f.pC, vi f.carry, .slice f.sA f.slips.length f.sC, vi n, vi steps]] w fun e w' => e = .returned (vi (secsFLo f s.lines steps)) ∧ Below w.heap.size w w' := by
  have SE := Lib.hid (fun (W : World) hW => secondsLo_any f n s hs hv steps hst W hW)
  have HF := Lib.hid h
  obtain ⟨R, hR⟩ : ∃ R, R = secsFLo f s.lines steps := ⟨_, rfl⟩
  rw [← hR] at SE ⊢
  clear h hs hv hR
  obtain ⟨fA, fC, ff, slo, shi, pA, pC, fp, fc, sA, sC, fs⟩ := f
  show Calls Tryd.prog 111 #[.agg #[.slice fA ff.length fC, vi slo, vi shi, .slice pA fp.length pC, vi fc, .slice sA fs.length sC, vi n, vi steps]] w _
  go_enter Tryd.func111, Tryd.ntmps111
  go_wp2_with fail
  refine (SE.out _ (HF.out.to (by (repeat (first | exact Below.refl _ _ | refine Below.setCell ?_ (by first | omega | (simp; omega) | (simp; done)) _ | refine Below.alloc ?_ (by first | omega | (simp; omega) | (simp; done)) _ | refine Below.drew ?_ | refine below_drewN ?_ _ | refine Below.trans ?_ (Below.mono (by assumption) (by first | omega | (simp; omega) | (simp; done)))))))).mono ?_
  rintro e W ⟨rfl, hb⟩
  have HB0 : Below w.heap.size w W := by (repeat (first | exact Below.refl _ _ | refine Below.setCell ?_ (by first | omega | (simp; omega) | (simp; done)) _ | refine Below.alloc ?_ (by first | omega | (simp; omega) | (simp; done)) _ | refine Below.drew ?_ | refine below_drewN ?_ _ | refine Below.trans ?_ (Below.mono (by assumption) (by first | omega | (simp; omega) | (simp; done)))))
  clear hb
  go_wp2_with fail
  go_ret
  exact ⟨rfl, HB0⟩
def secsKHi (f : Floor) (l : List SLine) (steps : Int) : Nat → Int
  | 0 => steps * (f.slo, f.shi).2
  | k + 1 => secsKHi f l steps k + (match l[k]? with | some x => x.many * ((f.picks[x.shelf.toNat]?).getD (0, 0)).2 | none => 0)
def secsFHi (f : Floor) (l : List SLine) (steps : Int) : Int := secsKHi f l steps l.length
theorem secsHi_range {f : Floor} {l : List SLine} {steps : Int} (hv : validB f = true) (hl : linesB f.far.length l = true) (hs : 0 ≤ steps ∧ steps ≤ 1000000) : ∀ k : Nat, k ≤ l.length → 0 ≤ secsKHi f l steps k ∧ secsKHi f l steps k ≤ 10000000 + 6000 * k
  | 0, _ => by
    obtain ⟨-, -, -, p4, -, -, -⟩ := valid_parts hv
    have h1 : 0 ≤ steps * (f.slo, f.shi).2 := Int.mul_nonneg hs.1 (by simp only; omega)
    have h2 : steps * (f.slo, f.shi).2 ≤ 1000000 * 10 := Int.mul_le_mul hs.2 (by simp only; omega) (by simp only; omega) (by omega)
    simp only [secsKHi] at *
    omega
  | k + 1, hk => by
    have ih := secsHi_range hv hl hs k (by omega)
    have hx : l[k]? = some l[k] := List.getElem?_eq_getElem (by omega)
    obtain ⟨g1, g2, g3, g4⟩ := (linesB_ok hl).2.2 k _ hx
    have pk := picks_ok hv l[k].shelf.toNat
    simp only [secsKHi, hx]
    have h1 : 0 ≤ l[k].many * ((f.picks[l[k].shelf.toNat]?).getD (0, 0)).2 := Int.mul_nonneg (by omega) (by omega)
    have h2 : l[k].many * ((f.picks[l[k].shelf.toNat]?).getD (0, 0)).2 ≤ 20 * 300 := Int.mul_le_mul g4 (by omega) (by omega) (by omega)
    omega
theorem secondsHi_any (f : Floor) (n : Nat) (s : SSlip) (hs : f.slips[n]? = some s) (hv : validB f = true) (steps : Int) (hst : 0 ≤ steps ∧ steps ≤ 1000000) (w : World) (h : FloorAt w w.heap.size f) :
    Calls Tryd.prog 120 #[.agg #[.func (Fn.func 121) #[] #[]], .agg #[.slice f.fA f.far.length f.fC, vi f.slo, vi f.shi, .slice f.pA f.picks.length f.pC, vi f.carry, .slice f.sA f.slips.length f.sC, vi n, vi steps]] w fun e w' => e = .returned (vi (secsFHi f s.lines steps)) ∧ Below w.heap.size w w' := by
  obtain ⟨p1, p2, p3, p4, p5, p6, p7⟩ := valid_parts hv
  have hsl := (p7 n s hs).2
  have HF := Lib.hid h
  have hsll := h.slips.lens
  have hpl := h.picks.lens
  have HX : Hid (∀ (k : Nat) (x : SLine), s.lines[k]? = some x → ∃ (j : Nat) (q : Int × Int), x.shelf = j ∧ j < f.picks.length ∧ f.picks[j]? = some q ∧ (0 ≤ q.2 ∧ q.2 ≤ 300) ∧ (1 ≤ x.many ∧ x.many ≤ 20) ∧ (0 ≤ x.many * q.2 ∧ x.many * q.2 ≤ 6000) ∧ (0 ≤ secsKHi f s.lines steps k ∧ secsKHi f s.lines steps k ≤ 20000000) ∧ secsKHi f s.lines steps (k + 1) = secsKHi f s.lines steps k + x.many * q.2) := fun k x hx => by
    have hk := (List.getElem?_eq_some_iff.1 hx).1
    obtain ⟨l1, l2, l3⟩ := linesB_ok hsl
    obtain ⟨g1, g2, g3, g4⟩ := l3 k x hx
    have hj : x.shelf.toNat < f.picks.length := by omega
    have e := List.getElem?_eq_getElem hj
    have pk := picks_ok hv x.shelf.toNat
    rw [e] at pk
    simp only [Option.getD_some] at pk
    have r := secsHi_range hv hsl hst k (by omega)
    refine ⟨x.shelf.toNat, f.picks[x.shelf.toNat], by omega, hj, e, by omega, ⟨g3, g4⟩, ⟨Int.mul_nonneg (by omega) (by omega), Int.mul_le_mul g4 (by omega : f.picks[x.shelf.toNat].2 ≤ 300) (by omega) (by omega)⟩, by omega, ?_⟩
    simp only [secsKHi, hx, e, Option.getD_some]
  have R0 := secsHi_range hv hsl hst 0 (Nat.zero_le _)
  have hS0 : secsKHi f s.lines steps 0 = steps * (f.slo, f.shi).2 := rfl
  have HA : Hid (secsKHi f s.lines steps s.lines.length = secsFHi f s.lines steps) := rfl
  obtain ⟨R, hR⟩ : ∃ R, R = secsFHi f s.lines steps := ⟨_, rfl⟩
  obtain ⟨S, hS⟩ : ∃ S, S = secsKHi f s.lines steps := ⟨_, rfl⟩
  rw [← hR] at HA ⊢
  rw [← hS] at HX HA R0 hS0
  rw [hS0] at R0
  have HS0 := Lib.hid hS0
  have HP := Lib.hid h.picks
  have hsR := h.slips.row
  obtain ⟨bs, os, hsA, hbs, s0, s1⟩ := row2 hsR hs rfl
  have HSL := Lib.hid (h.each s (List.mem_of_getElem? hs))
  have hnl : (n : Int) < f.slips.length := by have := (List.getElem?_eq_some_iff.1 hs).1; omega
  have h0n : (0 : Int) ≤ n := by omega
  have zbs : bs < w.heap.size := cell_lt s0
  clear hs hR hS hS0 hsR h hsl p7 hv
  have P3 := Lib.hid p3
  clear p3
  obtain ⟨sa, sc, sl, till⟩ := s
  simp only at HSL HX HA
  replace s0 : w.cell? ⟨bs, os + n * 2, none⟩ = some (.slice sa sl.length sc) := s0
  have hll := HSL.out.lens
  obtain ⟨fA, fC, ff, slo, shi, pA, pC, fp, fc, sA, sC, fs⟩ := f
  simp only at hsll hnl hsA hpl HX HP R0 HS0
  subst hsA
  show Calls Tryd.prog 120 #[.agg #[.func (Fn.func 121) #[] #[]], .agg #[.slice fA ff.length fC, vi slo, vi shi, .slice pA fp.length pC, vi fc, .slice (some ⟨bs, os, none⟩) fs.length sC, vi n, vi steps]] w _
  go_enter Tryd.func120, Tryd.ntmps120
  go_wp2_with fail
  (refine wp_region_grow_lit (by kernel_rfl) (by kernel_rfl) ?_; (repeat (go_big_quiet_step ((go_at_call 121; refine Calls.grow_of (high_any _ _ _))))); refine wpQuiet_nil ?_; intro w1 hw1; have hb1 := below_of_plus hw1; clear hw1; obtain ⟨⟨hc1, hf1, hs1⟩, hz1⟩ := after hb1; (try simp only [World.size_alloc, World.size_setCell, World.size_drew] at hz1))
  have HB0 : Below w.heap.size w w1 := by (repeat (first | exact Below.refl _ _ | refine Below.setCell ?_ (by first | omega | (simp; omega) | (simp; done)) _ | refine Below.alloc ?_ (by first | omega | (simp; omega) | (simp; done)) _ | refine Below.drew ?_ | refine below_drewN ?_ _ | refine Below.trans ?_ (Below.mono (by assumption) (by first | omega | (simp; omega) | (simp; done)))))
  have q0 : w1.cell? ⟨w.heap.size, 0, none⟩ = some (.func (Fn.func 121) #[] #[]) := cell_keep hb1 (by simp [go_sem])
  have a3 : w1.cell? ⟨w.heap.size + 1, 3, none⟩ = some (.slice pA fp.length pC) := cell_keep hb1 (by simp [go_sem])
  have a5 : w1.cell? ⟨w.heap.size + 1, 5, none⟩ = some (.slice (some ⟨bs, os, none⟩) fs.length sC) := cell_keep hb1 (by simp [go_sem])
  have a6 : w1.cell? ⟨w.heap.size + 1, 6, none⟩ = some (vi n) := cell_keep hb1 (by simp [go_sem])
  have s01 := cell_keep HB0 s0
  have z1 := cell_lt a3
  clear hb1 hc1 hf1 hs1 hz1 s0 s1
  go_wp2_with fail
  go_loopw [5, 28] (fun x i wr => ∃ k : Nat, k ≤ sl.length ∧ i = .int .i64 k ∧ Below w1.heap.size w1 wr ∧ x = vi (S k)) (fun _ i _ => sl.length - (intOf i).toNat)
  case atStart => exact ⟨0, Nat.zero_le _, rfl, Below.refl _ _, by rw [HS0.out]⟩
  obtain ⟨k, hk, rfl, hB, rfl⟩ := hrel
  have hz := hB.size
  have HBr : Below w.heap.size w wr := gr_trans HB0 hB
  by_cases hlt : k < sl.length
  · obtain ⟨x, hx⟩ : ∃ x, sl[k]? = some x := ⟨_, List.getElem?_eq_getElem hlt⟩
    obtain ⟨j, q, hj, hjl, hq, ⟨q1, q2⟩, ⟨m1, m2⟩, ⟨e1, e2⟩, ⟨r1, r2⟩, S1⟩ := HX.out k x hx
    obtain ⟨bb, off, rfl, hbb, x0, x1⟩ := row2 (HSL.out.to HBr).row hx rfl
    obtain ⟨bp, op, rfl, hbp, y0, y1⟩ := row2 (HP.out.to HBr).row hq rfl
    obtain ⟨xs, xm⟩ := x
    obtain ⟨ql, qh⟩ := q
    simp only at hj q1 q2 m1 m2 e1 e2 S1 x0 x1 y0 y1
    subst hj
    have S1 := Lib.hid S1
    have hkI : (k : Int) < sl.length := by omega
    have h0k : (0 : Int) ≤ k := by omega
    have hjI : (j : Int) < fp.length := by omega
    have h0j : (0 : Int) ≤ j := by omega
    have zbb : bb < wr.heap.size := cell_lt x0
    have zbp : bp < wr.heap.size := cell_lt y0
    have q0r := cell_keep hB q0
    have a3r := cell_keep hB a3
    have z1r := cell_lt a3r
    have z0r := cell_lt q0r
    obtain ⟨sk, hsk⟩ : ∃ sk, sk = S k := ⟨_, rfl⟩
    rw [← hsk] at r1 r2 S1 ⊢
    clear hx hq hsk HX HA HS0 a5 a6 s01
    go_wp2_with fail
    (refine wp_region_grow_lit (by kernel_rfl) (by kernel_rfl) ?_; (repeat (go_big_quiet_step ((go_at_call 121; refine Calls.grow_of (high_any _ _ _))))); refine wpQuiet_nil ?_; intro w1 hw1; have hb1 := below_of_plus hw1; clear hw1; obtain ⟨⟨hc1, hf1, hs1⟩, hz1⟩ := after hb1; (try simp only [World.size_alloc, World.size_setCell, World.size_drew] at hz1))
    have HB1 : Below wr.heap.size wr w1 := by (repeat (first | exact Below.refl _ _ | refine Below.setCell ?_ (by first | omega | (simp; omega) | (simp; done)) _ | refine Below.alloc ?_ (by first | omega | (simp; omega) | (simp; done)) _ | refine Below.drew ?_ | refine below_drewN ?_ _ | refine Below.trans ?_ (Below.mono (by assumption) (by first | omega | (simp; omega) | (simp; done)))))
    clear hb1 hc1 hf1 hs1 hz1
    go_wp2_with fail
    go_roundw
    case rel => exact ⟨k + 1, by omega, by go_num, gr_trans hB HB1, by rw [S1.out]⟩
    case measure => simp [intOf]; omega
  · obtain rfl : k = sl.length := by omega
    rw [HA.out]
    go_wp2_with fail
    go_ret
    exact ⟨rfl, HBr⟩
theorem most_any (f : Floor) (n : Nat) (s : SSlip) (hs : f.slips[n]? = some s) (hv : validB f = true) (steps : Int) (hst : 0 ≤ steps ∧ steps ≤ 1000000) (w : World) (h : FloorAt w w.heap.size f) :
    Calls Tryd.prog 112 #[.agg #[.slice f.fA f.far.length f.fC, vi f.slo, vi f.shi, .slice f.pA f.picks.length f.pC, vi f.carry, .slice f.sA f.slips.length f.sC, vi n, vi steps]] w fun e w' => e = .returned (vi (secsFHi f s.lines steps)) ∧ Below w.heap.size w w' := by
  have SE := Lib.hid (fun (W : World) hW => secondsHi_any f n s hs hv steps hst W hW)
  have HF := Lib.hid h
  obtain ⟨R, hR⟩ : ∃ R, R = secsFHi f s.lines steps := ⟨_, rfl⟩
  rw [← hR] at SE ⊢
  clear h hs hv hR
  obtain ⟨fA, fC, ff, slo, shi, pA, pC, fp, fc, sA, sC, fs⟩ := f
  show Calls Tryd.prog 112 #[.agg #[.slice fA ff.length fC, vi slo, vi shi, .slice pA fp.length pC, vi fc, .slice sA fs.length sC, vi n, vi steps]] w _
  go_enter Tryd.func112, Tryd.ntmps112
  go_wp2_with fail
  refine (SE.out _ (HF.out.to (by (repeat (first | exact Below.refl _ _ | refine Below.setCell ?_ (by first | omega | (simp; omega) | (simp; done)) _ | refine Below.alloc ?_ (by first | omega | (simp; omega) | (simp; done)) _ | refine Below.drew ?_ | refine below_drewN ?_ _ | refine Below.trans ?_ (Below.mono (by assumption) (by first | omega | (simp; omega) | (simp; done)))))))).mono ?_
  rintro e W ⟨rfl, hb⟩
  have HB0 : Below w.heap.size w W := by (repeat (first | exact Below.refl _ _ | refine Below.setCell ?_ (by first | omega | (simp; omega) | (simp; done)) _ | refine Below.alloc ?_ (by first | omega | (simp; omega) | (simp; done)) _ | refine Below.drew ?_ | refine below_drewN ?_ _ | refine Below.trans ?_ (Below.mono (by assumption) (by first | omega | (simp; omega) | (simp; done)))))
  clear hb
  go_wp2_with fail
  go_ret
  exact ⟨rfl, HB0⟩
end Go.Proofs.YtomgnpfpaodpiaaDoor

