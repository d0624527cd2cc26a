/- Contract of Done. -/
import Derived.Test.YtomgnpfpaodpiaaDoorH18
import Derived.Test.YtomgnpfpaodpiaaDoorH02
set_option linter.unusedVariables false
set_option linter.unusedSimpArgs false
namespace Go.Proofs.YtomgnpfpaodpiaaDoor
open Go Go.RowKit
set_option maxHeartbeats 2000000
def cntB (m : Nat) : Nat := (List.range 9).countP fun i => m.testBit i
theorem cnt_or : ∀ (m : Fin 512) (s : Fin 9), m.val.testBit s.val = false → cntB (m.val ||| 2 ^ s.val) = cntB m.val + 1 := by decide +kernel
theorem cnt_le (m : Nat) : cntB m ≤ 9 := by
  have := List.countP_le_length (p := fun i => m.testBit i) (l := List.range 9)
  simpa [cntB] using this
theorem row_good {f : Floor} (h9 : f.slips.length ≤ 9) : ∀ (l : List Int) (m m' : Nat), m < 512 → l.foldl (stepR f) (some m) = some m' → m' < 512 ∧ cntB m' = cntB m + l.length ∧ ∀ x ∈ l, slipB f x = true
  | [], m, m', hm, h => by
    simp at h; subst h
    exact ⟨hm, by simp, by simp⟩
  | x :: l, m, m', hm, h => by
    rw [List.foldl_cons] at h
    have e : stepR f (some m) x = if slipB f x && !(m.testBit x.toNat) then some (m ||| 2 ^ x.toNat) else none := rfl
    rw [e] at h
    by_cases hc : (slipB f x && !(m.testBit x.toNat)) = true
    · rw [if_pos hc] at h
      simp only [Bool.and_eq_true, Bool.not_eq_true'] at hc
      obtain ⟨h1, h2⟩ := hc
      have hs := h1
      unfold slipB at hs
      simp only [Bool.and_eq_true, decide_eq_true_eq] at hs
      have hx9 : x.toNat < 9 := by omega
      have hlt : m ||| 2 ^ x.toNat < 512 := Nat.or_lt_two_pow (n := 9) (by omega) (Nat.pow_lt_pow_right (by omega) hx9)
      obtain ⟨i1, i2, i3⟩ := row_good h9 l _ m' hlt h
      have := cnt_or ⟨m, hm⟩ ⟨x.toNat, hx9⟩ h2
      simp only at this
      refine ⟨i1, by rw [i2, this, List.length_cons]; omega, fun y hy => ?_⟩
      rcases List.mem_cons.1 hy with rfl | hy
      · exact h1
      · exact i3 y hy
    · rw [if_neg hc, step_none] at h
      cases h
theorem rows_good {f : Floor} (h9 : f.slips.length ≤ 9) : ∀ (ts : List SRow) (m m' : Nat), m < 512 → rowsR f (some m) ts = some m' → ∀ t ∈ ts, t.slips.length ≤ 9 ∧ ∀ x ∈ t.slips, slipB f x = true
  | [], _, _, _, _, t, ht => by simp at ht
  | a :: ts, m, m', hm, h, t, ht => by
    unfold rowsR at h
    rw [List.foldl_cons] at h
    cases h1 : a.slips.foldl (stepR f) (some m) with
    | none => rw [h1] at h; have := rows_none f ts; unfold rowsR at this; rw [this] at h; cases h
    | some m1 =>
      rw [h1] at h
      obtain ⟨i1, i2, i3⟩ := row_good h9 _ _ _ hm h1
      rcases List.mem_cons.1 ht with rfl | ht
      · have := cnt_le m1
        exact ⟨by omega, i3⟩
      · exact rows_good h9 ts m1 m' i1 h t ht
theorem roster_rows {f : Floor} {ts : List SRow} (h9 : f.slips.length ≤ 9) (h : rosterB f ts = true) : (1 ≤ ts.length ∧ ts.length ≤ 5) ∧ ∀ t ∈ ts, t.slips.length ≤ 9 ∧ ∀ x ∈ t.slips, slipB f x = true := by
  unfold rosterB at h
  simp only [Bool.and_eq_true, beq_iff_eq, hasB_iff] at h
  exact ⟨by omega, rows_good h9 ts 0 _ (by omega) h.2⟩
theorem rows_of_box {w : World} {b n : Nat} {l : List (Int × Int)} (h : CellsBox w b 24 (flatS l)) (hn : l.length = n) (h9 : n ≤ 35184372088832) : RowsAt w w.heap.size 2 (some ⟨b, 0, none⟩) n (l.map spanC) := by
  refine ⟨by simp [hn], by omega, by simp; omega, fun _ => ⟨b, 0, rfl, h.lt, fun i r hr j u hj hu => ?_⟩⟩
  have := flat_at (sz := 2) (l.map spanC) (fun r hr => by obtain ⟨p, _, rfl⟩ := List.mem_map.1 hr; rfl) i r hr j u hj hu
  rw [Nat.zero_add]
  exact h.cell (by rw [flatS, List.flatMap_def]; exact this)
theorem rows_nil (w : World) (sz : Nat) : RowsAt w w.heap.size sz none 0 [] := ⟨by simp, by omega, by simp, fun h => by simp at h⟩
def DoneV (f : Floor) (ts : List SRow) : List (Int × Int) × Int := if checkV f = 0 then (if rosterB f ts then (doneF f (ts.map SRow.slips), 0) else ([], 31)) else ([], checkV f)
theorem check_two (f : Floor) : (checkV f = 30 ∧ validB f = false) ∨ (checkV f = 0 ∧ validB f = true) := by
  unfold checkV
  cases validB f <;> simp
theorem roster_is {f : Floor} {ts : List SRow} {b : Bool} (hb : rosterB f ts = b) (hf9 : f.slips.length ≤ 9) (A : Option Addr) (cap : Nat) (w : World) (hl : Lim w) (ht : RosterAt w w.heap.size A cap ts) :
    Calls Tryd.prog 65 #[f.val, .slice A ts.length cap] w fun e w' => e = .returned (.bool b) ∧ Below w.heap.size w w' := by
  rw [← hb]
  exact isRoster_any f hf9 A cap ts w hl ht
set_option maxRecDepth 100000 in
theorem Done_any (f : Floor) (A : Option Addr) (cap : Nat) (ts : List SRow) (w : World) (hl : Lim w) (h : FloorAt w w.heap.size f) (ht : RosterAt w w.heap.size A cap ts) :
    Calls Tryd.prog 25 #[f.val, .slice A ts.length cap] w fun e w' => ∃ R, e = .returned (.tuple #[.slice R (DoneV f ts).1.length (DoneV f ts).1.length, vi (DoneV f ts).2]) ∧ RowsAt w' w'.heap.size 2 R (DoneV f ts).1.length ((DoneV f ts).1.map spanC) ∧ Below w.heap.size w w' := by
  have HL := Lib.hid hl
  have HF := Lib.hid h
  have HT := Lib.hid ht
  rcases check_two f with ⟨hc, hv⟩ | ⟨hc, hv⟩
  · have CH := Lib.hid (fun (W : World) hL hW => check_is hc W hL hW)
    have E : DoneV f ts = ([], 30) := by unfold DoneV; rw [if_neg (by omega), hc]
    rw [E]
    clear h hl ht hc E hv
    go_enter Tryd.func25, Tryd.ntmps25
    go_wp2_with fail
    refine (CH.out _ (HL.out.next (by (repeat (first | exact Below.refl _ _ | refine Below.setCell ?_ (by first | omega | (simp; omega) | (simp; done)) _ | refine Below.alloc ?_ (by first | omega | (simp; omega) | (simp; done)) _ | refine Below.drew ?_ | refine below_drewN ?_ _ | refine Below.trans ?_ (Below.mono (by assumption) (by first | omega | (simp; omega) | (simp; done))))))) (HF.out.to (by (repeat (first | exact Below.refl _ _ | refine Below.setCell ?_ (by first | omega | (simp; omega) | (simp; done)) _ | refine Below.alloc ?_ (by first | omega | (simp; omega) | (simp; done)) _ | refine Below.drew ?_ | refine below_drewN ?_ _ | refine Below.trans ?_ (Below.mono (by assumption) (by first | omega | (simp; omega) | (simp; done)))))))).mono ?_
    rintro e W ⟨rfl, hb⟩
    have HB0 : Below w.heap.size w W := by (repeat (first | exact Below.refl _ _ | refine Below.setCell ?_ (by first | omega | (simp; omega) | (simp; done)) _ | refine Below.alloc ?_ (by first | omega | (simp; omega) | (simp; done)) _ | refine Below.drew ?_ | refine below_drewN ?_ _ | refine Below.trans ?_ (Below.mono (by assumption) (by first | omega | (simp; omega) | (simp; done)))))
    clear hb
    go_wp2_with fail
    go_ret2
    exact ⟨none, rfl, rows_nil _ _, HB0⟩
  · have h9 := (fine hv).slips9
    have CH := Lib.hid (fun (W : World) hL hW => check_is hc W hL hW)
    rcases hr : rosterB f ts with _ | _
    · have E : DoneV f ts = ([], 31) := by unfold DoneV; rw [if_pos hc, hr]; rfl
      have RO := Lib.hid (fun (W : World) hL hT => roster_is hr h9 A cap W hL hT)
      rw [E]
      clear h hl ht hc E hv hr h9
      go_enter Tryd.func25, Tryd.ntmps25
      go_wp2_with fail
      refine (CH.out _ (HL.out.next (by (repeat (first | exact Below.refl _ _ | refine Below.setCell ?_ (by first | omega | (simp; omega) | (simp; done)) _ | refine Below.alloc ?_ (by first | omega | (simp; omega) | (simp; done)) _ | refine Below.drew ?_ | refine below_drewN ?_ _ | refine Below.trans ?_ (Below.mono (by assumption) (by first | omega | (simp; omega) | (simp; done))))))) (HF.out.to (by (repeat (first | exact Below.refl _ _ | refine Below.setCell ?_ (by first | omega | (simp; omega) | (simp; done)) _ | refine Below.alloc ?_ (by first | omega | (simp; omega) | (simp; done)) _ | refine Below.drew ?_ | refine below_drewN ?_ _ | refine Below.trans ?_ (Below.mono (by assumption) (by first | omega | (simp; omega) | (simp; done)))))))).mono ?_
      rintro e W ⟨rfl, hb⟩
      have HB0 : Below w.heap.size w W := by (repeat (first | exact Below.refl _ _ | refine Below.setCell ?_ (by first | omega | (simp; omega) | (simp; done)) _ | refine Below.alloc ?_ (by first | omega | (simp; omega) | (simp; done)) _ | refine Below.drew ?_ | refine below_drewN ?_ _ | refine Below.trans ?_ (Below.mono (by assumption) (by first | omega | (simp; omega) | (simp; done)))))
      have a0 : W.cell? ⟨w.heap.size, 0, none⟩ = some (.slice f.fA f.far.length f.fC) := cell_keep hb (by simp [go_sem])
      have a1 : W.cell? ⟨w.heap.size, 1, none⟩ = some (vi f.slo) := cell_keep hb (by simp [go_sem])
      have a2 : W.cell? ⟨w.heap.size, 2, none⟩ = some (vi f.shi) := cell_keep hb (by simp [go_sem])
      have a3 : W.cell? ⟨w.heap.size, 3, none⟩ = some (.slice f.pA f.picks.length f.pC) := cell_keep hb (by simp [go_sem])
      have a4 : W.cell? ⟨w.heap.size, 4, none⟩ = some (vi f.carry) := cell_keep hb (by simp [go_sem])
      have a5 : W.cell? ⟨w.heap.size, 5, none⟩ = some (.slice f.sA f.slips.length f.sC) := cell_keep hb (by simp [go_sem])
      clear hb
      go_wp2_with fail
      refine (RO.out _ (HL.out.next HB0) (HT.out.to HB0)).mono ?_
      rintro e W2 ⟨rfl, hb2⟩
      go_wp2_with fail
      go_ret2
      exact ⟨none, rfl, rows_nil _ _, gr_trans HB0 hb2⟩
    · have E : DoneV f ts = (doneF f (ts.map SRow.slips), 0) := by unfold DoneV; rw [if_pos hc, hr]; rfl
      have RO := Lib.hid (fun (W : World) hL hT => roster_is hr h9 A cap W hL hT)
      obtain ⟨_, hrow⟩ := roster_rows h9 hr
      have DO := Lib.hid (fun (W : World) hF hT => done_any f hv A cap ts hrow W hF hT)
      have HDL : Hid ((doneF f (ts.map SRow.slips)).length = f.slips.length) := by unfold Hid doneF; rw [done_len]; simp
      have HFIN := Lib.hid (fun (W : World) (b : Nat) hb => rows_of_box (w := W) (b := b) (l := doneF f (ts.map SRow.slips)) hb rfl (by rw [HDL.out]; omega))
      rw [E]
      obtain ⟨R, hR⟩ : ∃ R, R = doneF f (ts.map SRow.slips) := ⟨_, rfl⟩
      rw [← hR] at DO HDL HFIN ⊢
      clear h hl ht hc E hv hr hrow hR h9
      go_enter Tryd.func25, Tryd.ntmps25
      go_wp2_with fail
      refine (CH.out _ (HL.out.next (by (repeat (first | exact Below.refl _ _ | refine Below.setCell ?_ (by first | omega | (simp; omega) | (simp; done)) _ | refine Below.alloc ?_ (by first | omega | (simp; omega) | (simp; done)) _ | refine Below.drew ?_ | refine below_drewN ?_ _ | refine Below.trans ?_ (Below.mono (by assumption) (by first | omega | (simp; omega) | (simp; done))))))) (HF.out.to (by (repeat (first | exact Below.refl _ _ | refine Below.setCell ?_ (by first | omega | (simp; omega) | (simp; done)) _ | refine Below.alloc ?_ (by first | omega | (simp; omega) | (simp; done)) _ | refine Below.drew ?_ | refine below_drewN ?_ _ | refine Below.trans ?_ (Below.mono (by assumption) (by first | omega | (simp; omega) | (simp; done)))))))).mono ?_
      rintro e W ⟨rfl, hb⟩
      have HB0 : Below w.heap.size w W := by (repeat (first | exact Below.refl _ _ | refine Below.setCell ?_ (by first | omega | (simp; omega) | (simp; done)) _ | refine Below.alloc ?_ (by first | omega | (simp; omega) | (simp; done)) _ | refine Below.drew ?_ | refine below_drewN ?_ _ | refine Below.trans ?_ (Below.mono (by assumption) (by first | omega | (simp; omega) | (simp; done)))))
      have a0 : W.cell? ⟨w.heap.size, 0, none⟩ = some (.slice f.fA f.far.length f.fC) := cell_keep hb (by simp [go_sem])
      have a1 : W.cell? ⟨w.heap.size, 1, none⟩ = some (vi f.slo) := cell_keep hb (by simp [go_sem])
      have a2 : W.cell? ⟨w.heap.size, 2, none⟩ = some (vi f.shi) := cell_keep hb (by simp [go_sem])
      have a3 : W.cell? ⟨w.heap.size, 3, none⟩ = some (.slice f.pA f.picks.length f.pC) := cell_keep hb (by simp [go_sem])
      have a4 : W.cell? ⟨w.heap.size, 4, none⟩ = some (vi f.carry) := cell_keep hb (by simp [go_sem])
      have a5 : W.cell? ⟨w.heap.size, 5, none⟩ = some (.slice f.sA f.slips.length f.sC) := cell_keep hb (by simp [go_sem])
      clear hb
      go_wp2_with fail
      refine (RO.out _ (HL.out.next HB0) (HT.out.to HB0)).mono ?_
      rintro e W2 ⟨rfl, hb2⟩
      have b0 := cell_keep hb2 a0
      have b1 := cell_keep hb2 a1
      have b2 := cell_keep hb2 a2
      have b3 := cell_keep hb2 a3
      have b4 := cell_keep hb2 a4
      have b5 := cell_keep hb2 a5
      have HB2 := gr_trans HB0 hb2
      clear hb2 a0 a1 a2 a3 a4 a5
      go_wp2_with fail
      refine (DO.out _ (HF.out.to HB2) (HT.out.to HB2)).mono ?_
      rintro e W3 ⟨b, rfl, hbb, hX, hb3⟩
      have HX := Lib.hid hX
      clear hX b0 b1 b2 b3 b4 b5
      go_wp2_with fail
      go_ret2
      exact ⟨some ⟨b, 0, none⟩, by rw [HDL.out]; rfl, HFIN.out _ _ HX.out, gr_trans HB2 hb3⟩
end Go.Proofs.YtomgnpfpaodpiaaDoor

/- Contracts of the specification's lines and isSlip. -/
namespace Go.Proofs.YtomgnpfpaodpiaaDoor
open Go Go.RowKit
set_option maxHeartbeats 4000000
/-- lines that a slip or a tour may have, but for how many there are -/
def linesR (n : Int) (l : List SLine) : Bool := (List.range l.length).all (goodLine n l)
theorem goodLine_ref {n : Int} {l : List SLine} {k : Nat} {x : SLine} (h : l[k]? = some x) : goodLine n l k = (hasB (nextF l k) (n - 1) x.shelf && hasB 1 20 x.many) := by
  rw [goodLine_of h]
  unfold hasB
  congr 2
  by_cases h1 : x.shelf < n
  · have : x.shelf ≤ n - 1 := by omega
    simp [h1, this]
  · have : ¬ x.shelf ≤ n - 1 := by omega
    simp [h1, this]
set_option maxRecDepth 100000 in
theorem rlines_any (f : Floor) (A : Option Addr) (cap : Nat) (l : List SLine) (hf : f.far.length ≤ 35184372088832) (w : World) (h : SLinesAt w w.heap.size A l.length l) :
    Calls Tryd.prog 56 #[f.val, .slice A l.length cap] w fun e w' => e = .returned (.bool (linesR f.far.length l)) ∧ Below w.heap.size w w' := by
  have hll := h.lens
  have HH := Lib.hid h
  obtain ⟨fA, fC, ff, slo, shi, pA, pC, fp, fc, sA, sC, fs⟩ := f
  simp only at hf
  show Calls Tryd.prog 56 #[.agg #[.slice fA ff.length fC, vi slo, vi shi, .slice pA fp.length pC, vi fc, .slice sA fs.length sC], .slice A l.length cap] w fun e w' => e = .returned (.bool (linesR ff.length l)) ∧ Below w.heap.size w w'
  have FIN : Hid ((∀ k, k < l.length → goodLine ff.length l k = true) → linesR ff.length l = true) := fun ha => by unfold linesR; rw [List.all_eq_true]; exact fun k hk => ha k (List.mem_range.1 hk)
  have BAD : Hid (∀ k, k < l.length → goodLine ff.length l k = false → linesR ff.length l = false) := fun k hk hg => by
    have := all_no (b := true) hk hg
    rwa [Bool.true_and] at this
  obtain ⟨an, han⟩ : ∃ an, an = linesR ff.length l := ⟨_, rfl⟩
  rw [← han] at FIN BAD ⊢
  have a0 : (w.alloc (.cells #[.slice fA ff.length fC, vi slo, vi shi, .slice pA fp.length pC, vi fc, .slice sA fs.length sC] 28)).cell? ⟨w.heap.size, 0, none⟩ = some (.slice fA ff.length fC) := by simp [go_sem]
  have HB0 : Below w.heap.size w (w.alloc (.cells #[.slice fA ff.length fC, vi slo, vi shi, .slice pA fp.length pC, vi fc, .slice sA fs.length sC] 28)) := (Below.refl _ _).alloc (Nat.le_refl _) _
  clear h han
  go_enter Tryd.func56, Tryd.ntmps56
  go_wp2_with fail
  obtain ⟨W, hW⟩ : ∃ W, W = w.alloc (.cells #[.slice fA ff.length fC, vi slo, vi shi, .slice pA fp.length pC, vi fc, .slice sA fs.length sC] 28) := ⟨_, rfl⟩
  rw [← hW] at a0 HB0 ⊢
  clear hW
  go_loopw [5, 6] (fun x i wr => ∃ k : Nat, k ≤ l.length ∧ i = .int .i64 k ∧ Below W.heap.size W wr ∧ (∃ nx, x = vi nx ∧ Hid (nextF l k = nx + 1) ∧ -1 ≤ nx ∧ nx ≤ 35184372088832) ∧ Hid (∀ j, j < k → goodLine ff.length l j = true)) (fun _ i _ => l.length - (intOf i).toNat)
  case atStart => exact ⟨0, Nat.zero_le _, rfl, Below.refl _ _, ⟨-1, rfl, rfl, by omega, by omega⟩, fun j hj => absurd hj (by omega)⟩
  obtain ⟨k, hk, rfl, hB, ⟨nx, rfl, HN, hn0, hn1⟩, HA⟩ := hrel
  have HBr : Below w.heap.size w wr := HB0.trans (hB.mono HB0.size)
  have a0r := cell_keep hB a0
  have za : w.heap.size < wr.heap.size := cell_lt a0r
  by_cases hlt : k < l.length
  · obtain ⟨x, hx⟩ : ∃ x, l[k]? = some x := ⟨_, List.getElem?_eq_getElem hlt⟩
    obtain ⟨bb, off, rfl, hbb, x0, x1⟩ := row2 (HH.out.to HBr).row hx rfl
    have hg := goodLine_ref (n := ff.length) hx
    have hnx := nextF_succ hx
    rw [HN.out] at hg
    have G := Lib.hid hg
    have NX := Lib.hid hnx
    have hkI : (k : Int) < l.length := by omega
    have h0k : (0 : Int) ≤ k := by omega
    have zbb : bb < wr.heap.size := cell_lt x0
    have hw1 : IntKind.wrap .i64 (nx + 1) = nx + 1 := wrapI (by omega) (by omega)
    have hw2 : IntKind.wrap .i64 ((ff.length : Int) - 1) = (ff.length : Int) - 1 := wrapI (by omega) (by omega)
    clear hx hg hnx HN
    obtain ⟨xs, xm⟩ := x
    simp only at x0 x1 G NX
    rcases h1 : hasB (nx + 1) ((ff.length : Int) - 1) xs with _ | _
    · have H1 := Lib.hid h1
      have E : Hid (an = false) := BAD.out k hlt (by rw [G.out, h1]; rfl)
      clear h1
      go_wp2_with fail
      (refine wp_region_grow_lit (by kernel_rfl) (by kernel_rfl) ?_; (repeat (go_big_quiet_step ((go_at_call 39; refine Calls.grow_same (tween_is H1.out _))))); refine wpQuiet_nil ?_; intro w1 hw1; have hb1 := below_of_plus hw1; clear hw1; obtain ⟨⟨hc1, hf1, hs1⟩, hz1⟩ := after hb1; (try simp only [World.size_alloc, World.size_setCell, World.size_drew] at hz1))
      go_wp2_with fail
      go_ret
      refine ⟨retB E.out.symm, ?_⟩
      (repeat (first | exact Below.refl _ _ | refine Below.setCell ?_ (by first | omega | (simp; omega) | (simp; done)) _ | refine Below.alloc ?_ (by first | omega | (simp; omega) | (simp; done)) _ | refine Below.drew ?_ | refine below_drewN ?_ _ | refine Below.trans ?_ (Below.mono (by assumption) (by first | omega | (simp; omega) | (simp; done)))))
    · have H1 := Lib.hid h1
      rcases h2 : hasB 1 20 xm with _ | _
      · have H2 := Lib.hid h2
        have E : Hid (an = false) := BAD.out k hlt (by rw [G.out, h1, h2]; rfl)
        clear h1 h2
        go_wp2_with fail
        (refine wp_region_grow_lit (by kernel_rfl) (by kernel_rfl) ?_; (repeat (go_big_quiet_step (first | (go_at_call_of 39 xs; refine Calls.grow_same (tween_is H1.out _)) | (go_at_call_of 39 xm; refine Calls.grow_same (tween_is H2.out _))))); refine wpQuiet_nil ?_; intro w1 hw1; have hb1 := below_of_plus hw1; clear hw1; obtain ⟨⟨hc1, hf1, hs1⟩, hz1⟩ := after hb1; (try simp only [World.size_alloc, World.size_setCell, World.size_drew] at hz1))
        go_wp2_with fail
        go_ret
        refine ⟨retB E.out.symm, ?_⟩
        (repeat (first | exact Below.refl _ _ | refine Below.setCell ?_ (by first | omega | (simp; omega) | (simp; done)) _ | refine Below.alloc ?_ (by first | omega | (simp; omega) | (simp; done)) _ | refine Below.drew ?_ | refine below_drewN ?_ _ | refine Below.trans ?_ (Below.mono (by assumption) (by first | omega | (simp; omega) | (simp; done)))))
      · have H2 := Lib.hid h2
        have HA2 : Hid (∀ j, j < k + 1 → goodLine ff.length l j = true) := upto_succ HA.out (by rw [G.out, h1, h2]; rfl)
        have hxr := hasB_iff.1 h1
        have hx1 : -1 ≤ xs := by omega
        have hx2 : xs ≤ 35184372088832 := by omega
        clear h1 h2 hxr
        go_wp2_with fail
        (refine wp_region_grow_lit (by kernel_rfl) (by kernel_rfl) ?_; (repeat (go_big_quiet_step (first | (go_at_call_of 39 xs; refine Calls.grow_same (tween_is H1.out _)) | (go_at_call_of 39 xm; refine Calls.grow_same (tween_is H2.out _))))); refine wpQuiet_nil ?_; intro w1 hw1; have hb1 := below_of_plus hw1; clear hw1; obtain ⟨⟨hc1, hf1, hs1⟩, hz1⟩ := after hb1; (try simp only [World.size_alloc, World.size_setCell, World.size_drew] at hz1))
        go_wp2_with fail
        go_roundw
        case rel => exact ⟨k + 1, by omega, by go_num, gr_trans hB (by (repeat (first | exact Below.refl _ _ | refine Below.setCell ?_ (by first | omega | (simp; omega) | (simp; done)) _ | refine Below.alloc ?_ (by first | omega | (simp; omega) | (simp; done)) _ | refine Below.drew ?_ | refine below_drewN ?_ _ | refine Below.trans ?_ (Below.mono (by assumption) (by first | omega | (simp; omega) | (simp; done)))))), ⟨_, rfl, NX.out, hx1, hx2⟩, HA2.out⟩
        case measure => simp [intOf]; omega
  · obtain rfl : k = l.length := by omega
    have E : Hid (an = true) := FIN.out HA.out
    go_wp2_with fail
    go_ret
    exact ⟨retB E.out.symm, HBr⟩
end Go.Proofs.YtomgnpfpaodpiaaDoor

