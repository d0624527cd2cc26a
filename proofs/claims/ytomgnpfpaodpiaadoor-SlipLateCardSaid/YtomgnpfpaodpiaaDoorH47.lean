/- The tours that are told are tours of the slip, and take as many steps as are told. -/
import Derived.Test.YtomgnpfpaodpiaaDoorH46
import Derived.Test.YtomgnpfpaodpiaaDoorH38
import Derived.Test.YtomgnpfpaodpiaaDoorH45
set_option linter.unusedVariables false
set_option linter.unusedSimpArgs false
namespace Go.Proofs.YtomgnpfpaodpiaaDoor
open Go Go.RowKit
theorem from_sorted : ∀ (q : List Int) (j : Nat), (linesFrom j q).Pairwise (fun x y => x.shelf < y.shelf) ∧ ∀ x ∈ linesFrom j q, (j : Int) ≤ x.shelf
  | [], j => by simp [linesFrom]
  | n :: q, j => by
    obtain ⟨i1, i2⟩ := from_sorted q (j + 1)
    rw [linesFrom]
    split
    · refine ⟨List.pairwise_cons.2 ⟨fun y hy => ?_, i1⟩, fun x hx => ?_⟩
      · have := i2 y hy
        simp only
        omega
      · rcases List.mem_cons.1 hx with rfl | hx
        · exact Int.le_refl _
        · have := i2 x hx; omega
    · exact ⟨i1, fun x hx => by have := i2 x hx; omega⟩
theorem from_sum : ∀ (q : List Int) (j : Nat), (∀ n ∈ q, 0 ≤ n) → togetherF (linesFrom j q) = q.sum
  | [], j, _ => rfl
  | n :: q, j, h => by
    have ih := from_sum q (j + 1) (fun m hm => h m (by simp [hm]))
    have h0 := h n (by simp)
    rw [linesFrom, List.sum_cons]
    split
    · unfold togetherF at ih ⊢
      rw [List.map_cons, List.sum_cons, ih]
    · rw [ih]; omega
theorem from_cnt (i : Nat) : ∀ (q : List Int) (j : Nat), (∀ n ∈ q, 0 ≤ n) → cntL i (linesFrom j q) = if j ≤ i then (q[i - j]?).getD 0 else 0
  | [], j, _ => by simp [linesFrom, cntL]
  | n :: q, j, h => by
    have ih := from_cnt i q (j + 1) (fun m hm => h m (by simp [hm]))
    have h0 := h n (by simp)
    have hc : cntL i ((⟨(j : Int), n⟩ : SLine) :: linesFrom (j + 1) q) = (if j = i then n else 0) + cntL i (linesFrom (j + 1) q) := by simp [cntL]
    have hs : cntL i (linesFrom j (n :: q)) = (if j = i then n else 0) + cntL i (linesFrom (j + 1) q) := by
      rw [linesFrom]
      split
      · exact hc
      · have : n = 0 := by omega
        subst this
        split <;> omega
    rw [hs, ih]
    by_cases h1 : j = i
    · subst h1
      rw [if_pos rfl, if_neg (by omega), if_pos (Nat.le_refl _), Nat.sub_self]
      simp
    · by_cases h2 : j ≤ i
      · rw [if_neg h1, if_pos (by omega), if_pos h2, show i - j = (i - (j + 1)) + 1 by omega, List.getElem?_cons_succ]
        omega
      · rw [if_neg h1, if_neg (by omega), if_neg h2]
        rfl
/-- what loads are -/
structure IsLoad (f : Floor) (c : Nat) (q : List Int) : Prop where
  on : OnF f q
  some_ : 1 ≤ q.sum
  few : q.sum ≤ c
theorem loads_are {f : Floor} (hv : validB f = true) {c : Nat} (hc : 1 ≤ c) : ∀ (n : Nat) (p : List Int), OnF f p → p.sum ≤ n → (∀ q ∈ loadsF c n p, IsLoad f c q) ∧ ∀ (j : Nat) (x : Int), p[j]? = some x → ((loadsF c n p).map fun q => (q[j]?).getD 0).sum = x
  | 0, p, hp, hs => by
    refine ⟨by simp [loadsF], fun j x hx => ?_⟩
    have := zeros_of_sum p hp.pos (by omega) x (List.mem_of_getElem? hx)
    simp [loadsF, this]
  | n + 1, p, hp, hs => by
    rw [loadsF]
    by_cases hz : p.all (· == 0) = true
    · rw [if_pos hz]
      refine ⟨by simp, fun j x hx => ?_⟩
      rw [List.all_eq_true] at hz
      have := hz x (List.mem_of_getElem? hx)
      simp only [beq_iff_eq] at this
      simp [this]
    · rw [if_neg hz]
      obtain ⟨h1, h2, h3⟩ := farthest_on hv hp c
      have hpos : 1 ≤ p.sum := by
        apply Classical.byContradiction
        intro hn
        apply hz
        rw [List.all_eq_true]
        intro x hx
        have := zeros_of_sum p hp.pos (by omega) x hx
        simp [this]
      obtain ⟨j1, j2⟩ := h3 0
      rw [far_zero hv, far_zero hv] at j1 j2
      obtain ⟨i1, i2⟩ := loads_are hv hc n (withoutF p (farthestF c p)) h2 (by omega)
      refine ⟨fun q hq => ?_, fun j x hx => ?_⟩
      · rcases List.mem_cons.1 hq with rfl | hq
        · exact ⟨h1, by omega, by omega⟩
        · exact i1 q hq
      · obtain ⟨y, hy⟩ : ∃ y, (farthestF c p)[j]? = some y := ⟨_, List.getElem?_eq_getElem (by have := (List.getElem?_eq_some_iff.1 hx).1; rw [hp.len] at this; rw [h1.len]; exact this)⟩
        have := i2 j _ (without_get hx hy)
        rw [List.map_cons, List.sum_cons, this, hy]
        simp only [Option.getD_some]
        omega
theorem IsLoad.le {f : Floor} {c : Nat} {q : List Int} (h : IsLoad f c q) {n : Int} (hn : n ∈ q) : 0 ≤ n ∧ n ≤ c := by
  obtain ⟨k, hk, rfl⟩ := List.mem_iff_getElem.1 hn
  have h1 := maskS_ge (g := fun _ => true) q 0 k _ h.on.pos (List.getElem?_eq_getElem hk) rfl
  rw [true_sum] at h1
  have := h.few
  exact ⟨h.on.pos _ hn, by omega⟩
theorem load_lines {f : Floor} {c : Nat} (hc : c ≤ 20) {q : List Int} (h : IsLoad f c q) : linesR f.far.length (linesOf q) = true := by
  unfold linesR
  rw [List.all_eq_true]
  intro k hk
  have hk := List.mem_range.1 hk
  obtain ⟨x, hx⟩ : ∃ x, (linesOf q)[k]? = some x := ⟨_, List.getElem?_eq_getElem hk⟩
  have hm := List.mem_of_getElem? hx
  obtain ⟨j, e1, e2, e3⟩ := linesFrom_mem q 0 x hm
  have hj := h.on.only j _ e2 e3
  have hq := h.le (List.mem_of_getElem? e2)
  rw [goodLine_ref hx, Bool.and_eq_true, hasB_iff, hasB_iff]
  refine ⟨⟨?_, by omega⟩, by omega, by omega⟩
  cases k with
  | zero => show (0 : Int) ≤ x.shelf; omega
  | succ i =>
    obtain ⟨y, hy⟩ : ∃ y, (linesOf q)[i]? = some y := ⟨_, List.getElem?_eq_getElem (by omega)⟩
    rw [nextF_succ hy]
    have hp : (linesOf q).Pairwise (fun x y => x.shelf < y.shelf) := (from_sorted q 0).1
    rw [List.pairwise_iff_getElem] at hp
    have := hp i (i + 1) (by omega) hk (by omega)
    have hi : i < (linesOf q).length := (List.getElem?_eq_some_iff.1 hy).1
    have ey : (linesOf q)[i] = y := by rw [List.getElem?_eq_getElem hi] at hy; simpa using hy
    have ex : (linesOf q)[i + 1] = x := by rw [List.getElem?_eq_getElem hk] at hx; simpa using hx
    rw [ey, ex] at this
    omega
theorem load_long {f : Floor} (hv : validB f = true) {c : Nat} (hc : c ≤ 20) {q : List Int} (h : IsLoad f c q) : 1 ≤ (linesOf q).length ∧ 2 * (f.far[(lastShelf (linesOf q)).toNat]?).getD 0 = longF f q := by
  have hl : 1 ≤ (linesOf q).length := by
    have h1 := from_sum q 0 h.on.pos
    have h2 := h.some_
    cases hq : linesOf q with
    | nil => unfold linesOf at hq; rw [hq] at h1; simp [togetherF] at h1; omega
    | cons _ _ => simp
  refine ⟨hl, ?_⟩
  have hx : (linesOf q)[(linesOf q).length - 1]? = some (linesOf q)[(linesOf q).length - 1] := List.getElem?_eq_getElem (by omega)
  have hfs := far_sorted hv (load_lines hc h)
  rw [longF]
  have hd : (f.far[(lastShelf (linesOf q)).toNat]?).getD 0 = farF f (linesOf q)[(linesOf q).length - 1] := by
    rw [lastShelf, hx]; rfl
  rw [hd]
  have h0 : 0 ≤ farF f (linesOf q)[(linesOf q).length - 1] := (fk_range hv _).1
  have g1 : farF f (linesOf q)[(linesOf q).length - 1] ≤ greatestF 0 (farsF f q) := (greatest_ge _ _).2 (.inr ⟨_, List.mem_map.2 ⟨_, List.getElem_mem _, rfl⟩, Int.le_refl _⟩)
  have g2 : greatestF 0 (farsF f q) ≤ farF f (linesOf q)[(linesOf q).length - 1] := by
    rcases (greatest_ge (farsF f q) 0 (h := greatestF 0 (farsF f q))).1 (Int.le_refl _) with h3 | ⟨y, hy, h3⟩
    · omega
    · obtain ⟨x, hxm, rfl⟩ := List.mem_map.1 hy
      obtain ⟨i, hi, rfl⟩ := List.mem_iff_getElem.1 hxm
      by_cases hil : i = (linesOf q).length - 1
      · subst hil; exact h3
      · have := List.pairwise_iff_getElem.1 hfs i ((linesOf q).length - 1) hi (by omega) (by omega)
        omega
  omega
theorem told_tours {f : Floor} (hv : validB f = true) {k : Nat} {s : SSlip} (hs : f.slips[k]? = some s) {ts : List STour} (ht : ts.map STour.lines = (loadsOf f s).map linesOf) :
    isToursR f s ts = true ∧ walkF f ts = stepsF f s ∧ ∀ t ∈ ts, 1 ≤ t.lines.length ∧ ∀ x ∈ t.lines, 0 ≤ x.shelf ∧ x.shelf < f.far.length := by
  have hf := fine hv
  obtain ⟨h1, h2, h3, h4⟩ := slip_lines hv hs
  obtain ⟨c, hc⟩ : ∃ c : Nat, f.carry = c := ⟨f.carry.toNat, by have := hf.carry1; omega⟩
  have hc1 : 1 ≤ c := by have := hf.carry1; omega
  have hc2 : c ≤ 20 := by have := hf.carry20; omega
  have hon := pieces_on hf.far12 (fun x hx => ⟨(h2 x hx).1, by have := (h2 x hx).2.1; omega⟩)
  have hsum : 0 ≤ (piecesF s.lines).sum := sum_nonneg _ hon.pos
  have hL : loadsOf f s = loadsF c (piecesF s.lines).sum.toNat (piecesF s.lines) := by rw [loadsOf, hc, Int.toNat_natCast]
  obtain ⟨l1, l2⟩ := loads_are hv hc1 (piecesF s.lines).sum.toNat (piecesF s.lines) hon (by omega)
  rw [← hL] at l1 l2
  have hme : ∀ t ∈ ts, ∃ q ∈ loadsOf f s, t.lines = linesOf q := fun t ht2 => by
    have : t.lines ∈ ts.map STour.lines := List.mem_map.2 ⟨t, ht2, rfl⟩
    rw [ht] at this
    obtain ⟨q, hq, e⟩ := List.mem_map.1 this
    exact ⟨q, hq, e.symm⟩
  have hall : ∀ t ∈ ts, 1 ≤ t.lines.length ∧ ∀ x ∈ t.lines, 0 ≤ x.shelf ∧ x.shelf < f.far.length := fun t ht2 => by
    obtain ⟨q, hq, e⟩ := hme t ht2
    refine ⟨by rw [e]; exact (load_long hv hc2 (l1 q hq)).1, fun x hx => ?_⟩
    rw [e] at hx
    obtain ⟨j, e1, e2, e3⟩ := linesFrom_mem q 0 x hx
    have := (l1 q hq).on.only j _ e2 e3
    omega
  refine ⟨?_, ?_, hall⟩
  · unfold isToursR
    rw [Bool.and_eq_true, List.all_eq_true, List.all_eq_true]
    refine ⟨fun k hk => ?_, fun y hy => ?_⟩
    · rw [List.getElem?_eq_getElem (List.mem_range.1 hk)]
      simp only
      have hm := List.getElem_mem (List.mem_range.1 hk)
      obtain ⟨q, hq, e⟩ := hme _ hm
      have hl := (hall _ hm).1
      unfold goodR
      rw [Bool.and_eq_true, Bool.and_eq_true, decide_eq_true_eq]
      refine ⟨⟨by rw [Bool.not_eq_true', beq_eq_false_iff_ne]; omega, by rw [e]; exact load_lines hc2 (l1 q hq)⟩, ?_⟩
      rw [e, hc]
      unfold linesOf
      rw [from_sum q 0 (l1 q hq).on.pos]
      exact (l1 q hq).few
    · obtain ⟨j, hj, rfl⟩ := List.mem_iff_getElem.1 hy
      have g1 := List.getElem?_eq_getElem hj
      rw [leftR_get, addL_get, List.getElem?_replicate] at g1
      split at g1
      · rename_i hjn
        have hct : cntT j ts = cntL j s.lines := by
          have e1 : cntT j ts = ((ts.map STour.lines).map (cntL j)).sum := by rw [cntT, List.map_map]; rfl
          rw [e1, ht, List.map_map]
          rw [← l2 j _ (pieces_get s.lines (by have := hf.far12; omega))]
          congr 1
          apply List.map_congr_left
          intro q hq
          have := from_cnt j q 0 (l1 q hq).on.pos
          rw [if_pos (Nat.zero_le _), Nat.sub_zero] at this
          exact this
        rw [hct] at g1
        simp only [Option.map_some, Option.some.injEq] at g1
        rw [← g1]
        simp
      · cases g1
  · unfold walkF
    have e1 : ts.map (goesF f) = (ts.map STour.lines).map fun l => 2 * (f.far[(lastShelf l).toNat]?).getD 0 := by rw [List.map_map]; rfl
    rw [e1, ht, List.map_map, stepsF, stepsL]
    congr 1
    apply List.map_congr_left
    intro q hq
    exact (load_long hv hc2 (l1 q hq)).2
end Go.Proofs.YtomgnpfpaodpiaaDoor

/- The law SlipTours holds of every floor, number and tours. -/
namespace Go.Proofs.YtomgnpfpaodpiaaDoor
open Go Go.RowKit
set_option maxHeartbeats 8000000
theorem stepsV_same (f : Floor) (n : Int) : rStepsV f n = StepsV f n := by
  rcases check_cases f n with hbad | ⟨h0, hv, k, s, rfl, hs⟩
  · unfold rStepsV StepsV; rw [if_neg (by omega), if_neg (by omega)]
  · unfold rStepsV StepsV; rw [if_pos h0, if_pos h0, Int.toNat_natCast, hs]; exact steps_same hv hs
theorem takesV_same (f : Floor) (n : Int) : rTakesV f n = TakesV f n := by
  rcases check_cases f n with hbad | ⟨h0, hv, k, s, rfl, hs⟩
  · unfold rTakesV TakesV; rw [if_neg (by omega), if_neg (by omega)]
  · unfold rTakesV TakesV; rw [if_pos h0, if_pos h0, Int.toNat_natCast, hs]; exact takes_same hv hs
theorem toursV_told (f : Floor) (n : Int) (ts : List STour) (h : ts.map STour.lines = ToursV f n) : (checkSlipV f n ≠ 0 ∧ ts = []) ∨ (checkSlipV f n = 0 ∧ validB f = true ∧ isToursV f n ts = true ∧ walkF f ts = StepsV f n ∧ ∀ t ∈ ts, 1 ≤ t.lines.length ∧ ∀ x ∈ t.lines, 0 ≤ x.shelf ∧ x.shelf < f.far.length) := by
  rcases check_cases f n with hbad | ⟨h0, hv, k, s, rfl, hs⟩
  · left
    refine ⟨by omega, ?_⟩
    unfold ToursV at h
    rw [if_neg (by omega)] at h
    exact List.map_eq_nil_iff.1 h
  · right
    unfold ToursV at h
    rw [if_pos h0, Int.toNat_natCast, hs] at h
    obtain ⟨h1, h2, h3⟩ := told_tours hv hs h
    refine ⟨h0, hv, ?_, ?_, h3⟩
    · unfold isToursV; rw [if_pos h0, Int.toNat_natCast, hs, ← h1]; exact tours_same hv hs ts
    · unfold StepsV; rw [if_pos h0, Int.toNat_natCast, hs]; exact h2
set_option maxRecDepth 100000 in
theorem slipTours_any (f : Floor) (n : Int) (A : Option Addr) (cap : Nat) (ts : List STour) (w : World) (hl : Lim w) (h : FloorAt w w.heap.size f) (ht : ToursAt w w.heap.size A cap ts) :
    Calls Tryd.prog 3 #[f.val, vi n, .slice A ts.length cap] w fun e w' => e = .returned (.bool true) ∧ Below w.heap.size w w' := by
  have HL := Lib.hid hl
  have HF := Lib.hid h
  have HT := Lib.hid ht
  obtain ⟨c, hc⟩ : ∃ c, checkSlipV f n = c := ⟨_, rfl⟩
  obtain ⟨b, hb⟩ : ∃ b, isToursV f n ts = b := ⟨_, rfl⟩
  obtain ⟨p, hp⟩ : ∃ p, StepsV f n = p := ⟨_, rfl⟩
  obtain ⟨q, hq⟩ : ∃ q, TakesV f n = q := ⟨_, rfl⟩
  obtain ⟨v, hv⟩ : ∃ v, checkV f = v := ⟨_, rfl⟩
  have C1 : Hid (∀ W : World, Lim W → FloorAt W W.heap.size f → ToursAt W W.heap.size A cap ts → Calls Tryd.prog 14 #[f.val, vi n, .slice A ts.length cap] W fun e w' => e = .returned (.tuple #[.bool b, vi c]) ∧ Below W.heap.size W w') := fun W h1 h2 h3 => by rw [← hb, ← hc]; exact IsTours_any f n A cap ts W h1 h2 h3
  have C2 : Hid (∀ W : World, FloorAt W W.heap.size f → ToursAt W W.heap.size A cap ts → Calls Tryd.prog 15 #[f.val, vi n, .slice A ts.length cap] W fun e w' => e = .returned (.tuple #[.bool b, vi c]) ∧ Below W.heap.size W w') := fun W h2 h3 => by rw [← hb, ← hc]; exact rIsTours_any f n A cap ts W h2 h3
  have C3 := Lib.hid (fun (W : World) h1 h2 => check_is hv W h1 h2)
  have C4 := Lib.hid (fun (W : World) h2 => rcheck_is hv W h2)
  have C5 : Hid (∀ W : World, Lim W → FloorAt W W.heap.size f → Calls Tryd.prog 18 #[f.val, vi n] W fun e w' => e = .returned (.tuple #[vi p, vi c]) ∧ Below W.heap.size W w') := fun W h1 h2 => by rw [← hp, ← hc]; exact Steps_any f n W h1 h2
  have C6 : Hid (∀ W : World, FloorAt W W.heap.size f → Calls Tryd.prog 19 #[f.val, vi n] W fun e w' => e = .returned (.tuple #[vi p, vi c]) ∧ Below W.heap.size W w') := fun W h2 => by rw [← hp, ← hc, ← stepsV_same]; exact rSteps_any f n W h2
  have C7 : Hid (∀ W : World, Lim W → FloorAt W W.heap.size f → Calls Tryd.prog 20 #[f.val, vi n] W fun e w' => e = .returned (.tuple #[spanV q, vi c]) ∧ Below W.heap.size W w') := fun W h1 h2 => by rw [← hq, ← hc]; exact Takes_any f n W h1 h2
  have C8 : Hid (∀ W : World, FloorAt W W.heap.size f → Calls Tryd.prog 21 #[f.val, vi n] W fun e w' => e = .returned (.tuple #[spanV q, vi c]) ∧ Below W.heap.size W w') := fun W h2 => by rw [← hq, ← hc, ← takesV_same]; exact rTakes_any f n W h2
  have C9 : Hid (∀ W : World, Lim W → FloorAt W W.heap.size f → Calls Tryd.prog 22 #[f.val, vi n] W fun e w' => ∃ B us, e = .returned (.tuple #[.slice B us.length us.length, vi c]) ∧ ToursAt w' w'.heap.size B us.length us ∧ ((c ≠ 0 ∧ us = []) ∨ (c = 0 ∧ validB f = true ∧ isToursV f n us = true ∧ walkF f us = p ∧ ∀ t ∈ us, 1 ≤ t.lines.length ∧ ∀ x ∈ t.lines, 0 ≤ x.shelf ∧ x.shelf < f.far.length)) ∧ Below W.heap.size W w') := fun W h1 h2 => by
    refine (Tours_any f n W h1 h2).mono ?_
    rintro e w' ⟨B, us, rfl, g1, g2, g3⟩
    have := toursV_told f n us g2
    rw [hc, hp] at this
    rw [hc]
    exact ⟨B, us, rfl, g1, this, g3⟩
  have C10 : Hid (∀ (W : World) (B : Option Addr) (us : List STour), isToursV f n us = true → FloorAt W W.heap.size f → ToursAt W W.heap.size B us.length us → Calls Tryd.prog 15 #[f.val, vi n, .slice B us.length us.length] W fun e w' => e = .returned (.tuple #[.bool true, vi c]) ∧ Below W.heap.size W w') := fun W B us h1 h2 h3 => by
    have := rIsTours_any f n B us.length us W h2 h3
    rwa [h1, hc] at this
  clear hl h ht hc hb hp hq hv
  obtain ⟨fv, hfv⟩ : ∃ fv, fv = f.val := ⟨_, rfl⟩
  have X0 := CellsBox.new w 28 f.cells
  have hb0 : Below w.heap.size w (w.alloc (.cells f.cells.toArray 28)) := below1 _ _
  obtain ⟨V, hV⟩ : ∃ V, V = w.alloc (.cells f.cells.toArray 28) := ⟨_, rfl⟩
  rw [← hV] at X0 hb0
  have HX := Lib.hid X0
  have a0 := X0.cell (j := 0) rfl
  have a1 := X0.cell (j := 1) rfl
  have a2 := X0.cell (j := 2) rfl
  have a3 := X0.cell (j := 3) rfl
  have a4 := X0.cell (j := 4) rfl
  have a5 := X0.cell (j := 5) rfl
  have za := X0.lt
  clear X0
  show Calls Tryd.prog 3 #[.agg #[.slice f.fA f.far.length f.fC, vi f.slo, vi f.shi, .slice f.pA f.picks.length f.pC, vi f.carry, .slice f.sA f.slips.length f.sC], vi n, .slice A ts.length cap] w _
  go_enter Tryd.func3, Tryd.ntmps3
  have HB := hb0
  go_wp2_with fail
  rw [← show V = w.alloc (.cells #[.slice f.fA f.far.length f.fC, vi f.slo, vi f.shi, .slice f.pA f.picks.length f.pC, vi f.carry, .slice f.sA f.slips.length f.sC] 28) from hV]
  clear hV
  refine (C1.out _ (HL.out.next HB) (HF.out.to HB) (HT.out.to HB)).mono ?_
  rintro e W1 ⟨rfl, hb⟩
  replace HB : Below w.heap.size w W1 := HB.trans (hb.mono HB.size)
  replace HX := Lib.hid (HX.out.keep hb)
  clear a0 a1 a2 a3 a4 a5 za hb
  have a0 := HX.out.cell (j := 0) rfl
  have a1 := HX.out.cell (j := 1) rfl
  have a2 := HX.out.cell (j := 2) rfl
  have a3 := HX.out.cell (j := 3) rfl
  have a4 := HX.out.cell (j := 4) rfl
  have a5 := HX.out.cell (j := 5) rfl
  have za := HX.out.lt
  go_wp2_with fail
  refine (C2.out _ (HF.out.to HB) (HT.out.to HB)).mono ?_
  rintro e W2 ⟨rfl, hb⟩
  replace HB : Below w.heap.size w W2 := HB.trans (hb.mono HB.size)
  replace HX := Lib.hid (HX.out.keep hb)
  clear a0 a1 a2 a3 a4 a5 za hb
  have a0 := HX.out.cell (j := 0) rfl
  have a1 := HX.out.cell (j := 1) rfl
  have a2 := HX.out.cell (j := 2) rfl
  have a3 := HX.out.cell (j := 3) rfl
  have a4 := HX.out.cell (j := 4) rfl
  have a5 := HX.out.cell (j := 5) rfl
  have za := HX.out.lt
  go_wp2_with fail
  (refine wp_region_grow_lit (by kernel_rfl) (by kernel_rfl) ?_; (repeat (go_big_quiet_step (first | (go_at_call 16; refine Calls.grow_of (C3.out _ (HL.out.next (HB.trans ((plus_below _ _).mono HB.size))) (HF.out.to (HB.trans ((plus_below _ _).mono HB.size))))) | (go_at_call 17; refine Calls.grow_of (C4.out _ (HF.out.to (HB.trans ((plus_below _ _).mono HB.size)))))))); refine wpQuiet_nil ?_; intro w1 hw1; have hb1 := below_of_plus hw1; clear hw1; obtain ⟨⟨hc1, hf1, hs1⟩, hz1⟩ := after hb1; (try simp only [World.size_alloc, World.size_setCell, World.size_drew] at hz1))
  replace HB : Below w.heap.size w w1 := HB.trans (hb1.mono HB.size)
  replace HX := Lib.hid (HX.out.keep hb1)
  clear a0 a1 a2 a3 a4 a5 za hb1 hc1 hf1 hs1 hz1
  have a0 := HX.out.cell (j := 0) rfl
  have a1 := HX.out.cell (j := 1) rfl
  have a2 := HX.out.cell (j := 2) rfl
  have a3 := HX.out.cell (j := 3) rfl
  have a4 := HX.out.cell (j := 4) rfl
  have a5 := HX.out.cell (j := 5) rfl
  have za := HX.out.lt
  go_wp2_with fail
  refine (C5.out _ (HL.out.next HB) (HF.out.to HB)).mono ?_
  rintro e W3 ⟨rfl, hb⟩
  replace HB : Below w.heap.size w W3 := HB.trans (hb.mono HB.size)
  replace HX := Lib.hid (HX.out.keep hb)
  clear a0 a1 a2 a3 a4 a5 za hb
  have a0 := HX.out.cell (j := 0) rfl
  have a1 := HX.out.cell (j := 1) rfl
  have a2 := HX.out.cell (j := 2) rfl
  have a3 := HX.out.cell (j := 3) rfl
  have a4 := HX.out.cell (j := 4) rfl
  have a5 := HX.out.cell (j := 5) rfl
  have za := HX.out.lt
  go_wp2_with fail
  refine (C6.out _ (HF.out.to HB)).mono ?_
  rintro e W4 ⟨rfl, hb⟩
  replace HB : Below w.heap.size w W4 := HB.trans (hb.mono HB.size)
  replace HX := Lib.hid (HX.out.keep hb)
  clear a0 a1 a2 a3 a4 a5 za hb
  have a0 := HX.out.cell (j := 0) rfl
  have a1 := HX.out.cell (j := 1) rfl
  have a2 := HX.out.cell (j := 2) rfl
  have a3 := HX.out.cell (j := 3) rfl
  have a4 := HX.out.cell (j := 4) rfl
  have a5 := HX.out.cell (j := 5) rfl
  have za := HX.out.lt
  go_wp2_with fail
  obtain ⟨u1, u2⟩ := q
  refine (C7.out _ (HL.out.next HB) (HF.out.to HB)).mono ?_
  rintro e W5 ⟨rfl, hb⟩
  replace HB : Below w.heap.size w W5 := HB.trans (hb.mono HB.size)
  replace HX := Lib.hid (HX.out.keep hb)
  clear a0 a1 a2 a3 a4 a5 za hb
  have a0 := HX.out.cell (j := 0) rfl
  have a1 := HX.out.cell (j := 1) rfl
  have a2 := HX.out.cell (j := 2) rfl
  have a3 := HX.out.cell (j := 3) rfl
  have a4 := HX.out.cell (j := 4) rfl
  have a5 := HX.out.cell (j := 5) rfl
  have za := HX.out.lt
  go_wp2_with fail
  have hbA := below1 W5 (.cells #[vi u1, vi u2] 24)
  have HS := CellsBox.new W5 24 [vi u1, vi u2]
  refine (C8.out _ (HF.out.to (HB.trans (hbA.mono HB.size)))).mono ?_
  rintro e W6 ⟨rfl, hb⟩
  replace HX := Lib.hid ((HX.out.keep hbA).keep hb)
  replace HS := HS.keep hb
  replace HB : Below w.heap.size w W6 := HB.trans ((gr_trans hbA hb).mono HB.size)
  clear a0 a1 a2 a3 a4 a5 za hb hbA
  have a0 := HX.out.cell (j := 0) rfl
  have a1 := HX.out.cell (j := 1) rfl
  have a2 := HX.out.cell (j := 2) rfl
  have a3 := HX.out.cell (j := 3) rfl
  have a4 := HX.out.cell (j := 4) rfl
  have a5 := HX.out.cell (j := 5) rfl
  have za := HX.out.lt
  have s0 := HS.cell (j := 0) rfl
  have s1 := HS.cell (j := 1) rfl
  have zs := HS.lt
  go_wp2_with fail
  have hbA := below1 W6 (.cells #[vi u1, vi u2] 24)
  have HBA := HB.trans (hbA.mono HB.size)
  refine (C9.out _ (HL.out.next HBA) (HF.out.to HBA)).mono ?_
  rintro e W7 ⟨B, us, rfl, hU, hcase, hb⟩
  replace HX := Lib.hid ((HX.out.keep hbA).keep hb)
  replace HB : Below w.heap.size w W7 := HB.trans ((gr_trans hbA hb).mono HB.size)
  have HU := Lib.hid hU
  clear a0 a1 a2 a3 a4 a5 za hb hbA HBA hU s0 s1 zs HS
  have a0 := HX.out.cell (j := 0) rfl
  have a1 := HX.out.cell (j := 1) rfl
  have a2 := HX.out.cell (j := 2) rfl
  have a3 := HX.out.cell (j := 3) rfl
  have a4 := HX.out.cell (j := 4) rfl
  have a5 := HX.out.cell (j := 5) rfl
  have za := HX.out.lt
  rcases hcase with ⟨hc0, rfl⟩ | ⟨rfl, hval, his, hwalk, hok⟩
  · have hne : (c != 0) = true := by simpa using hc0
    have hnl : (([] : List STour).length : Int) = 0 := rfl
    clear hc0
    go_wp2_with fail
    refine (works_any _ (HL.out.next HB)).mono ?_
    rintro e W ⟨rfl, hb⟩
    replace HB : Below w.heap.size w W := HB.trans (hb.mono HB.size)
    clear hb
    go_wp2_with fail
    go_ret
    exact ⟨rfl, HB⟩
  · have HVAL := Lib.hid hval
    have HWK := Lib.hid hwalk
    have HOK := Lib.hid hok
    have HIS := Lib.hid his
    clear hval hwalk hok his
    go_wp2_with fail
    refine (C10.out _ B us HIS.out (HF.out.to HB) HU.out).mono ?_
    rintro e W ⟨rfl, hb⟩
    replace HX := Lib.hid (HX.out.keep hb)
    replace HU := Lib.hid (HU.out.to hb)
    replace HB : Below w.heap.size w W := HB.trans (hb.mono HB.size)
    clear hb a0 a1 a2 a3 a4 a5 za
    have a0 := HX.out.cell (j := 0) rfl
    have a1 := HX.out.cell (j := 1) rfl
    have a2 := HX.out.cell (j := 2) rfl
    have a3 := HX.out.cell (j := 3) rfl
    have a4 := HX.out.cell (j := 4) rfl
    have a5 := HX.out.cell (j := 5) rfl
    have za := HX.out.lt
    go_wp2_with fail
    refine (Walk_any f HVAL.out B us.length us HOK.out _ (HF.out.to HB) HU.out).mono ?_
    rw [HWK.out]
    rintro e W2 ⟨rfl, hb⟩
    replace HB : Below w.heap.size w W2 := HB.trans (hb.mono HB.size)
    clear hb a0 a1 a2 a3 a4 a5 za
    go_wp2_with fail
    refine (works_any _ (HL.out.next HB)).mono ?_
    rintro e W3 ⟨rfl, hb⟩
    replace HB : Below w.heap.size w W3 := HB.trans (hb.mono HB.size)
    clear hb
    go_wp2_with fail
    go_ret
    exact ⟨rfl, HB⟩
end Go.Proofs.YtomgnpfpaodpiaaDoor

