/- The tours that are told are tours of the slip, and take as many steps as are told. -/
import Derived.Test.YtomgnpfpaodpiaaDoorJ13
import Derived.Test.YtomgnpfpaodpiaaDoorJ16
import Derived.Lib.MinMax
import Derived.Deep.CutRange
import Derived.Test.YtomgnpfpaodpiaaDoorJ11
import Derived.Test.YtomgnpfpaodpiaaDoorJ14
import Derived.Laws.AppendOwnNone
set_option linter.unusedVariables false
set_option linter.unusedSimpArgs false
namespace Go.Proofs.YtomgnpfpaodpiaaDoor
open Go Go.RowKit
theorem from_sorted : ∀ (q : List Int) (j : Nat), (linesFrom j q).Pairwise (fun x y => x.shelf < y.shelf) ∧ ∀ x ∈ linesFrom j q, (j : Int) ≤ x.shelf
  | [], j => by simp [linesFrom]
  | n :: q, j => by
    obtain ⟨i1, i2⟩ := from_sorted q (j + 1)
    rw [linesFrom]
    split
    · refine ⟨List.pairwise_cons.2 ⟨fun y hy => ?_, i1⟩, fun x hx => ?_⟩
      · have := i2 y hy
        simp only
        omega
      · rcases List.mem_cons.1 hx with rfl | hx
        · exact Int.le_refl _
        · have := i2 x hx; omega
    · exact ⟨i1, fun x hx => by have := i2 x hx; omega⟩
theorem from_sum : ∀ (q : List Int) (j : Nat), (∀ n ∈ q, 0 ≤ n) → togetherF (linesFrom j q) = q.sum
  | [], j, _ => rfl
  | n :: q, j, h => by
    have ih := from_sum q (j + 1) (fun m hm => h m (by simp [hm]))
    have h0 := h n (by simp)
    rw [linesFrom, List.sum_cons]
    split
    · unfold togetherF at ih ⊢
      rw [List.map_cons, List.sum_cons, ih]
    · rw [ih]; omega
theorem from_cnt (i : Nat) : ∀ (q : List Int) (j : Nat), (∀ n ∈ q, 0 ≤ n) → cntL i (linesFrom j q) = if j ≤ i then (q[i - j]?).getD 0 else 0
  | [], j, _ => by simp [linesFrom, cntL]
  | n :: q, j, h => by
    have ih := from_cnt i q (j + 1) (fun m hm => h m (by simp [hm]))
    have h0 := h n (by simp)
    have hc : cntL i ((⟨(j : Int), n⟩ : SLine) :: linesFrom (j + 1) q) = (if j = i then n else 0) + cntL i (linesFrom (j + 1) q) := by simp [cntL]
    have hs : cntL i (linesFrom j (n :: q)) = (if j = i then n else 0) + cntL i (linesFrom (j + 1) q) := by
      rw [linesFrom]
      split
      · exact hc
      · have : n = 0 := by omega
        subst this
        split <;> omega
    rw [hs, ih]
    by_cases h1 : j = i
    · subst h1
      rw [if_pos rfl, if_neg (by omega), if_pos (Nat.le_refl _), Nat.sub_self]
      simp
    · by_cases h2 : j ≤ i
      · rw [if_neg h1, if_pos (by omega), if_pos h2, show i - j = (i - (j + 1)) + 1 by omega, List.getElem?_cons_succ]
        omega
      · rw [if_neg h1, if_neg (by omega), if_neg h2]
        rfl
/-- what loads are -/
structure IsLoad (f : Floor) (c : Nat) (q : List Int) : Prop where
  on : OnF f q
  some_ : 1 ≤ q.sum
  few : q.sum ≤ c
theorem loads_are {f : Floor} (hv : validB f = true) {c : Nat} (hc : 1 ≤ c) : ∀ (n : Nat) (p : List Int), OnF f p → p.sum ≤ n → (∀ q ∈ loadsF c n p, IsLoad f c q) ∧ ∀ (j : Nat) (x : Int), p[j]? = some x → ((loadsF c n p).map fun q => (q[j]?).getD 0).sum = x
  | 0, p, hp, hs => by
    refine ⟨by simp [loadsF], fun j x hx => ?_⟩
    have := zeros_of_sum p hp.pos (by omega) x (List.mem_of_getElem? hx)
    simp [loadsF, this]
  | n + 1, p, hp, hs => by
    rw [loadsF]
    by_cases hz : p.all (· == 0) = true
    · rw [if_pos hz]
      refine ⟨by simp, fun j x hx => ?_⟩
      rw [List.all_eq_true] at hz
      have := hz x (List.mem_of_getElem? hx)
      simp only [beq_iff_eq] at this
      simp [this]
    · rw [if_neg hz]
      obtain ⟨h1, h2, h3⟩ := farthest_on hv hp c
      have hpos : 1 ≤ p.sum := by
        apply Classical.byContradiction
        intro hn
        apply hz
        rw [List.all_eq_true]
        intro x hx
        have := zeros_of_sum p hp.pos (by omega) x hx
        simp [this]
      obtain ⟨j1, j2⟩ := h3 0
      rw [far_zero hv, far_zero hv] at j1 j2
      obtain ⟨i1, i2⟩ := loads_are hv hc n (withoutF p (farthestF c p)) h2 (by omega)
      refine ⟨fun q hq => ?_, fun j x hx => ?_⟩
      · rcases List.mem_cons.1 hq with rfl | hq
        · exact ⟨h1, by omega, by omega⟩
        · exact i1 q hq
      · obtain ⟨y, hy⟩ : ∃ y, (farthestF c p)[j]? = some y := ⟨_, List.getElem?_eq_getElem (by have := (List.getElem?_eq_some_iff.1 hx).1; rw [hp.len] at this; rw [h1.len]; exact this)⟩
        have := i2 j _ (without_get hx hy)
        rw [List.map_cons, List.sum_cons, this, hy]
        simp only [Option.getD_some]
        omega
theorem IsLoad.le {f : Floor} {c : Nat} {q : List Int} (h : IsLoad f c q) {n : Int} (hn : n ∈ q) : 0 ≤ n ∧ n ≤ c := by
  obtain ⟨k, hk, rfl⟩ := List.mem_iff_getElem.1 hn
  have h1 := maskS_ge (g := fun _ => true) q 0 k _ h.on.pos (List.getElem?_eq_getElem hk) rfl
  rw [true_sum] at h1
  have := h.few
  exact ⟨h.on.pos _ hn, by omega⟩
theorem load_lines {f : Floor} {c : Nat} (hc : c ≤ 20) {q : List Int} (h : IsLoad f c q) : linesR f.far.length (linesOf q) = true := by
  unfold linesR
  rw [List.all_eq_true]
  intro k hk
  have hk := List.mem_range.1 hk
  obtain ⟨x, hx⟩ : ∃ x, (linesOf q)[k]? = some x := ⟨_, List.getElem?_eq_getElem hk⟩
  have hm := List.mem_of_getElem? hx
  obtain ⟨j, e1, e2, e3⟩ := linesFrom_mem q 0 x hm
  have hj := h.on.only j _ e2 e3
  have hq := h.le (List.mem_of_getElem? e2)
  rw [goodLine_ref hx, Bool.and_eq_true, hasB_iff, hasB_iff]
  refine ⟨⟨?_, by omega⟩, by omega, by omega⟩
  cases k with
  | zero => show (0 : Int) ≤ x.shelf; omega
  | succ i =>
    obtain ⟨y, hy⟩ : ∃ y, (linesOf q)[i]? = some y := ⟨_, List.getElem?_eq_getElem (by omega)⟩
    rw [nextF_succ hy]
    have hp : (linesOf q).Pairwise (fun x y => x.shelf < y.shelf) := (from_sorted q 0).1
    rw [List.pairwise_iff_getElem] at hp
    have := hp i (i + 1) (by omega) hk (by omega)
    have hi : i < (linesOf q).length := (List.getElem?_eq_some_iff.1 hy).1
    have ey : (linesOf q)[i] = y := by rw [List.getElem?_eq_getElem hi] at hy; simpa using hy
    have ex : (linesOf q)[i + 1] = x := by rw [List.getElem?_eq_getElem hk] at hx; simpa using hx
    rw [ey, ex] at this
    omega
theorem load_long {f : Floor} (hv : validB f = true) {c : Nat} (hc : c ≤ 20) {q : List Int} (h : IsLoad f c q) : 1 ≤ (linesOf q).length ∧ 2 * (f.far[(lastShelf (linesOf q)).toNat]?).getD 0 = longF f q := by
  have hl : 1 ≤ (linesOf q).length := by
    have h1 := from_sum q 0 h.on.pos
    have h2 := h.some_
    cases hq : linesOf q with
    | nil => unfold linesOf at hq; rw [hq] at h1; simp [togetherF] at h1; omega
    | cons _ _ => simp
  refine ⟨hl, ?_⟩
  have hx : (linesOf q)[(linesOf q).length - 1]? = some (linesOf q)[(linesOf q).length - 1] := List.getElem?_eq_getElem (by omega)
  have hfs := far_sorted hv (load_lines hc h)
  rw [longF]
  have hd : (f.far[(lastShelf (linesOf q)).toNat]?).getD 0 = farF f (linesOf q)[(linesOf q).length - 1] := by
    rw [lastShelf, hx]; rfl
  rw [hd]
  have h0 : 0 ≤ farF f (linesOf q)[(linesOf q).length - 1] := (fk_range hv _).1
  have g1 : farF f (linesOf q)[(linesOf q).length - 1] ≤ greatestF 0 (farsF f q) := (greatest_ge _ _).2 (.inr ⟨_, List.mem_map.2 ⟨_, List.getElem_mem _, rfl⟩, Int.le_refl _⟩)
  have g2 : greatestF 0 (farsF f q) ≤ farF f (linesOf q)[(linesOf q).length - 1] := by
    rcases (greatest_ge (farsF f q) 0 (h := greatestF 0 (farsF f q))).1 (Int.le_refl _) with h3 | ⟨y, hy, h3⟩
    · omega
    · obtain ⟨x, hxm, rfl⟩ := List.mem_map.1 hy
      obtain ⟨i, hi, rfl⟩ := List.mem_iff_getElem.1 hxm
      by_cases hil : i = (linesOf q).length - 1
      · subst hil; exact h3
      · have := List.pairwise_iff_getElem.1 hfs i ((linesOf q).length - 1) hi (by omega) (by omega)
        omega
  omega
theorem told_tours {f : Floor} (hv : validB f = true) {k : Nat} {s : SSlip} (hs : f.slips[k]? = some s) {ts : List STour} (ht : ts.map STour.lines = (loadsOf f s).map linesOf) :
    isToursR f s ts = true ∧ walkF f ts = stepsF f s ∧ ∀ t ∈ ts, 1 ≤ t.lines.length ∧ ∀ x ∈ t.lines, 0 ≤ x.shelf ∧ x.shelf < f.far.length := by
  have hf := fine hv
  obtain ⟨h1, h2, h3, h4⟩ := slip_lines hv hs
  obtain ⟨c, hc⟩ : ∃ c : Nat, f.carry = c := ⟨f.carry.toNat, by have := hf.carry1; omega⟩
  have hc1 : 1 ≤ c := by have := hf.carry1; omega
  have hc2 : c ≤ 20 := by have := hf.carry20; omega
  have hon := pieces_on hf.far12 (fun x hx => ⟨(h2 x hx).1, by have := (h2 x hx).2.1; omega⟩)
  have hsum : 0 ≤ (piecesF s.lines).sum := sum_nonneg _ hon.pos
  have hL : loadsOf f s = loadsF c (piecesF s.lines).sum.toNat (piecesF s.lines) := by rw [loadsOf, hc, Int.toNat_natCast]
  obtain ⟨l1, l2⟩ := loads_are hv hc1 (piecesF s.lines).sum.toNat (piecesF s.lines) hon (by omega)
  rw [← hL] at l1 l2
  have hme : ∀ t ∈ ts, ∃ q ∈ loadsOf f s, t.lines = linesOf q := fun t ht2 => by
    have : t.lines ∈ ts.map STour.lines := List.mem_map.2 ⟨t, ht2, rfl⟩
    rw [ht] at this
    obtain ⟨q, hq, e⟩ := List.mem_map.1 this
    exact ⟨q, hq, e.symm⟩
  have hall : ∀ t ∈ ts, 1 ≤ t.lines.length ∧ ∀ x ∈ t.lines, 0 ≤ x.shelf ∧ x.shelf < f.far.length := fun t ht2 => by
    obtain ⟨q, hq, e⟩ := hme t ht2
    refine ⟨by rw [e]; exact (load_long hv hc2 (l1 q hq)).1, fun x hx => ?_⟩
    rw [e] at hx
    obtain ⟨j, e1, e2, e3⟩ := linesFrom_mem q 0 x hx
    have := (l1 q hq).on.only j _ e2 e3
    omega
  refine ⟨?_, ?_, hall⟩
  · unfold isToursR
    rw [Bool.and_eq_true, List.all_eq_true, List.all_eq_true]
    refine ⟨fun k hk => ?_, fun y hy => ?_⟩
    · rw [List.getElem?_eq_getElem (List.mem_range.1 hk)]
      simp only
      have hm := List.getElem_mem (List.mem_range.1 hk)
      obtain ⟨q, hq, e⟩ := hme _ hm
      have hl := (hall _ hm).1
      unfold goodR
      rw [Bool.and_eq_true, Bool.and_eq_true, decide_eq_true_eq]
      refine ⟨⟨by rw [Bool.not_eq_true', beq_eq_false_iff_ne]; omega, by rw [e]; exact load_lines hc2 (l1 q hq)⟩, ?_⟩
      rw [e, hc]
      unfold linesOf
      rw [from_sum q 0 (l1 q hq).on.pos]
      exact (l1 q hq).few
    · obtain ⟨j, hj, rfl⟩ := List.mem_iff_getElem.1 hy
      have g1 := List.getElem?_eq_getElem hj
      rw [leftR_get, addL_get, List.getElem?_replicate] at g1
      split at g1
      · rename_i hjn
        have hct : cntT j ts = cntL j s.lines := by
          have e1 : cntT j ts = ((ts.map STour.lines).map (cntL j)).sum := by rw [cntT, List.map_map]; rfl
          rw [e1, ht, List.map_map]
          rw [← l2 j _ (pieces_get s.lines (by have := hf.far12; omega))]
          congr 1
          apply List.map_congr_left
          intro q hq
          have := from_cnt j q 0 (l1 q hq).on.pos
          rw [if_pos (Nat.zero_le _), Nat.sub_zero] at this
          exact this
        rw [hct] at g1
        simp only [Option.map_some, Option.some.injEq] at g1
        rw [← g1]
        simp
      · cases g1
  · unfold walkF
    have e1 : ts.map (goesF f) = (ts.map STour.lines).map fun l => 2 * (f.far[(lastShelf l).toNat]?).getD 0 := by rw [List.map_map]; rfl
    rw [e1, ht, List.map_map, stepsF, stepsL]
    congr 1
    apply List.map_congr_left
    intro q hq
    exact (load_long hv hc2 (l1 q hq)).2
end Go.Proofs.YtomgnpfpaodpiaaDoor

/- Tours that fetch just the pieces of a slip: what they fetch, and how far they go. Plain mathematics. -/
namespace Go.Proofs.YtomgnpfpaodpiaaDoor
open Go Go.RowKit
set_option maxHeartbeats 2000000
/-- how far a tour goes -/
def farM (f : Floor) (l : List SLine) : Int := l.foldl (fun a x => max a (farF f x)) 0
theorem foldM_ge (f : Floor) {h : Int} : ∀ (l : List SLine) (a : Int), h ≤ l.foldl (fun a x => max a (farF f x)) a ↔ h ≤ a ∨ ∃ x ∈ l, h ≤ farF f x
  | [], a => by simp
  | x :: l, a => by
    rw [List.foldl_cons, foldM_ge f l]
    constructor
    · rintro (h1 | ⟨y, hy, h1⟩)
      · rcases Int.le_total a (farF f x) with k | k
        · exact .inr ⟨x, by simp, by omega⟩
        · exact .inl (by omega)
      · exact .inr ⟨y, by simp [hy], h1⟩
    · rintro (h1 | ⟨y, hy, h1⟩)
      · exact .inl (by omega)
      · rcases List.mem_cons.1 hy with rfl | hy
        · exact .inl (by omega)
        · exact .inr ⟨y, hy, h1⟩
theorem farM_snoc (f : Floor) {l : List SLine} {k : Nat} {x : SLine} (h : l[k]? = some x) : farM f (l.take (k + 1)) = max (farM f (l.take k)) (farF f x) := by
  obtain ⟨hk, rfl⟩ := List.getElem?_eq_some_iff.1 h
  unfold farM
  rw [List.take_succ_eq_append_getElem hk, List.foldl_append]
  rfl
theorem farM_range {f : Floor} (hv : validB f = true) (l : List SLine) : 0 ≤ farM f l ∧ farM f l ≤ 500 := by
  constructor
  · exact (foldM_ge f l 0).2 (.inl (Int.le_refl _))
  · apply Classical.byContradiction
    intro hn
    rcases (foldM_ge f l 0 (h := 501)).1 (by unfold farM at hn; omega) with h | ⟨x, _, h⟩
    · omega
    · have := (fk_range hv x.shelf.toNat).2
      unfold fkF at this
      unfold farF at h
      omega
theorem farM_last {f : Floor} (hv : validB f = true) {l : List SLine} (hl : linesR f.far.length l = true) (h1 : 1 ≤ l.length) : farM f l = (f.far[(lastShelf l).toNat]?).getD 0 := by
  have hx : l[l.length - 1]? = some l[l.length - 1] := List.getElem?_eq_getElem (by omega)
  have hfs := far_sorted hv hl
  have hd : (f.far[(lastShelf l).toNat]?).getD 0 = farF f l[l.length - 1] := by
    rw [lastShelf, hx]; rfl
  rw [hd]
  have h0 : 0 ≤ farF f l[l.length - 1] := (fk_range hv _).1
  have g1 : farF f l[l.length - 1] ≤ farM f l := (foldM_ge f _ _).2 (.inr ⟨_, List.getElem_mem _, Int.le_refl _⟩)
  have g2 : farM f l ≤ farF f l[l.length - 1] := by
    rcases (foldM_ge f l 0 (h := farM f l)).1 (Int.le_refl _) with h3 | ⟨x, hxm, h3⟩
    · omega
    · obtain ⟨i, hi, rfl⟩ := List.mem_iff_getElem.1 hxm
      by_cases hil : i = l.length - 1
      · subst hil; exact h3
      · have := List.pairwise_iff_getElem.1 hfs i (l.length - 1) hi (by omega) (by omega)
        omega
  omega
/-- how many steps tours take -/
def goneM (f : Floor) (L : List (List SLine)) : Int := (L.map fun l => 2 * farM f l).sum
theorem walk_gone {f : Floor} (hv : validB f = true) : ∀ (ts : List STour), (∀ t ∈ ts, linesR f.far.length t.lines = true ∧ 1 ≤ t.lines.length) → walkF f ts = goneM f (ts.map STour.lines)
  | [], _ => rfl
  | t :: ts, h => by
    have h1 := h t (by simp)
    have ih := walk_gone hv ts fun x hx => h x (by simp [hx])
    unfold walkF goneM at ih ⊢
    rw [List.map_cons, List.map_cons, List.map_cons, List.sum_cons, List.sum_cons, ih, goesF, farM_last hv h1.1 h1.2]
/-- what tours fetch of each shelf -/
def gotF (p : List Int) (L : List (List SLine)) : List Int := L.foldl (fun p l => addL 1 p l) p
theorem gotF_get : ∀ (L : List (List SLine)) (p : List Int) (j : Nat), (gotF p L)[j]? = (p[j]?).map fun y => y + (L.map (cntL j)).sum
  | [], p, j => by
    have : gotF p [] = p := rfl
    rw [this]
    cases p[j]? with
    | none => rfl
    | some y => simp
  | l :: L, p, j => by
    have e : gotF p (l :: L) = gotF (addL 1 p l) L := rfl
    rw [e, gotF_get L, addL_get]
    cases p[j]? with
    | none => rfl
    | some y => simp; omega
theorem got_same {f : Floor} {s : SSlip} {L : List (List SLine)} (h : ∀ j : Nat, j < f.far.length → (L.map (cntL j)).sum = cntL j s.lines) : gotF (List.replicate f.far.length 0) L = addL 1 (List.replicate f.far.length 0) s.lines := by
  apply List.ext_getElem?
  intro j
  rw [gotF_get, addL_get, List.getElem?_replicate]
  split
  · rename_i hj
    simp [h j hj]
  · rfl
theorem linesR_of {n : Int} {l : List SLine} (hp : l.Pairwise fun x y => x.shelf < y.shelf) (hb : ∀ x ∈ l, (0 ≤ x.shelf ∧ x.shelf < n) ∧ 1 ≤ x.many ∧ x.many ≤ 20) : linesR n l = true := by
  unfold linesR
  rw [List.all_eq_true]
  intro k hk
  have hk := List.mem_range.1 hk
  obtain ⟨x, hx⟩ : ∃ x, l[k]? = some x := ⟨_, List.getElem?_eq_getElem hk⟩
  have hm := hb x (List.mem_of_getElem? hx)
  rw [goodLine_ref hx, Bool.and_eq_true, hasB_iff, hasB_iff]
  refine ⟨⟨?_, by omega⟩, by omega, by omega⟩
  cases k with
  | zero => show (0 : Int) ≤ x.shelf; omega
  | succ i =>
    obtain ⟨y, hy⟩ : ∃ y, l[i]? = some y := ⟨_, List.getElem?_eq_getElem (by omega)⟩
    rw [nextF_succ hy]
    rw [List.pairwise_iff_getElem] at hp
    have := hp i (i + 1) (by omega) hk (by omega)
    have hi : i < l.length := (List.getElem?_eq_some_iff.1 hy).1
    have ey : l[i] = y := by rw [List.getElem?_eq_getElem hi] at hy; simpa using hy
    have ex : l[i + 1] = x := by rw [List.getElem?_eq_getElem hk] at hx; simpa using hx
    rw [ey, ex] at this
    omega
theorem linesR_parts {n : Int} {l : List SLine} (h : linesR n l = true) : (l.Pairwise fun x y => x.shelf < y.shelf) ∧ ∀ x ∈ l, (0 ≤ x.shelf ∧ x.shelf < n) ∧ 1 ≤ x.many ∧ x.many ≤ 20 :=
  ⟨shelf_sorted h, fun x hx => by
    obtain ⟨i, hi, rfl⟩ := List.mem_iff_getElem.1 hx
    have := linesR_at h i _ (List.getElem?_eq_getElem hi)
    omega⟩
/-- tours that fetch just the pieces of a slip -/
structure Fetch (f : Floor) (s : SSlip) (L : List (List SLine)) : Prop where
  good : ∀ l ∈ L, 1 ≤ l.length ∧ linesR f.far.length l = true ∧ togetherF l ≤ f.carry
  cnt : ∀ j : Nat, (L.map (cntL j)).sum = cntL j s.lines
theorem Fetch.tours {f : Floor} {s : SSlip} {ts : List STour} (h : Fetch f s (ts.map STour.lines)) : isToursR f s ts = true := by
  unfold isToursR
  rw [Bool.and_eq_true, List.all_eq_true, List.all_eq_true]
  refine ⟨fun k hk => ?_, fun y hy => ?_⟩
  · rw [List.getElem?_eq_getElem (List.mem_range.1 hk)]
    simp only
    obtain ⟨h1, h2, h3⟩ := h.good _ (List.mem_map.2 ⟨_, List.getElem_mem (List.mem_range.1 hk), rfl⟩)
    unfold goodR
    rw [Bool.and_eq_true, Bool.and_eq_true, decide_eq_true_eq]
    exact ⟨⟨by rw [Bool.not_eq_true', beq_eq_false_iff_ne]; omega, h2⟩, h3⟩
  · obtain ⟨j, hj, rfl⟩ := List.mem_iff_getElem.1 hy
    have g1 := List.getElem?_eq_getElem hj
    rw [leftR_get, addL_get, List.getElem?_replicate] at g1
    split at g1
    · have hc := h.cnt j
      have e1 : cntT j ts = ((ts.map STour.lines).map (cntL j)).sum := by rw [cntT, List.map_map]; rfl
      rw [← e1] at hc
      simp only [Option.map_some, Option.some.injEq] at g1
      rw [← g1, hc]
      simp
    · cases g1
theorem Fetch.of {f : Floor} {s : SSlip} {ts : List STour} (hs : ∀ x ∈ s.lines, (0 ≤ x.shelf ∧ x.shelf < (f.far.length : Int))) (h : isToursR f s ts = true) : Fetch f s (ts.map STour.lines) := by
  unfold isToursR at h
  rw [Bool.and_eq_true, List.all_eq_true, List.all_eq_true] at h
  have hg : ∀ l ∈ ts.map STour.lines, 1 ≤ l.length ∧ linesR f.far.length l = true ∧ togetherF l ≤ f.carry := fun l hl => by
    obtain ⟨t, ht, rfl⟩ := List.mem_map.1 hl
    obtain ⟨k, hk, rfl⟩ := List.mem_iff_getElem.1 ht
    have := h.1 k (List.mem_range.2 hk)
    rw [List.getElem?_eq_getElem hk] at this
    simp only at this
    unfold goodR at this
    rw [Bool.and_eq_true, Bool.and_eq_true, decide_eq_true_eq, Bool.not_eq_true', beq_eq_false_iff_ne] at this
    exact ⟨by omega, this.1.2, this.2⟩
  refine ⟨hg, fun j => ?_⟩
  have e1 : cntT j ts = ((ts.map STour.lines).map (cntL j)).sum := by rw [cntT, List.map_map]; rfl
  rw [← e1]
  by_cases hj : j < f.far.length
  · have g1 : (leftR (addL 1 (List.replicate f.far.length 0) s.lines) ts)[j]? = some (0 + 1 * cntL j s.lines - cntT j ts) := by
      rw [leftR_get, addL_get, List.getElem?_replicate, if_pos hj]
      rfl
    have := h.2 _ (List.mem_of_getElem? g1)
    simp only [beq_iff_eq] at this
    omega
  · rw [cntL_far hs (by omega), cntT]
    have : ts.map (fun t => cntL j t.lines) = ts.map fun _ => (0 : Int) := List.map_congr_left fun t ht => by
      obtain ⟨_, h2, _⟩ := hg t.lines (List.mem_map.2 ⟨t, ht, rfl⟩)
      exact cntL_far (fun x hx => ((linesR_parts h2).2 x hx).1) (by omega)
    rw [this]
    clear this hg h e1
    induction ts with
    | nil => rfl
    | cons x l ih => rw [List.map_cons, List.sum_cons, ih]; rfl
/- no tours take fewer steps -/
theorem cnt_cons (h d : Int) (D : List Int) : PM.cnt h (d :: D) = (if h ≤ d then 1 else 0) + PM.cnt h D := by
  unfold PM.cnt
  rw [List.countP_cons]
  by_cases hc : h ≤ d <;> simp [hc] <;> omega
end Go.Proofs.YtomgnpfpaodpiaaDoor

/- Contract of the law's fetched: what tours fetch that are ones, and how many steps they take. -/
namespace Go.Proofs.YtomgnpfpaodpiaaDoor
open Go Go.RowKit
set_option maxHeartbeats 8000000
theorem gotF_snoc {p : List Int} {L : List (List SLine)} {k : Nat} {l : List SLine} (h : L[k]? = some l) : gotF p (L.take (k + 1)) = addL 1 (gotF p (L.take k)) l := by
  obtain ⟨hk, rfl⟩ := List.getElem?_eq_some_iff.1 h
  unfold gotF
  rw [List.take_succ_eq_append_getElem hk, List.foldl_append]
  rfl
theorem goneM_snoc {f : Floor} {L : List (List SLine)} {k : Nat} {l : List SLine} (h : L[k]? = some l) : goneM f (L.take (k + 1)) = goneM f (L.take k) + 2 * farM f l := by
  obtain ⟨hk, rfl⟩ := List.getElem?_eq_some_iff.1 h
  unfold goneM
  rw [List.take_succ_eq_append_getElem hk, List.map_append, List.sum_append]
  simp
theorem gotF_len (L : List (List SLine)) : ∀ p : List Int, (gotF p L).length = p.length := by
  induction L with
  | nil => intro p; rfl
  | cons l L ih => intro p; show (gotF (addL 1 p l) L).length = _; rw [ih, addL_len]
/-- the number behind which the next shelf must lie -/
def lastL (l : List SLine) (k : Nat) : Int := nextF l k - 1
theorem sum_le_all : ∀ (l : List SLine) (x : SLine), (∀ y ∈ l, 0 ≤ y.many) → x ∈ l → x.many ≤ togetherF l
  | [], _, _, h => by simp at h
  | y :: l, x, hp, h => by
    have h0 := hp y (by simp)
    have hl : 0 ≤ togetherF l := by
      unfold togetherF
      have : ∀ n ∈ l.map SLine.many, 0 ≤ n := fun n hn => by
        obtain ⟨z, hz, rfl⟩ := List.mem_map.1 hn
        exact hp z (by simp [hz])
      exact sum_nonneg _ this
    have e : togetherF (y :: l) = y.many + togetherF l := by simp [togetherF]
    rw [e]
    rcases List.mem_cons.1 h with rfl | h
    · omega
    · have := sum_le_all l x (fun z hz => hp z (by simp [hz])) h
      omega
/-- what a line of a tour that is one is like -/
theorem tour_line {f : Floor} {l : List SLine} (h1 : linesR f.far.length l = true) (h2 : togetherF l ≤ f.carry) {k : Nat} {x : SLine} (hx : l[k]? = some x) :
    (nextF l k ≤ x.shelf ∧ x.shelf < f.far.length) ∧ 0 ≤ x.shelf ∧ (1 ≤ x.many ∧ x.many ≤ f.carry) ∧ x.many ≤ 20 ∧ nextF l (k + 1) = x.shelf + 1 := by
  have hk := (List.getElem?_eq_some_iff.1 hx).1
  have hg := h1
  unfold linesR at hg
  rw [List.all_eq_true] at hg
  have := hg k (List.mem_range.2 hk)
  rw [goodLine_ref hx, Bool.and_eq_true, hasB_iff, hasB_iff] at this
  have hp := (linesR_parts h1).2 x (List.mem_of_getElem? hx)
  have hm := sum_le_all l x (fun y hy => by have := (linesR_parts h1).2 y hy; omega) (List.mem_of_getElem? hx)
  exact ⟨⟨this.1.1, by omega⟩, hp.1.1, ⟨hp.2.1, by omega⟩, hp.2.2, nextF_succ hx⟩
theorem next_range {n : Nat} {l : List SLine} (h1 : linesR n l = true) (hn : n ≤ 12) : ∀ k, k ≤ l.length → 0 ≤ nextF l k ∧ nextF l k ≤ 12
  | 0, _ => by show (0 : Int) ≤ 0 ∧ (0 : Int) ≤ 12; omega
  | k + 1, hk => by
    obtain ⟨x, hx⟩ : ∃ x, l[k]? = some x := ⟨_, List.getElem?_eq_getElem (by omega)⟩
    rw [nextF_succ hx]
    have := (linesR_parts h1).2 x (List.mem_of_getElem? hx)
    omega
theorem ints_of_cells {w : World} {b n : Nat} {l : List Int} (h : CellsBox w b 3 (l.map vi)) (hn : l.length = n) (hf : n ≤ 35184372088832) : IntsAt w w.heap.size (some ⟨b, 0, none⟩) n l := by
  subst hn
  refine ⟨by rw [List.length_map]; exact Nat.le_refl _, by omega, by rw [List.length_map]; exact hf, fun _ => ⟨b, 0, rfl, h.lt, fun i r hr j u hj hu => ?_⟩⟩
  rw [List.getElem?_map] at hr
  obtain ⟨x, hx, rfl⟩ := Option.map_eq_some_iff.1 hr
  obtain rfl : j = 0 := by omega
  have : u = vi x := by simpa [intC] using hu.symm
  subst this
  have := ints_box_at h hx
  simpa using this
end Go.Proofs.YtomgnpfpaodpiaaDoor

/- Tours that are loaded piece by piece. Plain mathematics. -/
namespace Go.Proofs.YtomgnpfpaodpiaaDoor
open Go Go.RowKit
set_option maxHeartbeats 2000000
theorem take_next {α : Type} {l : List α} {c : Nat} {x : α} (h : l[c]? = some x) : l.take (c + 1) = l.take c ++ [x] := by
  obtain ⟨hc, rfl⟩ := List.getElem?_eq_some_iff.1 h
  exact List.take_succ_eq_append_getElem hc
theorem cntL_app (j : Nat) (a b : List SLine) : cntL j (a ++ b) = cntL j a + cntL j b := by unfold cntL; rw [List.map_append, List.sum_append]
theorem cntL_one (j : Nat) (x : SLine) : cntL j [x] = if x.shelf.toNat = j then x.many else 0 := by simp [cntL]
theorem tog_app (a b : List SLine) : togetherF (a ++ b) = togetherF a + togetherF b := by unfold togetherF; rw [List.map_append, List.sum_append]
theorem tog_one (x : SLine) : togetherF [x] = x.many := by simp [togetherF]
theorem sumC_app (j : Nat) (A B : List (List SLine)) : ((A ++ B).map (cntL j)).sum = (A.map (cntL j)).sum + (B.map (cntL j)).sum := by rw [List.map_append, List.sum_append]
theorem sumC_one (j : Nat) (l : List SLine) : (([l] : List (List SLine)).map (cntL j)).sum = cntL j l := by simp
/-- tours behind some lines -/
structure LoadO (f : Floor) (s : SSlip) (i : Nat) (load : Int) (L : List (List SLine)) : Prop where
  good : ∀ l ∈ L, 1 ≤ l.length ∧ linesR f.far.length l = true ∧ togetherF l ≤ f.carry ∧ ∀ x ∈ l, x.shelf < nextF s.lines i
  cnt : ∀ j : Nat, (L.map (cntL j)).sum = cntL j (s.lines.take i)
  cur : (L = [] ∧ load = f.carry) ∨ ∃ L0 l, L = L0 ++ [l] ∧ togetherF l = load
  few : L.length ≤ 20 * i
/-- tours behind some pieces of a line -/
structure LoadI (f : Floor) (s : SSlip) (i k : Nat) (S load : Int) (L : List (List SLine)) : Prop where
  good : ∀ l ∈ L, 1 ≤ l.length ∧ linesR f.far.length l = true ∧ togetherF l ≤ f.carry ∧ ∀ x ∈ l, x.shelf ≤ S
  cnt : ∀ j : Nat, (L.map (cntL j)).sum = cntL j (s.lines.take i) + if S.toNat = j then (k : Int) else 0
  cur : (L = [] ∧ load = f.carry) ∨ ∃ L0 l, L = L0 ++ [l] ∧ togetherF l = load
  few : L.length ≤ 20 * i + k
variable {f : Floor} {s : SSlip} {i k : Nat} {S load : Int} {L : List (List SLine)}
theorem LoadO.start (hi : L = []) : LoadO f s 0 f.carry L := by
  subst hi
  exact ⟨fun l h => by simp at h, fun j => by simp [cntL], .inl ⟨rfl, rfl⟩, by simp⟩
theorem LoadO.begin_ (h : LoadO f s i load L) (hS : nextF s.lines i ≤ S) : LoadI f s i 0 S load L :=
  ⟨fun l hl => by
    obtain ⟨h1, h2, h3, h4⟩ := h.good l hl
    exact ⟨h1, h2, h3, fun x hx => by have := h4 x hx; omega⟩, fun j => by rw [h.cnt]; split <;> simp, h.cur, by have := h.few; omega⟩
theorem LoadI.done {c : Int} (h : LoadI f s i k S load L) (hx : s.lines[i]? = some ⟨S, c⟩) (hk : c = k) (hk2 : k ≤ 20) : LoadO f s (i + 1) load L := by
  refine ⟨fun l hl => ?_, fun j => ?_, h.cur, by have := h.few; omega⟩
  · obtain ⟨h1, h2, h3, h4⟩ := h.good l hl
    exact ⟨h1, h2, h3, fun x hxl => by rw [nextF_succ hx]; have := h4 x hxl; simp only; omega⟩
  · rw [h.cnt, take_next hx, cntL_app, cntL_one, hk]
theorem LoadI.range (hc : 1 ≤ f.carry) (h : LoadI f s i k S load L) : 0 ≤ load ∧ load ≤ f.carry := by
  rcases h.cur with ⟨_, e⟩ | ⟨L0, l, rfl, e⟩
  · omega
  · obtain ⟨h1, h2, h3, _⟩ := h.good l (by simp)
    have hp := (linesR_parts h2).2
    obtain ⟨x, hx⟩ : ∃ x, l[0]? = some x := ⟨_, List.getElem?_eq_getElem (by omega)⟩
    have := sum_le_all l x (fun y hy => by have := hp y hy; omega) (List.mem_of_getElem? hx)
    have := hp x (List.mem_of_getElem? hx)
    omega
theorem LoadI.new_ (hc : 1 ≤ f.carry) (hS : 0 ≤ S ∧ S < f.far.length) (h : LoadI f s i k S load L) : LoadI f s i (k + 1) S 1 (L ++ [[⟨S, 1⟩]]) := by
  refine ⟨fun l hl => ?_, fun j => ?_, .inr ⟨L, [⟨S, 1⟩], rfl, tog_one _⟩, by have := h.few; simp; omega⟩
  · rcases List.mem_append.1 hl with hl | hl
    · exact h.good l hl
    · obtain rfl : l = [⟨S, 1⟩] := by simpa using hl
      refine ⟨by simp, linesR_of (by simp) (fun x hx => ?_), by rw [tog_one]; exact hc, fun x hx => ?_⟩
      · obtain rfl : x = ⟨S, 1⟩ := by simpa using hx
        simp only
        omega
      · obtain rfl : x = ⟨S, 1⟩ := by simpa using hx
        exact Int.le_refl _
  · rw [sumC_app, sumC_one, h.cnt, cntL_one]
    simp only
    split <;> omega
theorem LoadI.more {L0 : List (List SLine)} {l : List SLine} (hc : f.carry ≤ 20) (hS : 0 ≤ S ∧ S < f.far.length) (h : LoadI f s i k S load (L0 ++ [l])) (hld : load < f.carry) (hlast : ∀ x ∈ l, x.shelf ≠ S) : LoadI f s i (k + 1) S (load + 1) (L0 ++ [l ++ [⟨S, 1⟩]]) := by
  obtain ⟨h1, h2, h3, h4⟩ := h.good l (by simp)
  obtain ⟨p1, p2⟩ := linesR_parts h2
  have hload : togetherF l = load := by
    rcases h.cur with ⟨e, _⟩ | ⟨L1, l1, e, e2⟩
    · simp at e
    · obtain ⟨_, rfl⟩ := List.append_inj' e rfl |>.imp id (fun e => by simpa using e)
      exact e2
  refine ⟨fun l' hl' => ?_, fun j => ?_, .inr ⟨L0, l ++ [⟨S, 1⟩], rfl, by rw [tog_app, tog_one, hload]⟩, by have := h.few; simp at this ⊢; omega⟩
  · rcases List.mem_append.1 hl' with hl' | hl'
    · exact h.good l' (by simp [hl'])
    · obtain rfl : l' = l ++ [⟨S, 1⟩] := by simpa using hl'
      refine ⟨by simp, linesR_of ?_ (fun x hx => ?_), by rw [tog_app, tog_one, hload]; simp only; omega, fun x hx => ?_⟩
      · rw [List.pairwise_append]
        refine ⟨p1, by simp, fun x hx y hy => ?_⟩
        obtain rfl : y = ⟨S, 1⟩ := by simpa using hy
        have := h4 x hx
        have := hlast x hx
        simp only
        omega
      · rcases List.mem_append.1 hx with hx | hx
        · exact p2 x hx
        · obtain rfl : x = ⟨S, 1⟩ := by simpa using hx
          simp only
          omega
      · rcases List.mem_append.1 hx with hx | hx
        · exact h4 x hx
        · obtain rfl : x = ⟨S, 1⟩ := by simpa using hx
          exact Int.le_refl _
  · have := h.cnt j
    rw [sumC_app, sumC_one] at this ⊢
    rw [cntL_app, cntL_one]
    simp only
    split at this <;> split <;> omega
theorem LoadI.same {L0 : List (List SLine)} {u : List SLine} {m : Int} (hc : f.carry ≤ 20) (h : LoadI f s i k S load (L0 ++ [u ++ [⟨S, m⟩]])) (hld : load < f.carry) : LoadI f s i (k + 1) S (load + 1) (L0 ++ [u ++ [⟨S, m + 1⟩]]) := by
  obtain ⟨h1, h2, h3, h4⟩ := h.good (u ++ [⟨S, m⟩]) (by simp)
  obtain ⟨p1, p2⟩ := linesR_parts h2
  have hload : togetherF (u ++ [⟨S, m⟩]) = load := by
    rcases h.cur with ⟨e, _⟩ | ⟨L1, l1, e, e2⟩
    · simp at e
    · obtain ⟨_, rfl⟩ := List.append_inj' e rfl |>.imp id (fun e => by simpa using e)
      exact e2
  have hm := p2 ⟨S, m⟩ (by simp)
  simp only at hm
  have hml := sum_le_all (u ++ [⟨S, m⟩]) ⟨S, m⟩ (fun y hy => by have := p2 y hy; omega) (by simp)
  rw [hload] at hml
  simp only at hml
  rw [tog_app, tog_one] at hload
  simp only at hload
  refine ⟨fun l' hl' => ?_, fun j => ?_, .inr ⟨L0, u ++ [⟨S, m + 1⟩], rfl, by rw [tog_app, tog_one]; simp only; omega⟩, by have := h.few; simp at this ⊢; omega⟩
  · rcases List.mem_append.1 hl' with hl' | hl'
    · exact h.good l' (by simp [hl'])
    · obtain rfl : l' = u ++ [⟨S, m + 1⟩] := by simpa using hl'
      refine ⟨by simp, linesR_of ?_ (fun x hx => ?_), by rw [tog_app, tog_one]; simp only; omega, fun x hx => ?_⟩
      · rw [List.pairwise_append] at p1 ⊢
        refine ⟨p1.1, by simp, fun x hx y hy => ?_⟩
        obtain rfl : y = ⟨S, m + 1⟩ := by simpa using hy
        exact p1.2.2 x hx ⟨S, m⟩ (by simp)
      · rcases List.mem_append.1 hx with hx | hx
        · exact p2 x (by simp [hx])
        · obtain rfl : x = ⟨S, m + 1⟩ := by simpa using hx
          simp only
          omega
      · rcases List.mem_append.1 hx with hx | hx
        · exact h4 x (by simp [hx])
        · obtain rfl : x = ⟨S, m + 1⟩ := by simpa using hx
          exact Int.le_refl _
  · have := h.cnt j
    rw [sumC_app, sumC_one, cntL_app, cntL_one] at this ⊢
    simp only at this ⊢
    split at this <;> split <;> simp_all <;> omega
theorem LoadO.fetch (h : LoadO f s s.lines.length load L) : Fetch f s L :=
  ⟨fun l hl => ⟨(h.good l hl).1, (h.good l hl).2.1, (h.good l hl).2.2.1⟩, fun j => by rw [h.cnt, List.take_length]⟩
/-- the lines of a tour but for the last one have other shelves than it -/
theorem last_only {n : Int} {l : List SLine} (h : linesR n l = true) {m : Nat} {y : SLine} (hy : l[m]? = some y) (hm : m + 1 = l.length) {S : Int} (hle : ∀ x ∈ l, x.shelf ≤ S) (hne : y.shelf ≠ S) : ∀ x ∈ l, x.shelf ≠ S := fun x hx => by
  obtain ⟨p1, _⟩ := linesR_parts h
  obtain ⟨i, hi, rfl⟩ := List.mem_iff_getElem.1 hx
  obtain ⟨hml, rfl⟩ := List.getElem?_eq_some_iff.1 hy
  by_cases him : i = m
  · subst him; exact hne
  · have h1 := List.pairwise_iff_getElem.1 p1 i m hi hml (by omega)
    have h2 := hle _ (List.getElem_mem hml)
    omega
end Go.Proofs.YtomgnpfpaodpiaaDoor

/- Contract of the law's fetched: the walk. -/
namespace Go.Proofs.YtomgnpfpaodpiaaDoor
open Go Go.RowKit
set_option maxHeartbeats 8000000
set_option maxRecDepth 100000 in
theorem fetched_any (f : Floor) (hv : validB f = true) (A : Option Addr) (cap : Nat) (ts : List STour) (hok : ∀ t ∈ ts, 1 ≤ t.lines.length ∧ linesR f.far.length t.lines = true ∧ togetherF t.lines ≤ f.carry) (hts : ts.length ≤ 1000) (w : World) (h : FloorAt w w.heap.size f) (ht : ToursAt w w.heap.size A cap ts) :
    Calls Tryd.prog 37 #[f.val, .slice A ts.length cap] w fun e w' => ∃ R, e = .returned (.tuple #[.slice R f.far.length f.far.length, vi (goneM f (ts.map STour.lines)), .bool true]) ∧ IntsAt w' w'.heap.size R f.far.length (gotF (List.replicate f.far.length 0) (ts.map STour.lines)) ∧ Below w.heap.size w w' := by
  have hF := fine hv
  have h12 := hF.far12
  have hc1 := hF.carry1
  have hc20 := hF.carry20
  have HF := Lib.hid h
  have HT := Lib.hid ht
  have htl := ht.rows.lens
  have hfl := h.far.lens
  have HOK := Lib.hid hok
  have mkI := mkIntsB f.far.length (by omega)
  have FM := Lib.hid (fun l => farM_range hv l)
  have HFR : Hid (∀ k : Nat, k < f.far.length → ∃ d, f.far[k]? = some d ∧ (0 ≤ d ∧ d ≤ 500)) := fun k hk => by
    refine ⟨f.far[k], List.getElem?_eq_getElem hk, ?_⟩
    have := fk_range hv k
    unfold fkF at this
    rwa [List.getElem?_eq_getElem hk, Option.getD_some] at this
  obtain ⟨Z, hZ⟩ : ∃ Z, Z = List.replicate f.far.length (0 : Int) := ⟨_, rfl⟩
  have hZl : Z.length = f.far.length := by rw [hZ, List.length_replicate]
  obtain ⟨L, hL⟩ : ∃ L, L = ts.map STour.lines := ⟨_, rfl⟩
  have HLK : Hid (∀ (k : Nat) (t : STour), ts[k]? = some t → L[k]? = some t.lines) := fun k t hk => by rw [hL, List.getElem?_map, hk]; rfl
  have hLl : L.length = ts.length := by rw [hL, List.length_map]
  have HRG : Hid (∀ k : Nat, k ≤ ts.length → (gotF Z (L.take k)).length = f.far.length ∧ ∀ y ∈ gotF Z (L.take k), 0 ≤ y ∧ y ≤ 240 * (k : Int)) := fun k hk => by
    refine ⟨by rw [gotF_len, hZl], ?_⟩
    induction k with
    | zero =>
      intro y hy
      rw [List.take_zero] at hy
      have hy : y ∈ Z := hy
      rw [hZ, List.mem_replicate] at hy
      omega
    | succ k ih =>
      intro y hy
      obtain ⟨t, htk⟩ : ∃ t, ts[k]? = some t := ⟨_, List.getElem?_eq_getElem (by omega)⟩
      rw [gotF_snoc (HLK.out k t htk)] at hy
      obtain ⟨_, g2, _⟩ := HOK.out t (List.mem_of_getElem? htk)
      have hp := (linesR_parts g2).2
      have hln := linesR_len g2
      obtain ⟨j, hj, rfl⟩ := List.mem_iff_getElem.1 hy
      have e := List.getElem?_eq_getElem hj
      rw [addL_get] at e
      obtain ⟨z, hz, e2⟩ := Option.map_eq_some_iff.1 e
      have h1 := ih (by omega) z (List.mem_of_getElem? hz)
      have h2 := cntL_nonneg j t.lines (fun x hx => by have := hp x hx; omega)
      have h3 : cntL j t.lines ≤ 20 * t.lines.length := by
        unfold cntL
        have : ∀ l : List SLine, (∀ x ∈ l, 1 ≤ x.many ∧ x.many ≤ 20) → (l.map fun x => if x.shelf.toNat = j then x.many else 0).sum ≤ 20 * l.length := fun l => by
          induction l with
          | nil => intro _; simp
          | cons x l ih2 =>
            intro hx
            have i1 := ih2 fun y hy => hx y (by simp [hy])
            have i2 := hx x (by simp)
            rw [List.map_cons, List.sum_cons, List.length_cons]
            split <;> omega
        exact this _ fun x hx => (hp x hx).2
      omega
  have HGS : Hid (∀ (k : Nat) (t : STour), ts[k]? = some t → goneM f (L.take (k + 1)) = goneM f (L.take k) + 2 * farM f t.lines) := fun k t hk => goneM_snoc (HLK.out k t hk)
  have HGR : Hid (∀ k : Nat, k ≤ ts.length → 0 ≤ goneM f (L.take k) ∧ goneM f (L.take k) ≤ 1000 * (k : Int)) := fun k hk => by
    induction k with
    | zero => rw [List.take_zero]; exact ⟨Int.le_refl _, by show (0 : Int) ≤ _; omega⟩
    | succ k ih =>
      obtain ⟨t, htk⟩ : ∃ t, ts[k]? = some t := ⟨_, List.getElem?_eq_getElem (by omega)⟩
      rw [HGS.out k t htk]
      have h1 := ih (by omega)
      have h2 := FM.out t.lines
      omega
  have FIN : Hid (L.take ts.length = L) := by unfold Hid; rw [← hLl, List.take_length]
  have HZ0 : Hid (gotF Z (L.take 0) = Z ∧ goneM f (L.take 0) = 0) := by unfold Hid; rw [List.take_zero]; exact ⟨rfl, rfl⟩
  rw [← hL]
  have HZE := Lib.hid hZ
  clear h ht hok hF hL hLl hZ
  have X0 := CellsBox.new w 28 f.cells
  have hb0 : Below w.heap.size w (w.alloc (.cells f.cells.toArray 28)) := below1 _ _
  show Calls Tryd.prog 37 #[.agg #[.slice f.fA f.far.length f.fC, vi f.slo, vi f.shi, .slice f.pA f.picks.length f.pC, vi f.carry, .slice f.sA f.slips.length f.sC], .slice A ts.length cap] w _
  go_enter Tryd.func37, Tryd.ntmps37
  go_upto_region 1 with fail
  refine (?_ : ∀ V : World, CellsBox V w.heap.size 28 f.cells → Below w.heap.size w V → Code.wp _ _ _ _ V) _ X0 hb0
  clear X0 hb0
  intro V X0 HB
  have HX := Lib.hid X0
  have a0 := X0.cell (j := 0) rfl
  have za := X0.lt
  clear X0
  go_wp2_with fail
  have HBX := CellsBox.new V 3 (Z.map vi)
  have hbV := below1 V (.cells (Z.map vi).toArray 3)
  obtain ⟨V1, hV1⟩ : ∃ V1, V1 = V.alloc (.cells (Array.replicate f.far.length (vi 0)) 3) := ⟨_, rfl⟩
  have eZ : (Z.map vi).toArray = Array.replicate f.far.length (vi 0) := by rw [HZE.out, List.map_replicate]; simp
  rw [eZ, ← hV1] at hbV
  replace HBX : CellsBox V1 V.heap.size 3 (Z.map vi) := by rw [hV1, ← eZ]; exact HBX
  obtain ⟨b1, hb1⟩ : ∃ b, b = V.heap.size := ⟨_, rfl⟩
  rw [← hb1] at HBX ⊢
  rw [← hV1]
  have hwb : w.heap.size < b1 := by omega
  have HB1 : Below w.heap.size w V1 := HB.trans (hbV.mono HB.size)
  have HX1 := Lib.hid (HX.out.keep hbV)
  have HBX := Lib.hid HBX
  clear hbV hV1 eZ hb1 a0 za mkI HB HX
  go_loopw [8, 9, 10, 11, 12, 13, 14] (fun a b _ _ _ _ _ wr => ∃ i : Nat, i ≤ ts.length ∧ b = .int .i64 i ∧ a = vi (goneM f (L.take i)) ∧ Below w.heap.size w wr ∧ Hid (CellsBox wr w.heap.size 28 f.cells ∧ CellsBox wr b1 3 ((gotF Z (L.take i)).map vi))) (fun _ b _ _ _ _ _ _ => ts.length - (intOf b).toNat)
  case atStart => exact ⟨0, Nat.zero_le _, rfl, by rw [HZ0.out.2], HB1, ⟨HX1.out, by rw [HZ0.out.1]; exact HBX.out⟩⟩
  clear HX1 HBX HB1
  obtain ⟨i, hi, rfl, rfl, hB, HXB⟩ := hrel
  by_cases hlt : i < ts.length
  · obtain ⟨t, htk⟩ : ∃ t, ts[i]? = some t := ⟨_, List.getElem?_eq_getElem hlt⟩
    obtain ⟨g1, g2, g3⟩ := HOK.out t (List.mem_of_getElem? htk)
    have HGSK := Lib.hid (HGS.out i t htk)
    have hgr := HGR.out i hi
    have hfm := FM.out t.lines
    have HGOT := Lib.hid (gotF_snoc (p := Z) (HLK.out i t htk))
    obtain ⟨tb, tf, hA, htb, t0⟩ := row1 HT.out.rows.row htk rfl
    have HTW := Lib.hid (HT.out.each t (List.mem_of_getElem? htk))
    obtain ⟨tA, tc, tl⟩ := t
    simp only at g1 g2 g3 HGSK hfm HGOT HTW
    replace t0 : w.cell? ⟨tb, tf + i, none⟩ = some (.slice tA tl.length tc) := t0
    have HT0 := Lib.hid t0
    have hln := linesR_len g2
    have HTL := Lib.hid (fun (k : Nat) (x : SLine) (hx : tl[k]? = some x) => tour_line g2 g3 hx)
    have HNR := Lib.hid (fun k hk => next_range g2 h12 k hk)
    have SK : Hid (∀ (m : Nat) (x : SLine), tl[m]? = some x → sumK tl (m + 1) = sumK tl m + x.many) := fun m x hx => sumK_succ hx
    have SKE := Lib.hid (sumK_all tl)
    have SKR := Lib.hid (sumK_range (l := tl) (fun k x hx => by have := HTL.out k x hx; omega))
    have hg3 : togetherF tl ≤ f.carry := g3
    have HP1 : Hid (1 ≤ togetherF tl) := by
      obtain ⟨x, hx⟩ : ∃ x, tl[0]? = some x := ⟨_, List.getElem?_eq_getElem (by omega)⟩
      have h1 := sum_le_all tl x (fun y hy => by have := (linesR_parts g2).2 y hy; omega) (List.mem_of_getElem? hx)
      have h2 := (linesR_parts g2).2 x (List.mem_of_getElem? hx)
      unfold Hid
      omega
    have FSm : Hid (∀ (m : Nat) (x : SLine), tl[m]? = some x → farM f (tl.take (m + 1)) = max (farM f (tl.take m)) (farF f x)) := fun m x hx => farM_snoc f hx
    obtain ⟨P, hP⟩ : ∃ P, P = gotF Z (L.take i) := ⟨_, rfl⟩
    have hPR := HRG.out i hi
    rw [← hP] at HGOT hPR HXB
    have HPR := Lib.hid hPR
    have LK : Hid (∀ (m : Nat) (x : SLine), tl[m]? = some x → addLK 1 P tl (m + 1) = (addLK 1 P tl m).set x.shelf.toNat ((addLK 1 P tl m)[x.shelf.toNat]?.getD 0 + 1 * x.many)) := fun m x hx => addLK_succ hx
    have LR : Hid (∀ m : Nat, m ≤ tl.length → (addLK 1 P tl m).length = f.far.length ∧ ∀ q ∈ addLK 1 P tl m, -500000 ≤ q ∧ q ≤ 500000) := fun m hm => by
      refine ⟨by unfold addLK; rw [addL_len]; exact HPR.out.1, fun q hq => ?_⟩
      have := addL_range 1 (240 * (i : Int)) (.inl rfl) (tl.take m) P (fun x hx => by
        have := (linesR_parts g2).2 x (List.mem_of_mem_take hx)
        omega) (fun y hy => by have := HPR.out.2 y hy; omega) (by omega) q hq
      rw [List.length_take] at this
      omega
    have K0 : Hid (addLK 1 P tl 0 = P) := by unfold Hid addLK addL; simp
    have KE : Hid (addLK 1 P tl tl.length = gotF Z (L.take (i + 1))) := by unfold Hid; rw [HGOT.out, addLK, List.take_length]
    obtain ⟨D, hD⟩ : ∃ D, D = addLK 1 P tl := ⟨_, rfl⟩
    rw [← hD] at LK LR K0 KE
    clear hD hP hPR HGOT g3 htk g2 t0
    have hiI : (i : Int) < ts.length := by omega
    have h0i : (0 : Int) ≤ i := by omega
    have HAE := Lib.hid hA
    subst hA
    go_wp2_with fail
    go_loopw [10, 11, 12, 13, 14] (fun a b c d _ wr => ∃ (m : Nat) (p q l : Int), m ≤ tl.length ∧ d = .int .i64 m ∧ a = vi p ∧ b = vi q ∧ c = vi l ∧ Hid (p = sumK tl m ∧ q = farM f (tl.take m) ∧ l + 1 = nextF tl m) ∧ Below w.heap.size w wr ∧ Hid (CellsBox wr w.heap.size 28 f.cells ∧ CellsBox wr b1 3 ((D m).map vi))) (fun _ _ _ d _ _ => tl.length - (intOf d).toNat)
    case atStart => exact ⟨0, 0, 0, -1, Nat.zero_le _, rfl, rfl, rfl, rfl, ⟨rfl, rfl, rfl⟩, hB, ⟨HXB.out.1, by rw [K0.out]; exact HXB.out.2⟩⟩
    clear HXB hB
    obtain ⟨m, p, q, l, hm, rfl, rfl, rfl, rfl, HPQ, hBm, HXm⟩ := hrel
    have hp := SKR.out m hm
    have hq := FM.out (tl.take m)
    have hl := HNR.out m hm
    rw [← HPQ.out.1] at hp
    rw [← HPQ.out.2.1] at hq
    rw [← HPQ.out.2.2] at hl
    have t0m : wr.cell? ⟨tb, tf + i, none⟩ = some (.slice tA tl.length tc) := (hBm.cell htb).trans HT0.out
    have ztm : tb < wr.heap.size := cell_lt t0m
    have a0 := HXm.out.1.cell (j := 0) rfl
    have a4 := HXm.out.1.cell (j := 4) rfl
    have za := HXm.out.1.lt
    by_cases hltm : m < tl.length
    · obtain ⟨x, hx⟩ : ∃ x, tl[m]? = some x := ⟨_, List.getElem?_eq_getElem hltm⟩
      obtain ⟨⟨hx1, hx2⟩, hx0, ⟨hx3, hx4⟩, hx5, hx6⟩ := HTL.out m x hx
      rw [← HPQ.out.2.2] at hx1
      have HSK1 := Lib.hid (SK.out m x hx)
      have HFS1 := Lib.hid (FSm.out m x hx)
      have HD1 := Lib.hid (LK.out m x hx)
      have HX6 := Lib.hid hx6
      obtain ⟨hr1, hr2⟩ := LR.out m hm
      obtain ⟨lb, lo, hlA, hlb, l0, l1⟩ := row2 HTW.out.row hx rfl
      have hfx : farF f x = (f.far[x.shelf.toNat]?).getD 0 := rfl
      have HFX := Lib.hid hfx
      obtain ⟨xs, xm⟩ := x
      simp only at hx0 hx1 hx2 hx3 hx4 hx5 l0 l1 HSK1 HD1 HX6 HFX
      obtain ⟨j, rfl⟩ : ∃ j : Nat, xs = j := ⟨xs.toNat, by omega⟩
      rw [Int.toNat_natCast] at HD1 HFX
      have hjl : j < (D m).length := by omega
      obtain ⟨y, hy⟩ : ∃ y, (D m)[j]? = some y := ⟨_, List.getElem?_eq_getElem hjl⟩
      have hyr := hr2 y (List.mem_of_getElem? hy)
      rw [hy, Option.getD_some, Int.one_mul] at HD1
      have HYC := Lib.hid (ints_box_at HXm.out.2 hy)
      obtain ⟨d, hd, hd0⟩ := HFR.out j (by omega)
      rw [hd, Option.getD_some] at HFX
      rw [HFX.out] at HFS1
      have htw : hasB (l + 1) ((f.far.length : Int) - 1) j = true := hasB_iff.2 ⟨by omega, by omega⟩
      have TW := Lib.hid (fun W : World => tween_is htw W)
      have hmI : (m : Int) < tl.length := by omega
      have hm0 : (0 : Int) ≤ m := by omega
      have hj0 : (0 : Int) ≤ j := by omega
      have hjI : (j : Int) < f.far.length := by omega
      have l0m : wr.cell? ⟨lb, lo + m * 2, none⟩ = some (vi j) := (hBm.cell hlb).trans l0
      have l1m : wr.cell? ⟨lb, lo + m * 2 + 1, none⟩ = some (vi xm) := (hBm.cell hlb).trans l1
      have zlb : lb < wr.heap.size := cell_lt l0m
      have HDD := Lib.hid hd
      have hxm1 : decide (xm < 1) = false := decide_eq_false (by omega)
      have hxm2 : decide (f.carry < xm) = false := decide_eq_false (by omega)
      rw [hlA] at t0m
      clear hx hy hr1 hr2 hd htw hfx hlA HFX
      go_upto_region 10 with fail
      have HS3 := CellsBox.new wr 64 [vi j, vi xm]
      have hb3 := below1 wr (.cells #[vi j, vi xm] 64)
      obtain ⟨V3, hV3⟩ : ∃ V, V = wr.alloc (.cells #[vi j, vi xm] 64) := ⟨_, rfl⟩
      obtain ⟨b3, hb3e⟩ : ∃ b, b = wr.heap.size := ⟨_, rfl⟩
      rw [← hV3, ← hb3e] at HS3
      rw [← hV3] at hb3
      rw [← hV3, ← hb3e]
      have hne : b1 ≠ b3 := by have := HXm.out.2.lt; omega
      have hB3 := hBm.trans (hb3.mono hBm.size)
      have HX3 := Lib.hid (HXm.out.1.keep hb3)
      have HP3 := Lib.hid (HXm.out.2.keep hb3)
      have HY3 := Lib.hid (cell_keep hb3 HYC.out)
      have HS3 := Lib.hid HS3
      clear hV3 hb3e hb3 HXm HYC a0 a4 za l0m l1m zlb t0m ztm hBm
      have a0 := HX3.out.cell (j := 0) rfl
      have a4 := HX3.out.cell (j := 4) rfl
      have za := HX3.out.lt
      have s0 := HS3.out.cell (j := 0) rfl
      have s1 := HS3.out.cell (j := 1) rfl
      have zs := HS3.out.lt
      go_wp2_with fail
      refine (TW.out _).mono ?_
      rintro e W4 ⟨rfl, rfl⟩
      clear TW
      go_upto_region 12 with fail
      have HY3c := HY3.out
      have zb := HP3.out.lt
      have hwy : IntKind.wrap .i64 (y + xm) = y + xm := wrapI (by omega) (by omega)
      have hST : Stays (fun w' => Below b1 V3 w' ∧ CellsBox w' b3 64 [vi j, vi xm]) := fun a b h h' => ⟨h.1.trans (h'.mono (by have := h.1.size; omega)), h.2.keep h'⟩
      refine' wp_region_box (fun w' => Below b1 V3 w' ∧ CellsBox w' b3 64 [vi j, vi xm]) hST [0, 1, 2, 3, 5, 6] 4 100 (by kernel_rfl) (by kernel_rfl) rfl (by kernel_rfl) (by kernel_rfl) rfl (by kernel_rfl) ?hl5 ⟨Below.refl _ _, HS3.out⟩ ?hq5 ?hr5
      case hl5 =>
        simp only [List.map_cons, List.map_nil, List.getD_cons_zero, List.getD_cons_succ]
        exact rfl
      case hq5 =>
        intro w0 K
        have m0 := K.2.cell (j := 0) rfl
        have m1 := K.2.cell (j := 1) rfl
        have m3 := K.2.lt
        (repeat (go_big_quiet_step (fail)))
        exact wpQuiet_nil rfl
      case hr5 =>
        refine wpUp_one (i := 4) (by kernel_rfl) rfl rfl (fun wa b1' b2' Ka hKa => ?_)
        have y0 : wa.cell? ⟨b1, j, none⟩ = some (vi y) := cell_keep b1' HY3c
        have zy : b1 < wa.heap.size := cell_lt y0
        go_simp
        refine hKa _ _ b2' ?_
        refine wpUp_one (i := 7) (by kernel_rfl) rfl rfl (fun wb c1 c2 Kb hKb => ?_)
        go_simp
        refine hKb _ _ c2 ?_
        refine wpUp_one (i := 8) (by kernel_rfl) rfl rfl (fun wx f1 f2 Kx hKx => ?_)
        go_simp
        refine hKx _ _ f2 ?_
        refine wpUp_one (i := 9) (by kernel_rfl) rfl rfl (fun wc d1 d2 Kc hKc => ?_)
        have HBc : Below V3.heap.size V3 wc := gr_trans (gr_trans (gr_trans b1' c1) f1) d1
        have YB := HP3.out.keep HBc
        have y1 : wc.cell? ⟨b1, j, none⟩ = some (vi y) := cell_keep HBc HY3c
        have e1 := YB.frozen j
        have zc : b1 < wc.heap.size := YB.lt
        go_simp
        have hS9 := d2.2.apart ⟨b1, j, none⟩ (vi (y + xm)) (by simp only; omega)
        refine hKc _ _ ⟨d2.1.setCell (Nat.le_refl _) _, hS9⟩ (wpUp_done (by kernel_rfl) (fun W9 g1 g2 => NoPanic.normal ?_))
        have ZB := (YB.store j (vi (y + xm))).keep g1
        have ZF := ((HX3.out.keep HBc).apart ⟨b1, j, none⟩ (vi (y + xm)) (by simp only; omega)).keep g1
        have ZS := Lib.hid (hS9.keep g1)
        have Zw : Below w.heap.size w W9 := by
          have e2 := (gr_trans_w hB3 HBc).setCell (p := ⟨b1, j, none⟩) (by simp only; omega) (vi (y + xm))
          exact gr_trans_w e2 g1
        have HZ : Hid (CellsBox W9 w.heap.size 28 f.cells ∧ CellsBox W9 b1 3 ((D (m + 1)).map vi)) := ⟨ZF, by rw [HD1.out, List.map_set]; exact ZB⟩
        clear hKa hKb hKc hKx f1 f2 ZB ZF YB b1' b2' c1 c2 d1 d2 g1 g2 HBc y0 y1 zy zc e1 hS9 a0 a4 za s0 s1 zs HX3 HP3 HY3 HS3 HY3c zb
        have a0 := HZ.out.1.cell (j := 0) rfl
        have za := HZ.out.1.lt
        have s0 := ZS.out.cell (j := 0) rfl
        have s1 := ZS.out.cell (j := 1) rfl
        have zs := ZS.out.lt
        obtain ⟨fb, fo, hfA, hfb, f0⟩ := ints_at (HF.out.to Zw).far HDD.out
        have zf := cell_lt f0
        rw [hfA] at a0
        clear hfA
        go_wp2_with fail
        go_quiet (fail)
        go_wp2_with fail
        have hbq := below_drewN (Below.refl W9.heap.size W9) nq
        go_roundw
        case rel => exact ⟨m + 1, p + xm, max q d, j, by omega, by go_num, rfl, rfl, rfl, ⟨by rw [HSK1.out, HPQ.out.1], by rw [HFS1.out, HPQ.out.2.1], HX6.out.symm⟩, Zw.trans (hbq.mono Zw.size), ⟨HZ.out.1.keep hbq, HZ.out.2.keep hbq⟩⟩
        case measure => simp [intOf]; omega
    · obtain rfl : m = tl.length := by omega
      have hpt : p = togetherF tl := by rw [HPQ.out.1]; exact SKE.out
      have hqt : q = farM f tl := by rw [HPQ.out.2.1, List.take_length]
      have hp1 : decide (p < 1) = false := decide_eq_false (by have := HP1.out; omega)
      have hp2 : decide (f.carry < p) = false := decide_eq_false (by omega)
      have HGE : Hid (goneM f (L.take (i + 1)) = goneM f (L.take i) + 2 * q) := by unfold Hid; rw [HGSK.out, hqt]
      have HXE : Hid (CellsBox wr w.heap.size 28 f.cells ∧ CellsBox wr b1 3 ((gotF Z (L.take (i + 1))).map vi)) := ⟨HXm.out.1, by rw [← KE.out]; exact HXm.out.2⟩
      obtain ⟨G, hG⟩ : ∃ G, G = goneM f (L.take i) := ⟨_, rfl⟩
      rw [← hG] at hgr HGE ⊢
      have hw2 : IntKind.wrap .i64 (2 * q) = 2 * q := wrapI (by omega) (by omega)
      clear hpt hqt hG HXm
      go_wp2_with fail
      go_roundw
      case rel => exact ⟨i + 1, by omega, by go_num, by rw [HGE.out], hBm, HXE⟩
      case measure => simp [intOf]; omega
  · obtain rfl : i = ts.length := by omega
    rw [FIN.out]
    have HXE := HXB.out.2
    rw [FIN.out] at HXE
    have hI := ints_of_cells (n := f.far.length) HXE (by rw [gotF_len]; exact hZl) (by omega)
    have HII := Lib.hid hI
    clear HXE hI
    go_wp2_with fail
    go_ret3
    exact ⟨some ⟨b1, 0, none⟩, rfl, HZE.out ▸ HII.out, hB⟩
end Go.Proofs.YtomgnpfpaodpiaaDoor

/- Tours that are loaded piece by piece: how they lie in memory. -/
namespace Go.Proofs.YtomgnpfpaodpiaaDoor
open Go Go.RowKit
set_option maxHeartbeats 4000000
theorem own_set1 {w : World} {base g cap n k : Nat} {e : TypeId} {xs : List Value} {u : Value} (h : w.ownsRow base e 1 (.slice (some ⟨g, 0, none⟩) n cap) n xs) (hk : k < n) : (w.setCell ⟨g, k, none⟩ u).ownsRow base e 1 (.slice (some ⟨g, 0, none⟩) n cap) n (xs.set k u) := by
  obtain ⟨g', c', cur, e1, h1, h2, h3, h4, h5, h6⟩ := own_some h (by omega)
  cases e1
  have hb : CellsBox w g e cur.toList := by unfold CellsBox; rw [h2]
  have hs := hb.store k u
  refine ⟨by rw [List.length_set]; exact h.1, .inr ⟨g, cap, (cur.toList.set k u).toArray, rfl, h1, hs, h3, h4, by simpa using h5, ?_⟩⟩
  show (cur.toList.set k u).take (n * 1) = xs.set k u
  rw [List.take_set, h6]
theorem wp_append_none {P : Program} {w : World} {o : Oper} {a : Act} {K : Act → World → Prop} {Q : Exit → Act → World → Prop} (s x : Operand) (t : TypeId)
    (ho : o.op = .call { callee := .builtin .append, args := #[s, x], argTypes := #[t, t] })
    (base : Nat) (e : TypeId) (i : TypeInfo) (size : Nat) (ht : P.underlying t = some (.slice e)) (hi : P.info? e = some i)
    (v : Value) (n : Nat) (xs : List Value) (hs : a.eval s = v) (hown : w.ownsRow base e size v n xs) (hx : a.eval x = .slice none 0 0)
    (h : K (a.put o.dst v) w) : o.wp P a w K Q := by
  have hrun := run_append_owned_none (P := P) (w := w) base t o.type e i size ht hi v n xs hown
  unfold Oper.wp
  simp [execOp, ho, resolve, invoke, builtin, hs, hx, hrun, Result.andThen]
  exact h
theorem wp_none_at {P : Program} {w : World} {o : Oper} {a : Act} {K : Act → World → Prop} {Q : Exit → Act → World → Prop} (s x : Operand) (t : TypeId)
    (ho : o.op = .call { callee := .builtin .append, args := #[s, x], argTypes := #[t, t] }) (d : Nat) (hd : o.dst = some d)
    (base : Nat) (e : TypeId) (i : TypeInfo) (size : Nat) (ht : P.underlying t = some (.slice e)) (hi : P.info? e = some i)
    (v : Value) (n : Nat) (xs : List Value) (hs : a.eval s = v) (hown : w.ownsRow base e size v n xs) (hx : a.eval x = .slice none 0 0)
    (h : K { a with tmps := a.tmps.setIfInBounds d v } w) : o.wp P a w K Q := by
  refine wp_append_none s x t ho base e i size ht hi v n xs hs hown hx ?_
  rw [hd]
  exact h
theorem wp_own_at {P : Program} (w : World) {o : Oper} {a : Act} {K : Act → World → Prop} {Q : Exit → Act → World → Prop} (s x : Operand) (t : TypeId)
    (ho : o.op = .call { callee := .builtin .append, args := #[s, x], argTypes := #[t, t] }) (d : Nat) (hd : o.dst = some d)
    (base : Nat) (e : TypeId) (i : TypeInfo) (z : Value) (size bytes : Nat) (ht : P.underlying t = some (.slice e)) (hi : P.info? e = some i) (hz : i.zero = some z)
    (hsize : i.size = size) (hby : i.bytes = bytes) (hzs : z.cells.size = size) (hsz : 0 < size)
    (v : Value) (n : Nat) (xs : List Value) (hs : a.eval s = v) (hown : w.ownsRow base e size v n xs)
    (ad : Addr) (m c : Nat) (news : List Value) (hx : a.eval x = .slice (some ad) m c) (hl : news.length = m * size) (hnews : ∀ j u, news[j]? = some u → w.cell? (ad.add j) = some u) (h1 : ∀ u ∈ news, u.oneCell' = true)
    (h63 : n + m ≤ maxLen) (hbytes : (n + m) * bytes ≤ 140737488355328) (hbase : base ≤ w.heap.size)
    (h : ∀ v' w', w'.ownsRow base e size v' (n + m) (xs ++ news) → w.grownBy w' v.ownBlock → (v' = .slice none 0 0 ↔ v = .slice none 0 0 ∧ m = 0) → K { a with tmps := a.tmps.setIfInBounds d v' } w') : o.wp P a w K Q := by
  refine wp_append_own w s x t ho base e i z size bytes ht hi hz hsize hby hzs hsz v n xs hs hown ad m c news hx hl hnews h1 h63 hbytes hbase ?_
  intro v' w' h2 h3 h4
  have := h v' w' h2 h3 h4
  rw [hd]
  exact this
theorem lines_two (l : List SLine) : ∀ r ∈ l.map SLine.cells, r.length = 2 := fun r hr => by
  obtain ⟨x, _, rfl⟩ := List.mem_map.1 hr
  rfl
theorem flat_two (l : List SLine) : ((l.map SLine.cells).flatten).length = l.length * 2 := by rw [flat_len _ (lines_two l)]; simp
theorem lines_one {l : List SLine} : ∀ u ∈ (l.map SLine.cells).flatten, u.oneCell' = true := fun u hu => by
  simp only [List.mem_flatten, List.mem_map] at hu
  obtain ⟨r, ⟨s, _, rfl⟩, hu⟩ := hu
  simp only [SLine.cells, List.mem_cons, List.mem_nil_iff, or_false] at hu
  rcases hu with rfl | rfl <;> rfl
/-- the cells of the first lines of a tour -/
theorem line_cells {w : World} {tb tq c : Nat} {u v : List SLine} (h : SLinesAt w w.heap.size (some ⟨tb, tq, none⟩) c (u ++ v)) (h0 : 0 < (u ++ v).length) : ∀ j x, ((u.map SLine.cells).flatten)[j]? = some x → w.cell? ((⟨tb, tq, none⟩ : Addr).add j) = some x := fun j x hj => by
  refine row_cells h.row (lines_two _) (by omega) (by rw [List.length_map]; exact h0) j x ?_
  rw [List.map_append, List.flatten_append, List.getElem?_append_left (List.getElem?_eq_some_iff.1 hj).1]
  exact hj
theorem two_lines {w : World} {b : Nat} {x y : Value} (h0 : w.cell? ⟨b, 0, none⟩ = some x) (h1 : w.cell? ⟨b, 1, none⟩ = some y) : ∀ j u, [x, y][j]? = some u → w.cell? ((⟨b, 0, none⟩ : Addr).add j) = some u := fun j u hj => by
  have e : (⟨b, 0, none⟩ : Addr).add j = ⟨b, j, none⟩ := by unfold Addr.add; split <;> simp_all
  rw [e]
  rcases j with _ | _ | j
  · simp at hj; subst hj; exact h0
  · simp at hj; subst hj; exact h1
  · simp at hj
theorem cells_snoc (u : List SLine) (x : SLine) : ((u ++ [x]).map SLine.cells).flatten = (u.map SLine.cells).flatten ++ [vi x.shelf, vi x.many] := by simp [SLine.cells]
/-- a row of lines that a call made itself -/
theorem tour_own {w : World} {base g c m : Nat} {l : List SLine} (h : w.ownsRow base 64 2 (.slice (some ⟨g, 0, none⟩) m c) m ((l.map SLine.cells).flatten)) (hm : m = l.length) (hf : l.length ≤ 35184372088832) (h0 : 0 < m) : TourIn w ⟨some ⟨g, 0, none⟩, c, l⟩ := by
  subst hm
  obtain ⟨g', c', cur, e1, h1, h2, h3, h4, h5, h6⟩ := own_some h h0
  cases e1
  refine ⟨⟨by rw [List.length_map]; exact h3, by have := h4; unfold maxLen at this; simp only; omega, by rw [List.length_map]; exact hf, row_of_own (fun r hr => ?_) h⟩, fun b e => ?_⟩
  · obtain ⟨x, _, rfl⟩ := List.mem_map.1 hr
    rfl
  · obtain rfl := Option.some.inj e
    exact ⟨cur, h2⟩
/-- the tours so far -/
structure LoadM (f : Floor) (base : Nat) (w : World) (ts : List STour) (v : Value) (X : World) : Prop where
  below : Below w.heap.size w X
  fx : CellsBox X w.heap.size 28 f.cells
  low : w.heap.size < base
  big : base ≤ X.heap.size
  own : X.ownsRow base lsT 1 v ts.length (ts.map STour.slice)
  each : ∀ t ∈ ts, TourIn X t ∧ (t.lines = [] → t.ad = none ∧ t.cap = 0)
theorem LoadM.to {f : Floor} {base : Nat} {w X Y : World} {ts : List STour} {v : Value} (h : LoadM f base w ts v X) (hb : Below X.heap.size X Y) : LoadM f base w ts v Y :=
  ⟨h.below.trans (hb.mono h.below.size), h.fx.keep hb, h.low, Nat.le_trans h.big hb.size, own_keep h.own hb, fun t ht => ⟨(h.each t ht).1.to hb, (h.each t ht).2⟩⟩
theorem LoadM.blk {f : Floor} {base : Nat} {w X : World} {ts : List STour} {v : Value} (h : LoadM f base w ts v X) {k : Nat} (hk : v.ownBlock = some k) : base ≤ k ∧ ∃ cur, X.heap[k]? = some (.cells cur lsT (0, 0)) := by
  rcases h.own.2 with ⟨rfl, _⟩ | ⟨g, cap, cur, rfl, h1, h2, _⟩
  · cases hk
  · cases hk
    exact ⟨h1, cur, h2⟩
/-- a tour more, with nothing on it -/
theorem LoadM.push {f : Floor} {base : Nat} {w X Y : World} {ts : List STour} {v v' : Value} {o : Obj} (h : LoadM f base w ts v X) (hown : Y.ownsRow base lsT 1 v' (ts.length + 1) (ts.map STour.slice ++ [.slice none 0 0])) (hg : (X.alloc o).grownBy Y v.ownBlock) : LoadM f base w (ts ++ [⟨none, 0, []⟩]) v' Y := by
  have hsz := hg.size
  simp only [World.size_alloc] at hsz
  have hBX : Below X.heap.size X (X.alloc o) := (Below.refl _ X).alloc (Nat.le_refl _) o
  have keep : ∀ (k : Nat) (cs : Array Value) (t : TypeId), t ≠ lsT → X.heap[k]? = some (.cells cs t (0, 0)) → Y.heap[k]? = X.heap[k]? := fun k cs t ht hk => by
    have hlt := (Array.getElem?_eq_some_iff.1 hk).1
    refine (hg.block k (by simp; omega) fun e => ?_).trans (hBX.block k hlt)
    obtain ⟨_, cur, hc⟩ := h.blk e.symm
    rw [hk] at hc
    cases hc
    exact ht rfl
  refine ⟨?_, (keep _ _ _ (by decide) h.fx).trans h.fx, h.low, by have := h.big; omega, ?_, fun t ht => ?_⟩
  · exact Below.grown (h.below.trans (hBX.mono h.below.size)) hg (by have := h.below.size; simp; omega) fun k e => by have := (h.blk e).1; have := h.low; omega
  · rw [List.length_append, List.map_append]
    exact hown
  · rcases List.mem_append.1 ht with ht | ht
    · exact ⟨(h.each t ht).1.keep (by omega) fun k cs hk => keep k cs _ (by decide) hk, (h.each t ht).2⟩
    · obtain rfl : t = ⟨none, 0, []⟩ := by simpa using ht
      exact ⟨⟨⟨by simp, by simp, by simp, fun hl => by simp at hl⟩, fun b e => by cases e⟩, fun _ => ⟨rfl, rfl⟩⟩
/-- the last tour laid anew -/
theorem LoadM.put {f : Floor} {base g n cap : Nat} {w X : World} {us : List STour} {t0 t1 : STour} (h : LoadM f base w (us ++ [t0]) (.slice (some ⟨g, 0, none⟩) n cap) X) (hn : n = us.length + 1) (ht : TourIn X t1) (hne : t1.lines ≠ []) {v1 : Value} (hv1 : t1.slice = v1) : LoadM f base w (us ++ [t1]) (.slice (some ⟨g, 0, none⟩) n cap) (X.setCell ⟨g, us.length, none⟩ v1) := by
  subst hv1
  have hlen : (us ++ [t0]).length = us.length + 1 := by simp
  obtain ⟨hbg, cur, hcur⟩ := h.blk (k := g) rfl
  have hlow := h.low
  have keep : ∀ (k : Nat) (cs : Array Value) (t : TypeId), t ≠ lsT → X.heap[k]? = some (.cells cs t (0, 0)) → (X.setCell ⟨g, us.length, none⟩ t1.slice).heap[k]? = X.heap[k]? := fun k cs t ht hk => by
    refine heap_setCell_other _ _ k _ fun e => ?_
    simp only at e
    subst e
    rw [hcur] at hk
    cases hk
    exact ht rfl
  refine ⟨h.below.setCell (by simp only; omega) _, (keep _ _ _ (by decide) h.fx).trans h.fx, h.low, (by have := h.big; simpa using this), ?_, fun t htm => ?_⟩
  · have ho := h.own
    rw [hlen, ← hn] at ho
    have := own_set1 (k := us.length) (u := t1.slice) ho (by omega)
    rw [List.map_append, List.set_append_right _ _ (by simp)] at this
    rw [show (us ++ [t1]).length = n by simp [hn], List.map_append]
    simpa using this
  · rcases List.mem_append.1 htm with htm | htm
    · obtain ⟨e1, e2⟩ := h.each t (by simp [htm])
      exact ⟨e1.keep (by simp) fun k cs hk => keep k cs _ (by decide) hk, e2⟩
    · obtain rfl : t = t1 := by simpa using htm
      exact ⟨ht.keep (by simp) fun k cs hk => keep k cs _ (by decide) hk, fun e => absurd e hne⟩
/-- the cell of the last tour -/
theorem LoadM.last {f : Floor} {base g n cap : Nat} {w X : World} {us : List STour} {t0 : STour} (h : LoadM f base w (us ++ [t0]) (.slice (some ⟨g, 0, none⟩) n cap) X) : X.cell? ⟨g, us.length, none⟩ = some t0.slice ∧ X.frozen? ⟨g, us.length, none⟩ = false := by
  obtain ⟨hbg, cur, hcur⟩ := h.blk (k := g) rfl
  have := h.own.cells (g := g) rfl us.length t0.slice (by rw [List.map_append, List.getElem?_append_right (by simp)]; simp)
  refine ⟨?_, by simp [World.frozen?, hcur]⟩
  have e : (⟨g, 0, none⟩ : Addr).add us.length = ⟨g, us.length, none⟩ := by unfold Addr.add; split <;> simp_all
  rwa [e] at this
theorem LoadM.tours {f : Floor} {base : Nat} {w X : World} {ts : List STour} {v : Value} (h : LoadM f base w ts v X) (hl : ts.length ≤ 1000) : ∃ R c, v = .slice R ts.length c ∧ ToursAt X X.heap.size R c ts := by
  have ho := h.own
  rw [← cells_flat] at ho
  obtain ⟨R, c, e, _, _, hr⟩ := own_rows (cells_tour ts) ho (by simp) (by omega)
  exact ⟨R, c, e, ⟨⟨by have := ho; rcases own_form ho with ⟨A, c', e2, h1, _⟩; rw [e] at e2; cases e2; rw [List.length_map]; exact h1, by rcases own_form ho with ⟨A, c', e2, _, h2⟩; rw [e] at e2; cases e2; unfold maxLen at h2; omega, by rw [List.length_map]; omega, hr.row⟩, fun t ht => (h.each t ht).1.lines⟩⟩
end Go.Proofs.YtomgnpfpaodpiaaDoor

