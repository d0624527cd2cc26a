/- The specification's IsTours and the program's say the same. -/
import Derived.Test.YtomgnpfpaodpiaaDoorH44
import Derived.Test.YtomgnpfpaodpiaaDoorH09
import Derived.Test.YtomgnpfpaodpiaaDoorH17
set_option linter.unusedVariables false
set_option linter.unusedSimpArgs false
namespace Go.Proofs.YtomgnpfpaodpiaaDoor
open Go Go.RowKit
/-- how many pieces of a shelf lines have -/
def cntL (j : Nat) (l : List SLine) : Int := (l.map fun x => if x.shelf.toNat = j then x.many else 0).sum
theorem addL_get (sg : Int) : ∀ (l : List SLine) (p : List Int) (j : Nat), (addL sg p l)[j]? = (p[j]?).map fun y => y + sg * cntL j l
  | [], p, j => by
    have : addL sg p [] = p := rfl
    rw [this]
    cases p[j]? with
    | none => rfl
    | some y => simp [cntL]
  | x :: l, p, j => by
    have e : addL sg p (x :: l) = addL sg (p.set x.shelf.toNat (p[x.shelf.toNat]?.getD 0 + sg * x.many)) l := rfl
    rw [e, addL_get sg l, List.getElem?_set]
    have hc : cntL j (x :: l) = (if x.shelf.toNat = j then x.many else 0) + cntL j l := by simp [cntL]
    rw [hc]
    by_cases h : x.shelf.toNat = j
    · subst h
      simp only [if_true]
      by_cases hl : x.shelf.toNat < p.length
      · rw [if_pos hl, List.getElem?_eq_getElem hl]
        simp only [Option.map_some, Option.getD_some, Option.some.injEq]
        rw [Int.mul_add]; omega
      · rw [if_neg hl, List.getElem?_eq_none (by omega)]
        rfl
    · rw [if_neg h, if_neg h]
      simp
theorem pieces_addL (l : List SLine) : piecesF l = addL 1 (List.replicate 12 0) l := by
  unfold piecesF addL
  congr 1
  funext p x
  rw [Int.one_mul]
theorem pieces_get (l : List SLine) {j : Nat} (hj : j < 12) : (piecesF l)[j]? = some (cntL j l) := by
  rw [pieces_addL, addL_get, List.getElem?_replicate, if_pos hj]
  simp
theorem pieces_len (l : List SLine) : (piecesF l).length = 12 := by rw [pieces_addL, addL_len, List.length_replicate]
theorem without_get {p q : List Int} {j : Nat} {x y : Int} (hx : p[j]? = some x) (hy : q[j]? = some y) : (withoutF p q)[j]? = some (x - y) := by
  unfold withoutF
  rw [List.getElem?_map, (List.getElem?_zip_eq_some (z := (x, y))).2 ⟨hx, hy⟩]
  rfl
def cntT (j : Nat) (ts : List STour) : Int := (ts.map fun t => cntL j t.lines).sum
theorem leftK_get : ∀ (ts : List STour) (p : List Int) (j : Nat) (x : Int), j < 12 → p[j]? = some x → (leftK p ts ts.length)[j]? = some (x - cntT j ts)
  | [], p, j, x, _, h => by
    have : leftK p [] ([] : List STour).length = p := rfl
    rw [this, h]; simp [cntT]
  | t :: ts, p, j, x, hj, h => by
    have e : leftK p (t :: ts) (t :: ts).length = leftK (withoutF p (piecesF t.lines)) ts ts.length := by unfold leftK; rw [List.take_length, List.take_length]; rfl
    rw [e, leftK_get ts _ j (x - cntL j t.lines) hj (without_get h (pieces_get _ hj))]
    simp [cntT]; omega
theorem leftR_get : ∀ (ts : List STour) (p : List Int) (j : Nat), (leftR p ts)[j]? = (p[j]?).map fun y => y - cntT j ts
  | [], p, j => by
    have : leftR p [] = p := rfl
    rw [this]
    cases p[j]? with
    | none => rfl
    | some y => simp [cntT]
  | t :: ts, p, j => by
    have e : leftR p (t :: ts) = leftR (addL (-1) p t.lines) ts := rfl
    rw [e, leftR_get ts, addL_get]
    cases p[j]? with
    | none => rfl
    | some y => simp [cntT]; omega
theorem leftK_len : ∀ (ts : List STour) (p : List Int), p.length = 12 → (leftK p ts ts.length).length = 12
  | [], p, h => h
  | t :: ts, p, h => by
    have e : leftK p (t :: ts) (t :: ts).length = leftK (withoutF p (piecesF t.lines)) ts ts.length := by unfold leftK; rw [List.take_length, List.take_length]; rfl
    rw [e]
    exact leftK_len ts _ (withoutF_len h (pieces_len _))
theorem tour_same {f : Floor} (hf : f.far.length ≤ 12) (t : STour) : tourB f t.lines = goodR f t := by
  unfold tourB goodR linesB
  have : (List.range t.lines.length).all (goodLine f.far.length t.lines) = linesR f.far.length t.lines := rfl
  rw [this]
  cases h : linesR f.far.length t.lines with
  | false => simp
  | true =>
    have h1 := linesR_len (n := f.far.length) h
    congr 1
    rw [Bool.and_true, Bool.and_true]
    unfold hasB
    by_cases h0 : t.lines.length = 0
    · rw [h0]; rfl
    · have h2 : (1 : Int) ≤ t.lines.length := by omega
      have h3 : (t.lines.length : Int) ≤ 12 := by omega
      have h4 : (t.lines.length == 0) = false := by rw [beq_eq_false_iff_ne]; exact h0
      rw [decide_eq_true h2, decide_eq_true h3, h4]
      rfl
theorem cntL_far {n : Int} {l : List SLine} (h : ∀ x ∈ l, 0 ≤ x.shelf ∧ x.shelf < n) {j : Nat} (hj : n ≤ j) : cntL j l = 0 := by
  unfold cntL
  have : l.map (fun x => if x.shelf.toNat = j then x.many else 0) = l.map fun _ => (0 : Int) := List.map_congr_left fun x hx => by
    have := h x hx
    rw [if_neg (by omega)]
  rw [this]
  clear this h
  induction l with
  | nil => rfl
  | cons x l ih => rw [List.map_cons, List.sum_cons, ih]; rfl
theorem tours_same {f : Floor} (hv : validB f = true) {n : Nat} {s : SSlip} (hs : f.slips[n]? = some s) (ts : List STour) : toursB f (piecesF s.lines) ts = isToursR f s ts := by
  have hf := fine hv
  have e1 : ts.all (fun t => tourB f t.lines) = (List.range ts.length).all (fun k => match ts[k]? with | some t => goodR f t | none => true) := by
    have : (fun t : STour => tourB f t.lines) = fun t => goodR f t := funext fun t => tour_same hf.far12 t
    rw [this, Bool.eq_iff_iff, List.all_eq_true, List.all_eq_true]
    constructor
    · intro h k hk
      rw [List.getElem?_eq_getElem (List.mem_range.1 hk)]
      exact h _ (List.getElem_mem _)
    · intro h t ht
      obtain ⟨k, hk, rfl⟩ := List.mem_iff_getElem.1 ht
      have := h k (List.mem_range.2 hk)
      rwa [List.getElem?_eq_getElem hk] at this
  unfold toursB isToursR
  rw [e1]
  cases hg : (List.range ts.length).all (fun k => match ts[k]? with | some t => goodR f t | none => true) with
  | false => rfl
  | true =>
    rw [Bool.true_and, Bool.true_and, Bool.eq_iff_iff, decide_eq_true_eq, List.all_eq_true]
    rw [List.all_eq_true] at hg
    have hgt : ∀ t ∈ ts, linesR f.far.length t.lines = true := fun t ht => by
      obtain ⟨k, hk, rfl⟩ := List.mem_iff_getElem.1 ht
      have := hg k (List.mem_range.2 hk)
      rw [List.getElem?_eq_getElem hk] at this
      simp only [goodR, Bool.and_eq_true] at this
      exact this.1.2
    have hsl : ∀ x ∈ s.lines, 0 ≤ x.shelf ∧ x.shelf < (f.far.length : Int) := fun x hx => by
      obtain ⟨i, hi, rfl⟩ := List.mem_iff_getElem.1 hx
      exact (line_at hv hs (List.getElem?_eq_getElem hi)).1
    have htl : ∀ t ∈ ts, ∀ x ∈ t.lines, 0 ≤ x.shelf ∧ x.shelf < (f.far.length : Int) := fun t ht x hx => by
      obtain ⟨i, hi, rfl⟩ := List.mem_iff_getElem.1 hx
      have := (linesR_at (hgt t ht) i _ (List.getElem?_eq_getElem hi)).1
      omega
    have hct : ∀ j : Nat, f.far.length ≤ j → cntT j ts = 0 := fun j hj => by
      unfold cntT
      have : ts.map (fun t => cntL j t.lines) = ts.map fun _ => (0 : Int) := List.map_congr_left fun t ht => cntL_far (htl t ht) (by omega)
      rw [this]
      clear this
      generalize ts = us
      induction us with
      | nil => rfl
      | cons t us ih => rw [List.map_cons, List.sum_cons, ih]; rfl
    have hL : ∀ j : Nat, j < 12 → (leftK (piecesF s.lines) ts ts.length)[j]? = some (cntL j s.lines - cntT j ts) := fun j hj => leftK_get ts _ j _ hj (pieces_get _ hj)
    have hR : ∀ j : Nat, (leftR (addL 1 (List.replicate f.far.length 0) s.lines) ts)[j]? = if j < f.far.length then some (cntL j s.lines - cntT j ts) else none := fun j => by
      rw [leftR_get, addL_get, List.getElem?_replicate]
      split
      · simp
      · rfl
    constructor
    · intro h y hy
      obtain ⟨j, hj, rfl⟩ := List.mem_iff_getElem.1 hy
      have h1 := List.getElem?_eq_getElem hj
      rw [hR j] at h1
      split at h1
      · rename_i hjn
        have h2 := hL j (by have := hf.far12; omega)
        rw [h] at h2
        have h3 : ([0, 0, 0, 0, 0, 0, 0, 0, 0, 0, 0, 0] : List Int) = List.replicate 12 0 := rfl
        rw [h3, List.getElem?_replicate, if_pos (by have := hf.far12; omega)] at h2
        simp only [Option.some.injEq] at h1 h2
        rw [← h1, ← h2]
        rfl
      · cases h1
    · intro h
      have h3 : ([0, 0, 0, 0, 0, 0, 0, 0, 0, 0, 0, 0] : List Int) = List.replicate 12 0 := rfl
      rw [h3]
      apply List.ext_getElem?
      intro j
      rw [List.getElem?_replicate]
      by_cases hj : j < 12
      · rw [if_pos hj, hL j hj]
        by_cases hjn : j < f.far.length
        · have h1 := hR j
          rw [if_pos hjn] at h1
          have := h _ (List.mem_of_getElem? h1)
          simp only [beq_iff_eq] at this
          rw [this]
        · rw [cntL_far hsl (by omega), hct j (by omega)]
          rfl
      · rw [if_neg hj, List.getElem?_eq_none]
        rw [leftK_len ts _ (pieces_len _)]; omega
end Go.Proofs.YtomgnpfpaodpiaaDoor

/- Contract of the specification's IsTours, whatever is asked. -/
namespace Go.Proofs.YtomgnpfpaodpiaaDoor
open Go Go.RowKit
set_option maxHeartbeats 4000000
set_option maxRecDepth 100000 in
theorem rIsTours_bad (f : Floor) (n : Int) (A : Option Addr) (cap : Nat) (ts : List STour) (hbad : checkSlipV f n = 30 ∨ checkSlipV f n = 31) (w : World) (h : FloorAt w w.heap.size f) :
    Calls Tryd.prog 15 #[f.val, vi n, .slice A ts.length cap] w fun e w' => e = .returned (.tuple #[.bool false, vi (checkSlipV f n)]) ∧ Below w.heap.size w w' := by
  have HF := Lib.hid h
  have h3l := h.slips.lens
  obtain ⟨b, hb⟩ : ∃ b, slipB f n = b := ⟨_, rfl⟩
  have IS := Lib.hid (fun (W : World) => isSlip_is hb W h3l.2)
  obtain ⟨c, hc⟩ : ∃ c, checkSlipV f n = c := ⟨_, rfl⟩
  have AS := Lib.hid (fun (W : World) hW => asked_is (b := b) (e := c) (by rw [← hb, asked_slip, hc]) W hW)
  have X0 := CellsBox.new w 28 f.cells
  have HX := Lib.hid X0
  have hb0 : Below w.heap.size w (w.alloc (.cells f.cells.toArray 28)) := below1 _ _
  have a0 := X0.cell (j := 0) rfl
  have a1 := X0.cell (j := 1) rfl
  have a2 := X0.cell (j := 2) rfl
  have a3 := X0.cell (j := 3) rfl
  have a4 := X0.cell (j := 4) rfl
  have a5 := X0.cell (j := 5) rfl
  have za := X0.lt
  obtain ⟨V, hV⟩ : ∃ V, V = w.alloc (.cells f.cells.toArray 28) := ⟨_, rfl⟩
  rw [← hV] at X0 hb0 a0 a1 a2 a3 a4 a5 za HX
  have hFV : Hid (FloorAt V V.heap.size f) := HF.out.to hb0
  have hne : c ≠ 0 := by omega
  have hnb : (c != 0) = true := by simp; exact hne
  rw [hc]
  clear hbad hne hb hc h X0
  show Calls Tryd.prog 15 #[.agg #[.slice f.fA f.far.length f.fC, vi f.slo, vi f.shi, .slice f.pA f.picks.length f.pC, vi f.carry, .slice f.sA f.slips.length f.sC], vi n, .slice A ts.length cap] w _
  go_enter Tryd.func15, Tryd.ntmps15
  go_wp2_with fail
  rw [← show V = w.alloc (.cells #[.slice f.fA f.far.length f.fC, vi f.slo, vi f.shi, .slice f.pA f.picks.length f.pC, vi f.carry, .slice f.sA f.slips.length f.sC] 28) from hV]
  clear hV
  (refine wp_region_grow_lit (by kernel_rfl) (by kernel_rfl) ?_; (repeat (go_big_quiet_step (first | (go_at_call 55; refine Calls.grow_of (IS.out _)) | (go_at_call 54; refine Calls.grow_of (AS.out _ (hFV.out.to (plus_below _ _))))))); refine wpQuiet_nil ?_; intro w1 hw1; have hb1 := below_of_plus hw1; clear hw1; obtain ⟨⟨hc1, hf1, hs1⟩, hz1⟩ := after hb1; (try simp only [World.size_alloc, World.size_setCell, World.size_drew] at hz1))
  have HB1 : Below w.heap.size w w1 := hb0.trans (hb1.mono hb0.size)
  clear hb1 hc1 hf1 hs1 hz1 a0 a1 a2 a3 a4 a5 za
  go_wp2_with fail
  go_ret2
  exact ⟨rfl, HB1⟩
/-- it answers what the program's IsTours answers -/
theorem rIsTours_any (f : Floor) (n : Int) (A : Option Addr) (cap : Nat) (ts : List STour) (w : World) (h : FloorAt w w.heap.size f) (ht : ToursAt w w.heap.size A cap ts) :
    Calls Tryd.prog 15 #[f.val, vi n, .slice A ts.length cap] w fun e w' => e = .returned (.tuple #[.bool (isToursV f n ts), vi (checkSlipV f n)]) ∧ Below w.heap.size w w' := by
  rcases check_cases f n with hbad | ⟨h0, hv, k, s, rfl, hs⟩
  · have : isToursV f n ts = false := by unfold isToursV; rw [if_neg (by omega)]
    rw [this]
    exact rIsTours_bad f n A cap ts hbad w h
  · have : isToursV f k ts = isToursR f s ts := by unfold isToursV; rw [if_pos h0, Int.toNat_natCast, hs]; exact tours_same hv hs ts
    rw [this, h0]
    exact rIsTours_ok f hv k s hs A cap ts w h ht
end Go.Proofs.YtomgnpfpaodpiaaDoor

/- The steps that tours take, by how far pieces are: the program's loads. -/
namespace Go.Proofs.YtomgnpfpaodpiaaDoor
open Go Go.RowKit
/-- how many pieces of some shelves there are -/
def maskS (g : Nat → Bool) : Nat → List Int → Int
  | _, [] => 0
  | i, x :: p => (if g i then x else 0) + maskS g (i + 1) p
theorem maskS_set {g : Nat → Bool} : ∀ (p : List Int) (i k : Nat) (x v : Int), p[k]? = some x → maskS g i (p.set k v) = maskS g i p + (if g (i + k) then v - x else 0)
  | [], _, _, _, _, h => by simp at h
  | y :: p, i, 0, x, v, h => by
    simp only [List.getElem?_cons_zero, Option.some.injEq] at h
    subst h
    rw [List.set_cons_zero, maskS, maskS, show i + 0 = i from rfl]
    by_cases hg : g i = true
    · rw [if_pos hg, if_pos hg, if_pos hg]; omega
    · rw [if_neg hg, if_neg hg, if_neg hg]; omega
  | y :: p, i, k + 1, x, v, h => by
    rw [List.getElem?_cons_succ] at h
    rw [List.set_cons_succ, maskS, maskS, maskS_set p (i + 1) k x v h, show i + 1 + k = i + (k + 1) by omega]
    omega
theorem maskS_nonneg {g : Nat → Bool} : ∀ (p : List Int) (i : Nat), (∀ n ∈ p, 0 ≤ n) → 0 ≤ maskS g i p
  | [], _, _ => Int.le_refl _
  | y :: p, i, h => by
    have h1 := h y (by simp)
    have h2 := maskS_nonneg (g := g) p (i + 1) (fun n hn => h n (by simp [hn]))
    rw [maskS]
    split <;> omega
theorem maskS_some {g : Nat → Bool} : ∀ (p : List Int) (i : Nat), (∀ n ∈ p, 0 ≤ n) → 1 ≤ maskS g i p → ∃ (k : Nat) (x : Int), p[k]? = some x ∧ 0 < x ∧ g (i + k) = true
  | [], i, _, h => by rw [maskS] at h; omega
  | y :: p, i, hp, h => by
    rw [maskS] at h
    have h1 := hp y (by simp)
    by_cases hc : g i = true ∧ 0 < y
    · exact ⟨0, y, rfl, hc.2, hc.1⟩
    · have h2 : 1 ≤ maskS g (i + 1) p := by
        by_cases hg : g i = true
        · rw [if_pos hg] at h
          have : ¬ 0 < y := fun e => hc ⟨hg, e⟩
          omega
        · rw [if_neg hg] at h; omega
      obtain ⟨k, x, e1, e2, e3⟩ := maskS_some p (i + 1) (fun n hn => hp n (by simp [hn])) h2
      exact ⟨k + 1, x, by rw [List.getElem?_cons_succ]; exact e1, e2, by rw [show i + (k + 1) = i + 1 + k by omega]; exact e3⟩
theorem maskS_ge {g : Nat → Bool} : ∀ (p : List Int) (i k : Nat) (x : Int), (∀ n ∈ p, 0 ≤ n) → p[k]? = some x → g (i + k) = true → x ≤ maskS g i p
  | [], _, _, _, _, h, _ => by simp at h
  | y :: p, i, 0, x, hp, h, hg => by
    simp only [List.getElem?_cons_zero, Option.some.injEq] at h
    subst h
    have := maskS_nonneg (g := g) p (i + 1) (fun n hn => hp n (by simp [hn]))
    rw [Nat.add_zero] at hg
    rw [maskS, if_pos hg]
    omega
  | y :: p, i, k + 1, x, hp, h, hg => by
    rw [List.getElem?_cons_succ] at h
    have h1 := hp y (by simp)
    have := maskS_ge p (i + 1) k x (fun n hn => hp n (by simp [hn])) h (by rw [show i + 1 + k = i + (k + 1) by omega]; exact hg)
    rw [maskS]
    split <;> omega
theorem maskS_zero {g : Nat → Bool} : ∀ (n i : Nat), maskS g i (List.replicate n 0) = 0
  | 0, _ => rfl
  | n + 1, i => by rw [List.replicate_succ, maskS, maskS_zero n]; split <;> rfl
theorem maskS_sub {g : Nat → Bool} : ∀ (p q : List Int) (i : Nat), p.length = q.length → maskS g i (withoutF p q) = maskS g i p - maskS g i q
  | [], [], _, _ => rfl
  | x :: p, y :: q, i, h => by
    have e : withoutF (x :: p) (y :: q) = (x - y) :: withoutF p q := rfl
    rw [e, maskS, maskS, maskS, maskS_sub p q (i + 1) (by simpa using h)]
    split <;> omega
  | [], _ :: _, _, h => by simp at h
  | _ :: _, [], _, h => by simp at h
theorem maskS_addL {g : Nat → Bool} (l : List SLine) : ∀ (p : List Int), (∀ x ∈ l, x.shelf.toNat < p.length) → maskS g 0 (addL 1 p l) = maskS g 0 p + (l.map fun x => if g x.shelf.toNat then x.many else 0).sum := by
  induction l with
  | nil => intro p _; simp [addL]
  | cons x l ih =>
    intro p h
    have hx := h x (by simp)
    have e : addL 1 p (x :: l) = addL 1 (p.set x.shelf.toNat (p[x.shelf.toNat]?.getD 0 + 1 * x.many)) l := rfl
    rw [e, ih _ (fun y hy => by rw [List.length_set]; exact h y (by simp [hy])), maskS_set p 0 x.shelf.toNat _ _ (List.getElem?_eq_getElem hx), List.getElem?_eq_getElem hx, List.map_cons, List.sum_cons, Nat.zero_add, Option.getD_some]
    split <;> omega
/-- how far a shelf is -/
def fkF (f : Floor) (k : Nat) : Int := (f.far[k]?).getD 0
def farB (f : Floor) (h : Int) (k : Nat) : Bool := decide (h ≤ fkF f k)
theorem far_mono {f : Floor} (hv : validB f = true) : ∀ (j k : Nat), j ≤ k → k < f.far.length → fkF f j ≤ fkF f k := by
  have step : ∀ k : Nat, k + 1 < f.far.length → fkF f k ≤ fkF f (k + 1) := fun k hk => by
    have hp := valid_parts hv
    unfold validB shelvesB at hv
    simp only [Bool.and_eq_true, List.all_eq_true, List.mem_range] at hv
    have hg := hv.1.1.1.1.2 (k + 1) hk
    have hkp : k + 1 < f.picks.length := by rw [hp.2.2.1]; exact hk
    rw [goodShelf_of (List.getElem?_eq_getElem hk) (List.getElem?_eq_getElem hkp), Bool.and_eq_true, Bool.and_eq_true] at hg
    have hc := hg.1.2
    change (match f.far[k]? with | some p => decide (p ≤ f.far[k + 1]) | none => true) = true at hc
    rw [List.getElem?_eq_getElem (show k < f.far.length by omega)] at hc
    simp only [decide_eq_true_eq] at hc
    unfold fkF
    rw [List.getElem?_eq_getElem hk, List.getElem?_eq_getElem (show k < f.far.length by omega)]
    exact hc
  intro j k h
  induction h with
  | refl => intro _; exact Int.le_refl _
  | @step m h ih => intro hk; exact Int.le_trans (ih (by omega)) (step m hk)
theorem fk_range {f : Floor} (hv : validB f = true) (k : Nat) : 0 ≤ fkF f k ∧ fkF f k ≤ 500 := by
  unfold fkF
  by_cases hk : k < f.far.length
  · rw [List.getElem?_eq_getElem hk]
    exact (fine hv).fars _ (List.getElem_mem hk)
  · rw [List.getElem?_eq_none (by omega)]; simp
/-- pieces that are on shelves of a floor -/
structure OnF (f : Floor) (p : List Int) : Prop where
  len : p.length = 12
  pos : ∀ n ∈ p, 0 ≤ n
  only : ∀ (k : Nat) (x : Int), p[k]? = some x → 0 < x → k < f.far.length
/-- c moves of the farthest piece -/
def movesP (p : List Int) : Nat → List Int × List Int
  | 0 => (p, List.replicate 12 0)
  | n + 1 => moveF (movesP p n)
theorem farthest_moves (c : Nat) (p : List Int) : farthestF c p = (movesP p c).2 := by
  unfold farthestF
  have : ∀ n : Nat, (n.rec (motive := fun _ => List Int × List Int) (p, List.replicate 12 0) fun _ x => moveF x) = movesP p n := by
    intro n
    induction n with
    | zero => rfl
    | succ n ih => rw [movesP, ← ih]
  rw [this]
theorem moves_spec {f : Floor} (hv : validB f = true) {p : List Int} (hp : OnF f p) : ∀ n : Nat, OnF f (movesP p n).1 ∧ OnF f (movesP p n).2 ∧ ∀ h : Int, maskS (farB f h) 0 (movesP p n).2 = min (n : Int) (maskS (farB f h) 0 p) ∧ maskS (farB f h) 0 (movesP p n).1 = maskS (farB f h) 0 p - min (n : Int) (maskS (farB f h) 0 p)
  | 0 => by
    refine ⟨hp, ⟨by simp [movesP], fun n hn => by rw [movesP, List.mem_replicate] at hn; omega, fun k x hx h0 => by rw [movesP, List.getElem?_replicate] at hx; split at hx <;> simp at hx; omega⟩, fun h => ?_⟩
    have := maskS_nonneg (g := farB f h) p 0 hp.pos
    simp only [movesP, maskS_zero]
    constructor <;> omega
  | n + 1 => by
    obtain ⟨i1, i2, i3⟩ := moves_spec hv hp n
    have hl := lastF_is (movesP p n).1
    rw [movesP, moveF]
    cases hk : lastF (movesP p n).1 with
    | none =>
      rw [hk] at hl
      dsimp only
      refine ⟨i1, i2, fun h => ?_⟩
      have h1 : maskS (farB f h) 0 (movesP p n).1 < 1 := by
        apply Classical.byContradiction
        intro hc
        obtain ⟨k, x, e1, e2, _⟩ := maskS_some (g := farB f h) _ 0 i1.pos (by omega)
        have := hl k x e1
        omega
      have h0 := maskS_nonneg (g := farB f h) p 0 hp.pos
      obtain ⟨j1, j2⟩ := i3 h
      constructor <;> omega
    | some k =>
      rw [hk] at hl
      dsimp only
      obtain ⟨⟨x, hx, hx0⟩, hno⟩ := hl
      have hkn := i1.only k x hx hx0
      have h12 := (fine hv).far12
      obtain ⟨y, hy⟩ : ∃ y, (movesP p n).2[k]? = some y := ⟨_, List.getElem?_eq_getElem (by rw [i2.len]; omega)⟩
      have hy0 := i2.pos y (List.mem_of_getElem? hy)
      simp only [hx, hy, Option.getD_some]
      refine ⟨⟨by rw [List.length_set]; exact i1.len, fun m hm => ?_, fun j z hz hz0 => ?_⟩, ⟨by rw [List.length_set]; exact i2.len, fun m hm => ?_, fun j z hz hz0 => ?_⟩, fun h => ?_⟩
      · rcases List.mem_or_eq_of_mem_set hm with hm | rfl
        · exact i1.pos m hm
        · omega
      · by_cases hj : k = j
        · omega
        · rw [List.getElem?_set_ne hj] at hz
          exact i1.only j z hz hz0
      · rcases List.mem_or_eq_of_mem_set hm with hm | rfl
        · exact i2.pos m hm
        · omega
      · by_cases hj : k = j
        · omega
        · rw [List.getElem?_set_ne hj] at hz
          exact i2.only j z hz hz0
      · obtain ⟨j1, j2⟩ := i3 h
        have h0 := maskS_nonneg (g := farB f h) p 0 hp.pos
        rw [maskS_set _ 0 k _ _ hx, maskS_set _ 0 k _ _ hy, Nat.zero_add]
        by_cases hg : farB f h k = true
        · have h1 := maskS_ge (g := farB f h) _ 0 k x i1.pos hx (by rw [Nat.zero_add]; exact hg)
          rw [if_pos hg, if_pos hg]
          constructor <;> omega
        · rw [if_neg hg, if_neg hg]
          have h1 : maskS (farB f h) 0 (movesP p n).1 < 1 := by
            apply Classical.byContradiction
            intro hc
            obtain ⟨j, z, e1, e2, e3⟩ := maskS_some (g := farB f h) _ 0 i1.pos (by omega)
            rw [Nat.zero_add] at e3
            have hjk : j ≤ k := by
              apply Classical.byContradiction
              intro hgt
              have := hno j z (by omega) e1
              omega
            have := far_mono hv j k hjk hkn
            unfold farB at e3 hg
            rw [decide_eq_true_eq] at e3 hg
            omega
          constructor <;> omega
end Go.Proofs.YtomgnpfpaodpiaaDoor

