/- The steps that tours take, by how far pieces are: the program's loads. -/
import Derived.Test.YtomgnpfpaodpiaaDoorK08
import Derived.Test.YtomgnpfpaodpiaaDoorK03
import Derived.Test.YtomgnpfpaodpiaaDoorK07
import Derived.Test.YtomgnpfpaodpiaaDoorK04
import Derived.Deep.CutRange
import Derived.Lib.MinMax
set_option linter.unusedVariables false
set_option linter.unusedSimpArgs false
namespace Go.Proofs.YtomgnpfpaodpiaaDoor
open Go Go.RowKit
/-- how many pieces of some shelves there are -/
def maskS (g : Nat → Bool) : Nat → List Int → Int
  | _, [] => 0
  | i, x :: p => (if g i then x else 0) + maskS g (i + 1) p
theorem maskS_nonneg {g : Nat → Bool} : ∀ (p : List Int) (i : Nat), (∀ n ∈ p, 0 ≤ n) → 0 ≤ maskS g i p
  | [], _, _ => Int.le_refl _
  | y :: p, i, h => by
    have h1 := h y (by simp)
    have h2 := maskS_nonneg (g := g) p (i + 1) (fun n hn => h n (by simp [hn]))
    rw [maskS]
    split <;> omega
theorem maskS_ge {g : Nat → Bool} : ∀ (p : List Int) (i k : Nat) (x : Int), (∀ n ∈ p, 0 ≤ n) → p[k]? = some x → g (i + k) = true → x ≤ maskS g i p
  | [], _, _, _, _, h, _ => by simp at h
  | y :: p, i, 0, x, hp, h, hg => by
    simp only [List.getElem?_cons_zero, Option.some.injEq] at h
    subst h
    have := maskS_nonneg (g := g) p (i + 1) (fun n hn => hp n (by simp [hn]))
    rw [Nat.add_zero] at hg
    rw [maskS, if_pos hg]
    omega
  | y :: p, i, k + 1, x, hp, h, hg => by
    rw [List.getElem?_cons_succ] at h
    have h1 := hp y (by simp)
    have := maskS_ge p (i + 1) k x (fun n hn => hp n (by simp [hn])) h (by rw [show i + 1 + k = i + (k + 1) by omega]; exact hg)
    rw [maskS]
    split <;> omega
/-- how far a shelf is -/
def fkF (f : Floor) (k : Nat) : Int := (f.far[k]?).getD 0
def farB (f : Floor) (h : Int) (k : Nat) : Bool := decide (h ≤ fkF f k)
theorem fk_range {f : Floor} (hv : validB f = true) (k : Nat) : 0 ≤ fkF f k ∧ fkF f k ≤ 500 := by
  unfold fkF
  by_cases hk : k < f.far.length
  · rw [List.getElem?_eq_getElem hk]
    exact (fine hv).fars _ (List.getElem_mem hk)
  · rw [List.getElem?_eq_none (by omega)]; simp
/-- pieces that are on shelves of a floor -/
structure OnF (f : Floor) (p : List Int) : Prop where
  len : p.length = 12
  pos : ∀ n ∈ p, 0 ≤ n
  only : ∀ (k : Nat) (x : Int), p[k]? = some x → 0 < x → k < f.far.length
/-- c moves of the farthest piece -/
def movesP (p : List Int) : Nat → List Int × List Int
  | 0 => (p, List.replicate 12 0)
  | n + 1 => moveF (movesP p n)
end Go.Proofs.YtomgnpfpaodpiaaDoor
/- The steps of the program's loads and of the specification are the same: how many tours go so far, for each distance. -/
namespace Go.Proofs.YtomgnpfpaodpiaaDoor
open Go Go.RowKit
theorem OnF.twelve {f : Floor} {p : List Int} (h : OnF f p) : ∃ m, Twelve m p := by
  have : ∀ l : List Int, (∀ n ∈ l, 0 ≤ n) → ∃ m : Int, ∀ n ∈ l, n ≤ m := by
    intro l
    induction l with
    | nil => intro _; exact ⟨0, by simp⟩
    | cons x l ih =>
      intro hp
      obtain ⟨m, hm⟩ := ih (fun n hn => hp n (by simp [hn]))
      have := hp x (by simp)
      refine ⟨max m x, fun n hn => ?_⟩
      rcases List.mem_cons.1 hn with rfl | hn
      · omega
      · have := hm n hn; omega
  obtain ⟨m, hm⟩ := this p h.pos
  exact ⟨m, h.len, h.pos, hm⟩
theorem true_sum : ∀ (p : List Int) (i : Nat), maskS (fun _ => true) i p = p.sum
  | [], _ => rfl
  | x :: p, i => by rw [maskS, List.sum_cons, true_sum p]; rfl
/-- the distances of pieces, the farthest first -/
def distF (f : Floor) : List SLine → List Int
  | [] => []
  | x :: l => distF f l ++ List.replicate x.many.toNat (farF f x)
end Go.Proofs.YtomgnpfpaodpiaaDoor
/- The specification's steps and seconds are the program's. -/
namespace Go.Proofs.YtomgnpfpaodpiaaDoor
open Go Go.RowKit
theorem shelf_sorted {n : Int} {l : List SLine} (h : linesR n l = true) : l.Pairwise (fun x y => x.shelf < y.shelf) := by
  have step : ∀ (k : Nat) (x y : SLine), l[k]? = some x → l[k + 1]? = some y → x.shelf < y.shelf := fun k x y hx hy => by
    have hk := (List.getElem?_eq_some_iff.1 hy).1
    unfold linesR at h
    rw [List.all_eq_true] at h
    have := h (k + 1) (List.mem_range.2 hk)
    rw [goodLine_ref hy, Bool.and_eq_true, nextF_succ hx] at this
    have := hasB_iff.1 this.1
    omega
  rw [List.pairwise_iff_getElem]
  intro i j hi hj hij
  have key : ∀ d : Nat, (hd : i + 1 + d < l.length) → l[i].shelf < l[i + 1 + d].shelf := by
    intro d
    induction d with
    | zero => intro hd; exact step i _ _ (List.getElem?_eq_getElem hi) (List.getElem?_eq_getElem hd)
    | succ d ih =>
      intro hd
      have h1 := ih (by omega)
      have h2 := step (i + 1 + d) _ _ (List.getElem?_eq_getElem (by omega)) (List.getElem?_eq_getElem hd)
      exact Int.lt_trans h1 h2
  have := key (j - i - 1) (by omega)
  have e : i + 1 + (j - i - 1) = j := by omega
  simp only [e] at this
  exact this
theorem cntL_nonneg (j : Nat) : ∀ l : List SLine, (∀ x ∈ l, 0 ≤ x.many) → 0 ≤ cntL j l
  | [], _ => Int.le_refl _
  | x :: l, h => by
    have h1 := h x (by simp)
    have h2 := cntL_nonneg j l (fun y hy => h y (by simp [hy]))
    have e : cntL j (x :: l) = (if x.shelf.toNat = j then x.many else 0) + cntL j l := by simp [cntL]
    rw [e]
    split <;> omega
end Go.Proofs.YtomgnpfpaodpiaaDoor
/- Contract of the specification's byOne. -/
namespace Go.Proofs.YtomgnpfpaodpiaaDoor
open Go Go.RowKit
set_option maxHeartbeats 4000000
def tillQ (f : Floor) (i : Nat) : Int := ((f.slips[i]?).map SSlip.till).getD 0
/-- of the first slips of a set the one that must be done soonest -/
def nextQ (f : Floor) (m : Nat) : Nat → Option Nat
  | 0 => none
  | i + 1 => if m.testBit i then (match nextQ f m i with | none => some i | some j => if tillQ f i < tillQ f j then some i else some j) else nextQ f m i
def byQ (f : Floor) : Nat → Nat → Int → Bool
  | 0, _, _ => true
  | k + 1, m, now => if m = 0 then true else match nextQ f m f.slips.length with | none => true | some s => if tillQ f s < now + (tkF f s).2 then false else byQ f k (m - 2 ^ s) (now + (tkF f s).2)
def nextV (o : Option Nat) : Int := match o with | none => -1 | some s => s
end Go.Proofs.YtomgnpfpaodpiaaDoor
/- What one picker can do in time: the specification's byOne is the order of the desk. -/
namespace Go.Proofs.YtomgnpfpaodpiaaDoor
open Go Go.RowKit
set_option maxHeartbeats 2000000
/-- which sets of slips one picker has in time -/
def aloneQ (f : Floor) (m : Nat) : Bool := byQ f m m 0
/-- how few pickers have a set of slips in time, as the specification counts them -/
def fewQ (f : Floor) (m : Nat) : Int := PM.fewG (aloneQ f) m
end Go.Proofs.YtomgnpfpaodpiaaDoor
/- The lists of a roster: who has what, in time; when each slip is done. Plain mathematics. -/
namespace Go.Proofs.YtomgnpfpaodpiaaDoor
open Go Go.RowKit
set_option maxHeartbeats 2000000
theorem natsC_mem {l : List Nat} {x : Int} : x ∈ natsC l ↔ ∃ s ∈ l, (s : Int) = x := by
  unfold natsC
  rw [List.mem_map]
/- when slips are done -/
def sumT (tk : Int → Int × Int) (t : Int × Int) (l : List Int) : Int × Int := l.foldl (fun t x => addS t (tk x)) t
end Go.Proofs.YtomgnpfpaodpiaaDoor
/- The specification's fewest pickers, late slips and least Until are the program's. Plain mathematics. -/
namespace Go.Proofs.YtomgnpfpaodpiaaDoor
open Go Go.RowKit
set_option maxHeartbeats 2000000
/-- the least number of pickers, as the specification tells it -/
def manyQ (f : Floor) : Int := max 1 (fewQ f (allF f))
def PickersV (f : Floor) : Int × Int := if checkV f = 0 then (if 5 < manyQ f then (0, 4) else (manyQ f, 0)) else (0, checkV f)
theorem few_below {f : Floor} {p : Nat} (h : fewF f = some p) : ∀ j, 1 ≤ j → j < p → canF f j (allF f) = false := by
  intro j h1 hj
  obtain ⟨p1, p5, _⟩ := few_can h
  cases hc : canF f j (allF f) with
  | false => rfl
  | true =>
    exfalso
    unfold fewF at h
    rw [List.find?_eq_some_iff_append] at h
    obtain ⟨_, l1, l2, he, hall⟩ := h
    have : j ∈ l1 := by
      obtain rfl | rfl | rfl | rfl | rfl : p = 1 ∨ p = 2 ∨ p = 3 ∨ p = 4 ∨ p = 5 := by omega
      all_goals
        rcases l1 with _ | ⟨a1, _ | ⟨a2, _ | ⟨a3, _ | ⟨a4, _ | ⟨a5, l1⟩⟩⟩⟩⟩ <;> simp at he ⊢ <;> omega
    have := hall j this
    rw [hc] at this
    simp at this
theorem few_no {f : Floor} (h : fewF f = none) : ∀ j, 1 ≤ j → j ≤ 5 → canF f j (allF f) = false := by
  intro j h1 hj
  unfold fewF at h
  rw [List.find?_eq_none] at h
  have := h j (by obtain rfl | rfl | rfl | rfl | rfl : j = 1 ∨ j = 2 ∨ j = 3 ∨ j = 4 ∨ j = 5 := by omega
                  all_goals simp)
  simpa using this
/- late slips -/
def lateM (f : Floor) (m : Nat) : List Int := natsC (membersK m f.slips.length)
def passQ (f : Floor) (p : Int) (best : List Int) (m : Nat) : List Int := if decide (fewQ f (allF f - m) ≤ p) && PM.prefB (lateM f m) best then lateM f m else best
def lateQ (f : Floor) (p : Int) : List Int := (List.range (allF f + 1)).foldl (passQ f p) (lateM f (allF f))
def rLateV (f : Floor) (n : Int) : List Int × Int := if checkV f = 0 then (if hasB 1 5 n then (lateQ f n, 0) else ([], 31)) else ([], checkV f)
theorem membersK_mem (m s : Nat) : ∀ n : Nat, s ∈ membersK m n ↔ s < n ∧ m.testBit s = true
  | 0 => by simp [show membersK m 0 = [] from rfl]
  | n + 1 => by
    rw [membersK_succ, List.mem_append, membersK_mem m s n]
    cases hb : m.testBit n with
    | false =>
      simp only [Bool.false_eq_true, if_false, List.not_mem_nil, or_false]
      constructor
      · rintro ⟨h1, h2⟩; exact ⟨by omega, h2⟩
      · rintro ⟨h1, h2⟩
        have : s ≠ n := fun e => by subst e; rw [hb] at h2; cases h2
        exact ⟨by omega, h2⟩
    | true =>
      simp only [if_true, List.mem_singleton]
      constructor
      · rintro (⟨h1, h2⟩ | rfl)
        · exact ⟨by omega, h2⟩
        · exact ⟨by omega, hb⟩
      · rintro ⟨h1, h2⟩
        by_cases e : s = n
        · exact .inr e
        · exact .inl ⟨by omega, h2⟩
theorem membersK_lt (m : Nat) : ∀ n : Nat, (membersK m n).Pairwise (· < ·)
  | 0 => by simp [show membersK m 0 = [] from rfl]
  | n + 1 => by
    rw [membersK_succ, List.pairwise_append]
    refine ⟨membersK_lt m n, by cases m.testBit n <;> simp, fun a ha b hb => ?_⟩
    have h1 := ((membersK_mem m a n).1 ha).1
    cases h : m.testBit n with
    | false => rw [h] at hb; simp at hb
    | true => rw [h] at hb; simp at hb; omega
/-- strictly increasing lists with the same members are the same -/
theorem lt_unique : ∀ {a b : List Int}, a.Pairwise (· < ·) → b.Pairwise (· < ·) → (∀ x, x ∈ a ↔ x ∈ b) → a = b := by
  intro a
  induction a with
  | nil =>
    intro b _ _ h
    cases b with
    | nil => rfl
    | cons y b => exact absurd ((h y).2 (by simp)) (by simp)
  | cons x a ih =>
    intro b ha hb h
    cases b with
    | nil => exact absurd ((h x).1 (by simp)) (by simp)
    | cons y b =>
      obtain ⟨a1, a2⟩ := List.pairwise_cons.1 ha
      obtain ⟨b1, b2⟩ := List.pairwise_cons.1 hb
      have hxy : x = y := by
        have h1 := (h x).1 (by simp)
        have h2 := (h y).2 (by simp)
        rcases List.mem_cons.1 h1 with e | h1
        · exact e
        · rcases List.mem_cons.1 h2 with e | h2
          · exact e.symm
          · have := a1 y h2; have := b1 x h1; omega
      subst hxy
      congr 1
      refine ih a2 b2 fun z => ?_
      constructor
      · intro hz
        rcases List.mem_cons.1 ((h z).1 (by simp [hz])) with e | hz2
        · subst e; have := a1 z hz; omega
        · exact hz2
      · intro hz
        rcases List.mem_cons.1 ((h z).2 (by simp [hz])) with e | hz2
        · subst e; have := b1 z hz; omega
        · exact hz2
theorem nats_lt {l : List Nat} (h : l.Pairwise (· < ·)) : (natsC l).Pairwise (· < ·) := by
  unfold natsC
  rw [List.pairwise_map]
  exact h.imp (fun h => by show (_ : Int) < _; omega)
theorem slips_lt (f : Floor) : (slipsF f).Pairwise (· < ·) := nats_lt List.pairwise_lt_range
theorem slips_mem (f : Floor) (x : Int) : x ∈ slipsF f ↔ 0 ≤ x ∧ x < f.slips.length := by
  unfold slipsF
  rw [List.mem_map]
  constructor
  · rintro ⟨s, hs, rfl⟩
    rw [List.mem_range] at hs
    exact ⟨Int.natCast_nonneg s, by show (s : Int) < _; omega⟩
  · rintro ⟨h0, h1⟩
    exact ⟨x.toNat, List.mem_range.2 (by omega), by show ((x.toNat : Nat) : Int) = x; omega⟩
theorem toNat_nats (l : List Nat) : (natsC l).map Int.toNat = l := by
  unfold natsC
  rw [List.map_map]
  exact (List.map_congr_left (fun s _ => by simp)).trans (List.map_id l)
theorem late_set {f : Floor} {m : Nat} (hm : ∀ i, m.testBit i = true → i < f.slips.length) : setF ((lateM f m).map Int.toNat) = m := by
  rw [lateM, toNat_nats]
  apply Nat.eq_of_testBit_eq
  intro i
  rw [PM.setF_bit]
  cases hb : m.testBit i with
  | true => rw [decide_eq_true_eq, membersK_mem]; exact ⟨hm i hb, hb⟩
  | false => rw [decide_eq_false_iff_not, membersK_mem, hb]; simp
theorem le_bits {f : Floor} {m : Nat} (hm : m ≤ allF f) : ∀ i, m.testBit i = true → i < f.slips.length := fun i hi => by
  apply Classical.byContradiction
  intro hn
  have h1 : m < 2 ^ f.slips.length := by have := Nat.two_pow_pos f.slips.length; unfold allF at hm; omega
  rw [Nat.testBit_lt_two_pow (Nat.lt_of_lt_of_le h1 (Nat.pow_le_pow_right (by omega) (by omega)))] at hi
  cases hi
theorem late_all (f : Floor) : lateM f (allF f) = slipsF f := by
  refine lt_unique (nats_lt (membersK_lt _ _)) (slips_lt f) fun x => ?_
  rw [lateM, natsC_mem, slips_mem]
  constructor
  · rintro ⟨s, hs, rfl⟩
    have := ((membersK_mem _ s _).1 hs).1
    omega
  · rintro ⟨h0, h1⟩
    exact ⟨x.toNat, (membersK_mem _ _ _).2 ⟨by omega, by rw [all_bit, decide_eq_true_eq]; omega⟩, by omega⟩
theorem can_late {f : Floor} {p m : Nat} (hm : m ≤ allF f) : canLess f p (lateM f m) = canF f p (lessF (allF f) m) := by
  rw [canLess, late_set (le_bits hm)]
/-- whoever is late, by the program, is the best of all that can be -/
theorem late_top {f : Floor} (p : Nat) : PM.Best (fun y => y.Sublist (slipsF f)) (canLess f p) (lateF f p) := by
  have hlen : (slipsF f).length = f.slips.length := by unfold slipsF; simp
  have hP : canLess f p (slipsF f) = true := by
    rw [← late_all, can_late (Nat.le_refl _), PM.less_self]
    exact can_zero f p
  have h2 := PM.late_best (canLess f p) (slipsF f) (slips_lt f) hP
  have : lateF f p = PM.lateG (canLess f p) (slipsF f).length (slipsF f) := by
    rw [hlen]
    rfl
  rw [this]
  exact h2
/- the least Until -/
/-- what the specification's Spare answers -/
def SpareQ (f : Floor) (n v c : Int) : Prop :=
  (checkSlipV f n ≠ 0 ∧ v = 0 ∧ c = checkSlipV f n) ∨ (checkSlipV f n = 0 ∧ 5 < manyQ f ∧ v = 0 ∧ c = 4) ∨
    (checkSlipV f n = 0 ∧ c = 0 ∧ ∃ (k p t r : Nat) (s : SSlip), n = k ∧ f.slips[k]? = some s ∧ s.till = t ∧ manyQ f = p ∧ p ≤ 5 ∧ v = r ∧ r ≤ t ∧ (∀ j : Nat, r = j + 1 → fewQ (tillF f k j) (allF f) ≤ (p : Int) → False) ∧ (r < t → fewQ (tillF f k r) (allF f) ≤ (p : Int)))
end Go.Proofs.YtomgnpfpaodpiaaDoor
/- Rosters as lists, on other slips, and of some slips alone: plain mathematics. -/
namespace Go.Proofs.YtomgnpfpaodpiaaDoor
open Go Go.RowKit
set_option maxHeartbeats 2000000
theorem PM.fit_rows {sec till : Nat → Int} : ∀ (p m : Nat), PM.Fit sec till p m ↔ ∃ rows : List (List Nat), rows.length = p ∧ (∀ r ∈ rows, PM.inT sec till 0 r) ∧ rows.flatten.Nodup ∧ ∀ s, s ∈ rows.flatten ↔ m.testBit s = true
  | 0, m => by
    constructor
    · intro h
      obtain rfl : m = 0 := h
      exact ⟨[], rfl, by simp, by simp, by simp⟩
    · rintro ⟨rows, h1, _, _, h4⟩
      obtain rfl := List.length_eq_zero_iff.1 h1
      show m = 0
      apply Nat.eq_of_testBit_eq
      intro i
      rw [Nat.zero_testBit]
      cases hb : m.testBit i with
      | false => rfl
      | true => have := (h4 i).2 hb; simp at this
  | p + 1, m => by
    constructor
    · rintro ⟨l, h1, h2, h3, h4⟩
      obtain ⟨rows, g1, g2, g3, g4⟩ := (PM.fit_rows p _).1 h4
      refine ⟨l :: rows, by simp [g1], fun r hr => ?_, ?_, fun s => ?_⟩
      · rcases List.mem_cons.1 hr with rfl | hr
        · exact h3
        · exact g2 r hr
      · rw [List.flatten_cons, List.nodup_append]
        refine ⟨h1, g3, fun a ha b hb hab => ?_⟩
        subst hab
        have := (g4 a).1 hb
        rw [PM.less_bit, PM.setF_bit] at this
        simp [ha] at this
      · rw [List.flatten_cons, List.mem_append, g4, PM.less_bit, PM.setF_bit]
        constructor
        · rintro (h | h)
          · exact h2 s h
          · rw [Bool.and_eq_true] at h; exact h.1
        · intro h
          by_cases hs : s ∈ l
          · exact .inl hs
          · exact .inr (by simp [h, hs])
    · rintro ⟨rows, h1, h2, h3, h4⟩
      obtain ⟨l, rows, rfl⟩ : ∃ l r, rows = l :: r := by
        cases rows with
        | nil => simp at h1
        | cons l r => exact ⟨l, r, rfl⟩
      rw [List.flatten_cons, List.nodup_append] at h3
      simp only [List.flatten_cons, List.mem_append] at h4
      refine ⟨l, h3.1, fun s hs => (h4 s).1 (.inl hs), h2 l (by simp), (PM.fit_rows p _).2 ⟨rows, by simpa using h1, fun r hr => h2 r (by simp [hr]), h3.2.1, fun s => ?_⟩⟩
      rw [PM.less_bit, PM.setF_bit]
      constructor
      · intro hs
        have h5 := (h4 s).1 (.inr hs)
        have h6 : s ∉ l := fun hl => h3.2.2 s hl s hs rfl
        simp [h5, h6]
      · intro h
        rw [Bool.and_eq_true] at h
        rcases (h4 s).2 h.1 with hl | hr
        · simp [hl] at h
        · exact hr
theorem PM.inT_image {sec till sec' till' : Nat → Int} {φ : Nat → Nat} : ∀ (l : List Nat) (t t' : Int), t ≤ t' → (∀ s ∈ l, sec (φ s) ≤ sec' s ∧ till' s ≤ till (φ s)) → PM.inT sec' till' t' l → PM.inT sec till t (l.map φ)
  | [], _, _, _, _, _ => trivial
  | s :: l, t, t', ht, h, k => by
    have h1 := h s (by simp)
    obtain ⟨k1, k2⟩ := k
    refine ⟨by omega, PM.inT_image l _ _ (by omega) (fun r hr => h r (by simp [hr])) k2⟩
theorem map_nodup {α β : Type} {φ : α → β} {l : List α} (h : l.Nodup) (k : ∀ a ∈ l, ∀ b ∈ l, φ a = φ b → a = b) : (l.map φ).Nodup := by
  rw [List.Nodup, List.pairwise_map]
  exact List.Pairwise.imp_of_mem (fun {a b} ha hb hab e => hab (k a ha b hb e)) h
/-- a roster of other slips, renumbered, quicker, and with later Untils -/
theorem PM.fit_image {sec till sec' till' : Nat → Int} {φ : Nat → Nat} {p m m' : Nat} (hi : ∀ s t, m'.testBit s = true → m'.testBit t = true → φ s = φ t → s = t) (hs : ∀ s, m'.testBit s = true → sec (φ s) ≤ sec' s ∧ till' s ≤ till (φ s)) (hm : ∀ t, m.testBit t = true ↔ ∃ s, m'.testBit s = true ∧ φ s = t) (h : PM.Fit sec' till' p m') : PM.Fit sec till p m := by
  obtain ⟨rows, g1, g2, g3, g4⟩ := (PM.fit_rows p m').1 h
  have ef : ∀ rows : List (List Nat), (rows.map (List.map φ)).flatten = rows.flatten.map φ := fun rows => by rw [List.map_flatten]
  refine (PM.fit_rows p m).2 ⟨rows.map (List.map φ), by simp [g1], fun r hr => ?_, ?_, fun t => ?_⟩
  · obtain ⟨r0, h0, rfl⟩ := List.mem_map.1 hr
    exact PM.inT_image r0 0 0 (Int.le_refl _) (fun s hs0 => hs s ((g4 s).1 (List.mem_flatten.2 ⟨r0, h0, hs0⟩))) (g2 r0 h0)
  · rw [ef]
    exact map_nodup g3 fun a ha b hb e => hi a b ((g4 a).1 ha) ((g4 b).1 hb) e
  · rw [ef, List.mem_map, hm]
    constructor
    · rintro ⟨s, h1, h2⟩; exact ⟨s, (g4 s).1 h1, h2⟩
    · rintro ⟨s, h1, h2⟩; exact ⟨s, (g4 s).2 h1, h2⟩
/-- some slips alone -/
theorem PM.fit_part {sec till : Nat → Int} (hs : ∀ s, 0 ≤ sec s) {p m m' : Nat} (hp : PM.Part m' m) (h : PM.Fit sec till p m) : PM.Fit sec till p m' := by
  obtain ⟨rows, g1, g2, g3, g4⟩ := (PM.fit_rows p m).1 h
  have ef : ∀ rows : List (List Nat), (rows.map (List.filter fun s => m'.testBit s)).flatten = rows.flatten.filter fun s => m'.testBit s := fun rows => by rw [List.filter_flatten]
  refine (PM.fit_rows p m').2 ⟨rows.map (List.filter fun s => m'.testBit s), by simp [g1], fun r hr => ?_, ?_, fun t => ?_⟩
  · obtain ⟨r0, h0, rfl⟩ := List.mem_map.1 hr
    exact PM.inT_sub hs List.filter_sublist 0 (g2 r0 h0)
  · rw [ef]
    exact g3.sublist List.filter_sublist
  · rw [ef, List.mem_filter, g4]
    exact ⟨fun h => h.2, fun h => ⟨hp t h, h⟩⟩
/-- how many are late: no more than of any others that do -/
theorem late_least {f : Floor} {p : Nat} {y : List Int} (h1 : y.Sublist (slipsF f)) (h2 : canLess f p y = true) : (lateF f p).length ≤ y.length := by
  have := (late_top (f := f) p).first y h1 h2
  cases hb : decide (y.length < (lateF f p).length) with
  | true =>
    exfalso
    unfold PM.prefB at this
    rw [hb] at this
    simp at this
  | false => simpa using hb
theorem less_late {f : Floor} {y : List Int} (i : Nat) : (lessF (allF f) (setF (y.map Int.toNat))).testBit i = true ↔ i < f.slips.length ∧ i ∉ y.map Int.toNat := by
  rw [PM.less_bit, all_bit, PM.setF_bit]
  simp
/-- an easier floor, of the same slips, or the first of them -/
structure Easier (f x : Floor) : Prop where
  vf : validB f = true
  vx : validB x = true
  len : x.slips.length ≤ f.slips.length
  sec : ∀ s, s < x.slips.length → secF x s ≤ secF f s
  due : ∀ s, s < x.slips.length → dueF f s ≤ dueF x s
theorem Easier.fit {f x : Floor} (h : Easier f x) {p m m' : Nat} (hm : ∀ t, m.testBit t = true ↔ t < x.slips.length ∧ m'.testBit t = true) (hf : PM.Fit (secF f) (dueF f) p m') : PM.Fit (secF x) (dueF x) p m := by
  have h1 : PM.Fit (secF f) (dueF f) p m := PM.fit_part (sec_nonneg h.vf) (fun t ht => ((hm t).1 ht).2) hf
  exact PM.fit_image (φ := id) (m' := m) (fun s t _ _ e => e) (fun s hs => ⟨h.sec s ((hm s).1 hs).1, h.due s ((hm s).1 hs).1⟩) (fun t => ⟨fun ht => ⟨t, ht, rfl⟩, fun ⟨s, hs, e⟩ => by cases e; exact hs⟩) h1
theorem Easier.can {f x : Floor} (h : Easier f x) {p : Nat} (hc : canF f p (allF f) = true) : canF x p (allF x) = true := by
  rw [can_fit h.vf p _ (all_in f)] at hc
  rw [can_fit h.vx p _ (all_in x)]
  refine h.fit (fun t => ?_) hc
  rw [all_bit, all_bit, decide_eq_true_eq, decide_eq_true_eq]
  have := h.len
  exact ⟨fun k => ⟨k, by omega⟩, fun k => k.1⟩
theorem can_up {f : Floor} (hv : validB f = true) {p q m : Nat} (hm : ∀ i, m.testBit i = true → i < f.slips.length) (hpq : p ≤ q) (h : canF f p m = true) : canF f q m = true := by
  rw [can_fit hv p m hm] at h
  rw [can_fit hv q m hm]
  exact PM.fit_le h hpq
/-- with an easier floor, and no fewer pickers, no more slips are late -/
theorem Easier.late {f x : Floor} (h : Easier f x) {p q : Nat} (hpq : p ≤ q) : (lateF x q).length ≤ (lateF f p).length := by
  obtain ⟨k1, k2, _⟩ := late_top (f := f) p
  have hy : ((lateF f p).filter fun n : Int => decide (n < (x.slips.length : Int))).Sublist (slipsF x) := by
    have h1 : ((lateF f p).filter fun n : Int => decide (n < (x.slips.length : Int))).Sublist ((slipsF f).filter fun n : Int => decide (n < (x.slips.length : Int))) := k1.filter _
    have h2 : (slipsF f).filter (fun n : Int => decide (n < (x.slips.length : Int))) = slipsF x := by
      refine lt_unique ((slips_lt f).sublist List.filter_sublist) (slips_lt x) fun n => ?_
      rw [List.mem_filter, slips_mem, slips_mem, decide_eq_true_eq]
      have := h.len
      omega
    rw [h2] at h1
    exact h1
  have hc : canLess x q ((lateF f p).filter fun n : Int => decide (n < (x.slips.length : Int))) = true := by
    have hin : ∀ i, (lessF (allF x) (setF (((lateF f p).filter fun n : Int => decide (n < (x.slips.length : Int))).map Int.toNat))).testBit i = true → i < x.slips.length := fun i hi => ((less_late i).1 hi).1
    unfold canLess at k2 ⊢
    refine can_up h.vx hin hpq ?_
    rw [can_fit h.vf p _ (fun i hi => ((less_late i).1 hi).1)] at k2
    rw [can_fit h.vx p _ hin]
    refine h.fit (fun t => ?_) k2
    rw [less_late, less_late]
    have hlen := h.len
    constructor
    · rintro ⟨a1, a2⟩
      refine ⟨a1, by omega, fun hm => a2 ?_⟩
      obtain ⟨n, hn, e⟩ := List.mem_map.1 hm
      have hn0 := (slips_mem f n).1 (k1.subset hn)
      exact List.mem_map.2 ⟨n, List.mem_filter.2 ⟨hn, by rw [decide_eq_true_eq]; omega⟩, e⟩
    · rintro ⟨a1, a2, a3⟩
      refine ⟨a1, fun hm => a3 ?_⟩
      obtain ⟨n, hn, e⟩ := List.mem_map.1 hm
      exact List.mem_map.2 ⟨n, (List.mem_filter.1 hn).1, e⟩
  have := late_least hy hc
  have := List.length_filter_le (fun n : Int => decide (n < (x.slips.length : Int))) (lateF f p)
  omega
theorem Easier.refl {f : Floor} (hv : validB f = true) : Easier f f := ⟨hv, hv, Nat.le_refl _, fun _ _ => Int.le_refl _, fun _ _ => Int.le_refl _⟩
/-- and no more pickers are needed -/
theorem Easier.few {f x : Floor} (h : Easier f x) : fewF f = none ∨ ∃ p q, fewF f = some p ∧ fewF x = some q ∧ q ≤ p := by
  cases hf : fewF f with
  | none => exact .inl rfl
  | some p =>
    right
    obtain ⟨p1, p5, hc⟩ := few_can hf
    have hx := h.can hc
    cases hq : fewF x with
    | none =>
      have := few_no hq p p1 p5
      rw [hx] at this; cases this
    | some q =>
      refine ⟨p, q, rfl, rfl, ?_⟩
      apply Classical.byContradiction
      intro hn
      have := few_below hq p p1 (by omega)
      rw [hx] at this; cases this
end Go.Proofs.YtomgnpfpaodpiaaDoor
/- The least Until: what it says of rosters. Plain mathematics. -/
namespace Go.Proofs.YtomgnpfpaodpiaaDoor
open Go Go.RowKit
set_option maxHeartbeats 2000000
end Go.Proofs.YtomgnpfpaodpiaaDoor
/- A floor without some slips: plain mathematics. -/
namespace Go.Proofs.YtomgnpfpaodpiaaDoor
open Go Go.RowKit
set_option maxHeartbeats 2000000
/-- which of the first slips are not in a list -/
def idxK (L : List Int) : Nat → List Nat
  | 0 => []
  | k + 1 => idxK L k ++ (if (k : Int) ∈ L then [] else [k])
def keepK (f : Floor) (L : List Int) (k : Nat) : List SSlip := (idxK L k).filterMap fun i => f.slips[i]?
def leaveF (f : Floor) (L : List Int) (A : Option Addr) (C : Nat) : Floor := { f with sA := A, sC := C, slips := keepK f L f.slips.length }
theorem idxK_mem (L : List Int) (t : Nat) : ∀ k : Nat, t ∈ idxK L k ↔ t < k ∧ (t : Int) ∉ L
  | 0 => by simp [idxK]
  | k + 1 => by
    rw [idxK, List.mem_append, idxK_mem L t k]
    by_cases h : (k : Int) ∈ L
    · rw [if_pos h]
      constructor
      · rintro (⟨h1, h2⟩ | h1)
        · exact ⟨by omega, h2⟩
        · cases h1
      · rintro ⟨h1, h2⟩
        by_cases e : t = k
        · subst e; exact absurd h h2
        · exact .inl ⟨by omega, h2⟩
    · rw [if_neg h, List.mem_singleton]
      constructor
      · rintro (⟨h1, h2⟩ | rfl)
        · exact ⟨by omega, h2⟩
        · exact ⟨by omega, h⟩
      · rintro ⟨h1, h2⟩
        by_cases e : t = k
        · exact .inr e
        · exact .inl ⟨by omega, h2⟩
theorem idxK_len (L : List Int) : ∀ k : Nat, (idxK L k).length ≤ k
  | 0 => by simp [idxK]
  | k + 1 => by
    have := idxK_len L k
    rw [idxK, List.length_append]
    split <;> simp <;> omega
theorem filterMap_some {α β : Type} (g : α → Option β) : ∀ (l : List α), (∀ a ∈ l, (g a).isSome = true) → ∀ j : Nat, (l.filterMap g)[j]? = (l[j]?).bind g
  | [], _, j => by simp
  | a :: l, h, j => by
    obtain ⟨b, hb⟩ := Option.isSome_iff_exists.1 (h a (by simp))
    rw [List.filterMap_cons_some hb]
    cases j with
    | zero => simp [hb]
    | succ j => simpa using filterMap_some g l (fun x hx => h x (by simp [hx])) j
theorem keepK_at {f : Floor} {L : List Int} {k : Nat} (hk : k ≤ f.slips.length) (j : Nat) : (keepK f L k)[j]? = ((idxK L k)[j]?).bind fun i => f.slips[i]? :=
  filterMap_some _ _ (fun a ha => by
    have := ((idxK_mem L a k).1 ha).1
    rw [List.getElem?_eq_getElem (by omega)]
    rfl) j
theorem keepK_len {f : Floor} {L : List Int} {k : Nat} (hk : k ≤ f.slips.length) : (keepK f L k).length = (idxK L k).length := by
  apply Nat.le_antisymm
  · exact List.length_filterMap_le _ _
  · apply Classical.byContradiction
    intro hn
    have h1 := keepK_at hk (L := L) (keepK f L k).length
    rw [List.getElem?_eq_none (Nat.le_refl _), List.getElem?_eq_getElem (by omega)] at h1
    have := ((idxK_mem L _ k).1 (List.getElem_mem (show (keepK f L k).length < (idxK L k).length by omega))).1
    simp only [Option.bind_some] at h1
    rw [List.getElem?_eq_getElem (by omega)] at h1
    cases h1
theorem keepK_succ {f : Floor} {L : List Int} {k : Nat} {s : SSlip} (hs : f.slips[k]? = some s) : keepK f L (k + 1) = keepK f L k ++ (if (k : Int) ∈ L then [] else [s]) := by
  unfold keepK
  rw [idxK, List.filterMap_append]
  congr 1
  split
  · rfl
  · simp [hs]
theorem keepK_mem {f : Floor} {L : List Int} {k : Nat} {s : SSlip} (h : s ∈ keepK f L k) : s ∈ f.slips := by
  unfold keepK at h
  obtain ⟨i, _, hi⟩ := List.mem_filterMap.1 h
  exact List.mem_of_getElem? hi
theorem place_neg (L : List Int) (n : Int) : placeF L n < 0 ↔ n ∉ L := by
  unfold placeF
  cases h : L.findIdx? fun e => e == n with
  | none =>
    rw [List.findIdx?_eq_none_iff] at h
    simp only
    constructor
    · intro _ hm
      have := h n hm
      simp at this
    · intro _; omega
  | some k =>
    simp only
    constructor
    · intro hk; omega
    · intro hm
      exfalso
      obtain ⟨hk, hp, _⟩ := List.findIdx?_eq_some_iff_getElem.1 h
      exact hm (by have : L[k] = n := by simpa using hp
                   rw [← this]; exact List.getElem_mem hk)
end Go.Proofs.YtomgnpfpaodpiaaDoor
/- Contract of the law's until: a floor in which a slip has another Until. -/
namespace Go.Proofs.YtomgnpfpaodpiaaDoor
open Go Go.RowKit
set_option maxHeartbeats 4000000
theorem own_some {w : World} {base n sz : Nat} {e : TypeId} {v : Value} {xs : List Value} (h : w.ownsRow base e sz v n xs) (h0 : 0 < n) : ∃ g cap cur, v = .slice (some ⟨g, 0, none⟩) n cap ∧ base ≤ g ∧ w.heap[g]? = some (.cells cur e (0, 0)) ∧ n ≤ cap ∧ cap ≤ maxLen ∧ cur.size = cap * sz ∧ cur.toList.take (n * sz) = xs := by
  rcases h.2 with ⟨_, e0⟩ | ⟨g, c, cur, rfl, g1, g2, g3, g4, g5, g6⟩
  · omega
  · exact ⟨g, c, cur, rfl, g1, g2, g3, g4, g5, g6⟩
set_option maxRecDepth 100000 in
theorem until_any (f : Floor) (k : Nat) (s : SSlip) (hs : f.slips[k]? = some s) (h9 : f.slips.length ≤ 9) (u : Int) (w : World) (h : FloorAt w w.heap.size f) :
    Calls Tryd.prog 48 #[f.val, vi k, vi u] w fun e w' => ∃ g c, e = .returned (withF f (some ⟨g, 0, none⟩) c k u).val ∧ FloorAt w' w'.heap.size (withF f (some ⟨g, 0, none⟩) c k u) ∧ Below w.heap.size w w' := by
  obtain ⟨i0, hi, hy0, hy1, hy2⟩ := info_parts info_slip
  have hk := (List.getElem?_eq_some_iff.1 hs).1
  have HF := Lib.hid h
  have HWR := Lib.hid (fun (w' : World) (g c : Nat) (rest : List Value) (hb : Below w.heap.size w w') hx hc hm => with_rows (k := k) (u := u) (rest := rest) (g := g) (c := c) h hb hx hc hm h9)
  have hat := flatSl_at f.slips k s hs
  have HAT := Lib.hid hat
  have HSET := Lib.hid (flatSl_set f.slips k u hk)
  have HLEN := Lib.hid (flatSl_len f.slips)
  obtain ⟨sb, so, hsA, hsb, s0, s1⟩ := row2 h.slips.row hs rfl
  have HS0 := Lib.hid s0
  have hkI : (k : Int) < f.slips.length := by omega
  have h0k : (0 : Int) ≤ k := by omega
  have hle := h.slips.lens
  have hnews := row_cells (b := sb) (off := so) (by have := h.slips.row; rwa [hsA] at this) (slips_two f.slips) (by omega) (by simp; omega)
  have HN := Lib.hid hnews
  have hfl : (f.slips.map SSlip.cells).flatten.length = f.slips.length * 2 := by rw [flat_len _ (slips_two f.slips)]; simp
  have HFL := Lib.hid hfl
  have E : Hid (∀ (g c : Nat), (withF f (some ⟨g, 0, none⟩) c k u).val = .agg #[.slice f.fA f.far.length f.fC, vi f.slo, vi f.shi, .slice f.pA f.picks.length f.pC, vi f.carry, .slice (some ⟨g, 0, none⟩) f.slips.length c]) := fun g c => by simp [withF]
  obtain ⟨WF, hWF⟩ : ∃ WF : Nat → Nat → Floor, WF = fun g c => withF f (some ⟨g, 0, none⟩) c k u := ⟨_, rfl⟩
  have eW : ∀ g c, withF f (some ⟨g, 0, none⟩) c k u = WF g c := fun g c => by rw [hWF]
  simp only [eW] at HWR E ⊢
  obtain ⟨SL, hSL⟩ : ∃ SL, SL = flatSl (f.slips.modify k fun s => { s with till := u }) := ⟨_, rfl⟩
  rw [← hSL] at HSET
  have HWR2 : Hid (∀ (w' : World) (g c : Nat) (rest : List Value), Below w.heap.size w w' → CellsBox w' g 52 (SL ++ rest) → f.slips.length ≤ c → c ≤ maxLen → FloorAt w' w'.heap.size (WF g c)) := fun w' g c rest h1 h2 h3 h4 => HWR.out w' g c rest h1 (by rw [← hSL]; exact h2) h3 h4
  clear h hs hat hnews hfl s0 s1 hWF eW hSL HWR
  obtain ⟨sa, sc, sl, st⟩ := s
  obtain ⟨fA, fC, ff, slo, shi, pA, pC, fp, fc, sA, sC, fs⟩ := f
  simp only at hsA
  subst hsA
  simp only [SSlip.slice] at HAT HS0
  simp only at HF HWR2 HAT HSET HLEN HN HFL E h9 hk hkI hle ⊢
  have hb0 := below1 w (.cells #[.slice fA ff.length fC, vi slo, vi shi, .slice pA fp.length pC, vi fc, .slice (some ⟨sb, so, none⟩) fs.length sC] 28)
  have X0 := CellsBox.new w 28 [.slice fA ff.length fC, vi slo, vi shi, .slice pA fp.length pC, vi fc, .slice (some ⟨sb, so, none⟩) fs.length sC]
  have hb1 := hb0.alloc hb0.size (.cells #[.slice none 0 0, vi 0, vi 0, .slice none 0 0, vi 0, .slice none 0 0] 28)
  have X1 := X0.alloc (.cells #[.slice none 0 0, vi 0, vi 0, .slice none 0 0, vi 0, .slice none 0 0] 28)
  have R1 := CellsBox.new (w.alloc (.cells #[.slice fA ff.length fC, vi slo, vi shi, .slice pA fp.length pC, vi fc, .slice (some ⟨sb, so, none⟩) fs.length sC] 28)) 28 [.slice none 0 0, vi 0, vi 0, .slice none 0 0, vi 0, .slice none 0 0]
  have hb2 := hb1.alloc hb1.size (.cells #[.slice fA ff.length fC, vi slo, vi shi, .slice pA fp.length pC, vi fc, .slice (some ⟨sb, so, none⟩) fs.length sC] 28)
  have X2 := X1.alloc (.cells #[.slice fA ff.length fC, vi slo, vi shi, .slice pA fp.length pC, vi fc, .slice (some ⟨sb, so, none⟩) fs.length sC] 28)
  have R2 := R1.alloc (.cells #[.slice fA ff.length fC, vi slo, vi shi, .slice pA fp.length pC, vi fc, .slice (some ⟨sb, so, none⟩) fs.length sC] 28)
  have Y2 := CellsBox.new ((w.alloc (.cells #[.slice fA ff.length fC, vi slo, vi shi, .slice pA fp.length pC, vi fc, .slice (some ⟨sb, so, none⟩) fs.length sC] 28)).alloc (.cells #[.slice none 0 0, vi 0, vi 0, .slice none 0 0, vi 0, .slice none 0 0] 28)) 28 [.slice fA ff.length fC, vi slo, vi shi, .slice pA fp.length pC, vi fc, .slice (some ⟨sb, so, none⟩) fs.length sC]
  show Calls Tryd.prog 48 #[.agg #[.slice fA ff.length fC, vi slo, vi shi, .slice pA fp.length pC, vi fc, .slice (some ⟨sb, so, none⟩) fs.length sC], vi k, vi u] w _
  go_enter Tryd.func48, Tryd.ntmps48
  go_upto_region 2 with fail
  refine (?_ : ∀ W3 : World, CellsBox W3 w.heap.size 28 [.slice fA ff.length fC, vi slo, vi shi, .slice pA fp.length pC, vi fc, .slice (some ⟨sb, so, none⟩) fs.length sC] → CellsBox W3 (w.heap.size + 1) 28 [.slice none 0 0, vi 0, vi 0, .slice none 0 0, vi 0, .slice none 0 0] → CellsBox W3 (w.heap.size + 1 + 1) 28 [.slice fA ff.length fC, vi slo, vi shi, .slice pA fp.length pC, vi fc, .slice (some ⟨sb, so, none⟩) fs.length sC] → Below w.heap.size w W3 → Code.wp _ _ _ _ W3) _ X2 (by simpa using R2) (by simpa using Y2) hb2
  clear hb0 hb1 hb2 X0 X1 X2 R1 R2 Y2
  intro W3 X R Y HB
  have a5 := X.cell (j := 5) rfl
  have za := X.lt
  have hz := HB.size
  have z2 := Y.lt
  have HX := Lib.hid X
  have HR := Lib.hid R
  have HY := Lib.hid Y
  have HN3 := Lib.hid (fun j u hj => HB.cell (p := (⟨sb, so, none⟩ : Addr).add j) (by unfold Addr.add; split <;> exact hsb) |>.trans (HN.out j u hj))
  have y0 := Y.frozen 5
  have hn0 : 0 < fs.length := by omega
  clear X R Y
  go_wp2_with (at_builtin; go_loud (refine wpList_append_own _ rfl _ _ 26 rfl W3.heap.size 52 i0 (.agg #[.slice none 0 0, vi 0]) 2 32 Tryd.underlying26 hi hy0 hy1 hy2 rfl (by decide) _ _ _ rfl (own_empty W3 _ _) ⟨sb, so, none⟩ fs.length sC (fs.map SSlip.cells).flatten rfl HFL.out (fun j u hj => cell_alloc (HN3.out j u hj) _) (by intro u hu; simp only [List.mem_flatten, List.mem_map] at hu; obtain ⟨r, ⟨s, _, rfl⟩, hu⟩ := hu; simp only [SSlip.cells, List.mem_cons, List.mem_nil_iff, or_false] at hu; rcases hu with rfl | rfl <;> rfl) (by unfold maxLen; omega) (by omega) (by simp) ?_; intro v5 w5 hown5 hgrow5 _; have HB5 : Below W3.heap.size W3 w5 := Below.grown ((Below.refl W3.heap.size W3).alloc (Nat.le_refl _) _) hgrow5 (by simp) (fun k e => by (have e2 : some W3.heap.size = some k := e; cases e2; exact Nat.le_refl _)); rw [Nat.zero_add, List.nil_append] at hown5; obtain ⟨g, c, cur, rfl, g1, g2, g3, g4, g5, g6⟩ := own_some hown5 hn0; have Y5 := HY.out.keep HB5; have c5 := Y5.cell (j := 5) rfl; have f5 := Y5.frozen 5; have z5 := Y5.lt))
  have XG : CellsBox w5 g 52 (flatSl fs ++ cur.toList.drop (fs.length * 2)) := by
    unfold CellsBox
    rw [g2]
    have e : flatSl fs ++ cur.toList.drop (fs.length * 2) = cur.toList := by
      have : flatSl fs = cur.toList.take (fs.length * 2) := by rw [g6, flatSl, List.flatMap_def]
      rw [this, List.take_append_drop]
    rw [e]
  obtain ⟨rest, hrest⟩ : ∃ rest, rest = cur.toList.drop (fs.length * 2) := ⟨_, rfl⟩
  rw [← hrest] at XG
  have ng0 : g ≠ w.heap.size := by omega
  have ng1 : g ≠ w.heap.size + 1 := by omega
  have ng2 : g ≠ w.heap.size + 1 + 1 := by omega
  have PX := ((HX.out.keep HB5).apart ⟨w.heap.size + 1 + 1, 5, none⟩ (.slice (some ⟨g, 0, none⟩) fs.length c) (by simp only; omega))
  have PR := ((HR.out.keep HB5).apart ⟨w.heap.size + 1 + 1, 5, none⟩ (.slice (some ⟨g, 0, none⟩) fs.length c) (by simp only; omega))
  have PY := (Y5.store 5 (.slice (some ⟨g, 0, none⟩) fs.length c))
  have PG := (XG.apart ⟨w.heap.size + 1 + 1, 5, none⟩ (.slice (some ⟨g, 0, none⟩) fs.length c) (by simp only; omega))
  have PB := ((HB.trans (HB5.mono hz)).setCell (p := ⟨w.heap.size + 1 + 1, 5, none⟩) (by simp only; omega) (.slice (some ⟨g, 0, none⟩) fs.length c))
  have hwg : w.heap.size ≤ g := by omega
  clear hown5 hgrow5 c5 f5 z5 Y5 XG g1 g2 g5 g6 hrest HX HR HY HN3 HB HB5 a5 za y0 z2 HN HFL
  refine (?_ : ∀ W6 : World, CellsBox W6 w.heap.size 28 [.slice fA ff.length fC, vi slo, vi shi, .slice pA fp.length pC, vi fc, .slice (some ⟨sb, so, none⟩) fs.length sC] → CellsBox W6 (w.heap.size + 1) 28 [.slice none 0 0, vi 0, vi 0, .slice none 0 0, vi 0, .slice none 0 0] → CellsBox W6 (w.heap.size + 1 + 1) 28 [.slice fA ff.length fC, vi slo, vi shi, .slice pA fp.length pC, vi fc, .slice (some ⟨g, 0, none⟩) fs.length c] → CellsBox W6 g 52 (flatSl fs ++ rest) → Below w.heap.size w W6 → Code.wp _ _ _ _ W6) _ PX PR PY PG PB
  clear PX PR PY PG PB
  intro W6 X R Y G HB
  have a5 := X.cell (j := 5) rfl
  have za := X.lt
  have y5 := Y.cell (j := 5) rfl
  have zy := Y.lt
  have s0 : W6.cell? ⟨sb, so + k * 2, none⟩ = some (.slice sa sl.length sc) := (HB.cell hsb).trans HS0.out
  have zs := cell_lt s0
  have g0 : W6.cell? ⟨g, 0 + k * 2, none⟩ = some (.slice sa sl.length sc) := by rw [Nat.zero_add]; exact G.cell (by rw [List.getElem?_append_left (by rw [HLEN.out]; omega)]; exact HAT.out.1)
  have g1 : W6.cell? ⟨g, 0 + (k * 2 + 1), none⟩ = some (vi st) := by rw [Nat.zero_add]; exact G.cell (by rw [List.getElem?_append_left (by rw [HLEN.out]; omega)]; exact HAT.out.2)
  rw [Nat.zero_add] at g0 g1
  have q0 := G.frozen (k * 2)
  have q1 := G.frozen (k * 2 + 1)
  have zg := G.lt
  have NX := (X.apart ⟨g, k * 2, none⟩ (.slice sa sl.length sc) (by simp only; omega)).apart ⟨g, k * 2 + 1, none⟩ (vi u) (by simp only; omega)
  have NR := (R.apart ⟨g, k * 2, none⟩ (.slice sa sl.length sc) (by simp only; omega)).apart ⟨g, k * 2 + 1, none⟩ (vi u) (by simp only; omega)
  have NY := (Y.apart ⟨g, k * 2, none⟩ (.slice sa sl.length sc) (by simp only; omega)).apart ⟨g, k * 2 + 1, none⟩ (vi u) (by simp only; omega)
  have NG := (G.store (k * 2) (.slice sa sl.length sc)).store (k * 2 + 1) (vi u)
  have NB := (HB.setCell (p := ⟨g, k * 2, none⟩) hwg (.slice sa sl.length sc)).setCell (p := ⟨g, k * 2 + 1, none⟩) hwg (vi u)
  have HNN := Lib.hid (And.intro NR (And.intro NY (And.intro NG NB)))
  clear NX NR NY NG NB X R Y G HB
  go_region_with fail
  all_goals
    refine (?_ : ∀ W9 : World, CellsBox W9 (w.heap.size + 1) 28 [.slice none 0 0, vi 0, vi 0, .slice none 0 0, vi 0, .slice none 0 0] → CellsBox W9 (w.heap.size + 1 + 1) 28 [.slice fA ff.length fC, vi slo, vi shi, .slice pA fp.length pC, vi fc, .slice (some ⟨g, 0, none⟩) fs.length c] → CellsBox W9 g 52 (((flatSl fs ++ rest).set (k * 2) (.slice sa sl.length sc)).set (k * 2 + 1) (vi u)) → Below w.heap.size w W9 → Exit.then _ _ _ _ W9) _ HNN.out.1 HNN.out.2.1 HNN.out.2.2.1 (by first | exact HNN.out.2.2.2 | exact HNN.out.2.2.2.drew)
    clear HNN s0 zs g0 g1 q0 q1 zg a5 za y5 zy
    intro W9 R Y G HB
    have r0 := R.cell (j := 0) rfl
    have r1 := R.cell (j := 1) rfl
    have r2 := R.cell (j := 2) rfl
    have r3 := R.cell (j := 3) rfl
    have r4 := R.cell (j := 4) rfl
    have r5 := R.cell (j := 5) rfl
    have q0 := R.frozen 0
    have q1 := R.frozen 1
    have q2 := R.frozen 2
    have q3 := R.frozen 3
    have q4 := R.frozen 4
    have q5 := R.frozen 5
    have zr := R.lt
    have y0 := Y.cell (j := 0) rfl
    have y1 := Y.cell (j := 1) rfl
    have y2 := Y.cell (j := 2) rfl
    have y3 := Y.cell (j := 3) rfl
    have y4 := Y.cell (j := 4) rfl
    have y5 := Y.cell (j := 5) rfl
    have zy := Y.lt
    have NG := Lib.hid ((((((G.apart ⟨w.heap.size + 1, 0, none⟩ (.slice fA ff.length fC) (by simp only; omega)).apart ⟨w.heap.size + 1, 1, none⟩ (vi slo) (by simp only; omega)).apart ⟨w.heap.size + 1, 2, none⟩ (vi shi) (by simp only; omega)).apart ⟨w.heap.size + 1, 3, none⟩ (.slice pA fp.length pC) (by simp only; omega)).apart ⟨w.heap.size + 1, 4, none⟩ (vi fc) (by simp only; omega)).apart ⟨w.heap.size + 1, 5, none⟩ (.slice (some ⟨g, 0, none⟩) fs.length c) (by simp only; omega))
    have NR := Lib.hid ((((((R.store 0 (.slice fA ff.length fC)).store 1 (vi slo)).store 2 (vi shi)).store 3 (.slice pA fp.length pC)).store 4 (vi fc)).store 5 (.slice (some ⟨g, 0, none⟩) fs.length c))
    have NB := Lib.hid ((((((HB.setCell (p := ⟨w.heap.size + 1, 0, none⟩) (by simp only; omega) (.slice fA ff.length fC)).setCell (p := ⟨w.heap.size + 1, 1, none⟩) (by simp only; omega) (vi slo)).setCell (p := ⟨w.heap.size + 1, 2, none⟩) (by simp only; omega) (vi shi)).setCell (p := ⟨w.heap.size + 1, 3, none⟩) (by simp only; omega) (.slice pA fp.length pC)).setCell (p := ⟨w.heap.size + 1, 4, none⟩) (by simp only; omega) (vi fc)).setCell (p := ⟨w.heap.size + 1, 5, none⟩) (by simp only; omega) (.slice (some ⟨g, 0, none⟩) fs.length c))
    clear R Y G HB
    go_wp2_with fail
    refine (?_ : ∀ Z : World, CellsBox Z g 52 (((flatSl fs ++ rest).set (k * 2) (.slice sa sl.length sc)).set (k * 2 + 1) (vi u)) → CellsBox Z (w.heap.size + 1) 28 [.slice fA ff.length fC, vi slo, vi shi, .slice pA fp.length pC, vi fc, .slice (some ⟨g, 0, none⟩) fs.length c] → Below w.heap.size w Z → bodyPost _ _ _ _ _ Z) _ NG.out NR.out NB.out
    clear r0 r1 r2 r3 r4 r5 q0 q1 q2 q3 q4 q5 zr y0 y1 y2 y3 y4 y5 zy NG NR NB
    intro Z ZX ZR ZB
    have r0 := ZR.cell (j := 0) rfl
    have r1 := ZR.cell (j := 1) rfl
    have r2 := ZR.cell (j := 2) rfl
    have r3 := ZR.cell (j := 3) rfl
    have r4 := ZR.cell (j := 4) rfl
    have r5 := ZR.cell (j := 5) rfl
    refine bodyPost_ret (v := .agg #[.slice fA ff.length fC, vi slo, vi shi, .slice pA fp.length pC, vi fc, .slice (some ⟨g, 0, none⟩) fs.length c]) (by simp [results, Tryd.results48, go_sem, r0, r1, r2, r3, r4, r5]) rfl ⟨g, c, ?_, HWR2.out Z g c rest ZB ?_ g3 g4, ZB⟩
    · rw [E.out]
    · have hl := HLEN.out
      have h1 : (flatSl fs).set (k * 2) (.slice sa sl.length sc) = flatSl fs := by
        apply List.ext_getElem?
        intro i
        rw [List.getElem?_set]
        split
        · rename_i hi2
          subst hi2
          rw [HAT.out.1, if_pos (by omega)]
        · rfl
      rw [List.set_append_left _ _ (by omega), h1, List.set_append_left _ _ (by omega)] at ZX
      rw [HSET.out]
      exact ZX
end Go.Proofs.YtomgnpfpaodpiaaDoor
/- Contract of the law's without: a floor without some slips. -/
namespace Go.Proofs.YtomgnpfpaodpiaaDoor
open Go Go.RowKit
set_option maxHeartbeats 4000000
theorem flat_sl (l : List SSlip) : (l.map SSlip.cells).flatten = flatSl l := by rw [flatSl, List.flatMap_def]
theorem flatSl_snoc (l : List SSlip) (s : SSlip) : flatSl (l ++ [s]) = flatSl l ++ [s.slice, vi s.till] := by simp [flatSl, SSlip.cells]
theorem own_aside {w : World} {base n sz : Nat} {e : TypeId} {v : Value} {xs : List Value} (h : w.ownsRow base e sz v n xs) {p : Addr} (hp : p.block < base) (u : Value) : (w.setCell p u).ownsRow base e sz v n xs := by
  refine ⟨h.1, ?_⟩
  rcases h.2 with h0 | ⟨g, c, cur, rfl, g1, g2, g3⟩
  · exact .inl h0
  · refine .inr ⟨g, c, cur, rfl, g1, ?_, g3⟩
    rw [heap_setCell_other _ _ g _ (by omega)]
    exact g2
set_option maxRecDepth 100000 in
theorem leave_any (f : Floor) (hv : validB f = true) (L : List Int) (A : Option Addr) (cap : Nat) (w : World) (h : FloorAt w w.heap.size f) (hL : IntsAt w w.heap.size A cap L) :
    Calls Tryd.prog 46 #[f.val, .slice A L.length cap] w fun e w' => ∃ B C, e = .returned (leaveF f L B C).val ∧ FloorAt w' w'.heap.size (leaveF f L B C) ∧ Below w.heap.size w w' := by
  obtain ⟨i0, hi, hy0, hy1, hy2⟩ := info_parts info_slip
  have h9 := (fine hv).slips9
  have HF := Lib.hid h
  have HL := Lib.hid hL
  have h3l := h.slips.lens
  have PL := Lib.hid (fun (n : Int) (W : World) hW => place_free A cap L n W hW)
  have HPN := Lib.hid (fun n : Int => place_neg L n)
  have HKS : Hid (∀ (k : Nat) (s : SSlip), f.slips[k]? = some s → keepK f L (k + 1) = keepK f L k ++ (if (k : Int) ∈ L then [] else [s])) := fun k s hs => keepK_succ hs
  have HK0 : Hid (keepK f L 0 = []) := rfl
  have HKL : Hid (∀ k : Nat, k ≤ f.slips.length → (keepK f L k).length ≤ k) := fun k hk => by rw [keepK_len hk]; exact idxK_len L k
  have FIN : Hid (∀ (w' : World) (B : Option Addr) (C : Nat), Below w.heap.size w w' → RowsAt w' w'.heap.size 2 B C ((keepK f L f.slips.length).map SSlip.cells) → FloorAt w' w'.heap.size (leaveF f L B C)) := fun w' B C hb hr => by
    have h' := h.to hb
    exact ⟨h'.far, h'.picks, hr, fun s hs => h'.each s (keepK_mem hs)⟩
  have E : Hid (∀ (B : Option Addr) (C : Nat), (leaveF f L B C).val = .agg #[.slice f.fA f.far.length f.fC, vi f.slo, vi f.shi, .slice f.pA f.picks.length f.pC, vi f.carry, .slice B (keepK f L f.slips.length).length C]) := fun B C => rfl
  obtain ⟨WF, hWF⟩ : ∃ WF, WF = leaveF f L := ⟨_, rfl⟩
  rw [← hWF] at FIN E ⊢
  obtain ⟨K, hK⟩ : ∃ K, K = keepK f L := ⟨_, rfl⟩
  rw [← hK] at HKS HK0 HKL FIN E
  clear h hL hWF hK hv
  obtain ⟨fA, fC, ff, slo, shi, pA, pC, fp, fc, sA, sC, fs⟩ := f
  simp only at HF HKS HKL FIN E h9 h3l
  have hb0 := below1 w (.cells #[.slice fA ff.length fC, vi slo, vi shi, .slice pA fp.length pC, vi fc, .slice sA fs.length sC] 28)
  have X0 := CellsBox.new w 28 [.slice fA ff.length fC, vi slo, vi shi, .slice pA fp.length pC, vi fc, .slice sA fs.length sC]
  have hb1 := hb0.alloc hb0.size (.cells #[.slice none 0 0, vi 0, vi 0, .slice none 0 0, vi 0, .slice none 0 0] 28)
  have X1 := X0.alloc (.cells #[.slice none 0 0, vi 0, vi 0, .slice none 0 0, vi 0, .slice none 0 0] 28)
  have R1 := CellsBox.new (w.alloc (.cells #[.slice fA ff.length fC, vi slo, vi shi, .slice pA fp.length pC, vi fc, .slice sA fs.length sC] 28)) 28 [.slice none 0 0, vi 0, vi 0, .slice none 0 0, vi 0, .slice none 0 0]
  have hb2 := hb1.alloc hb1.size (.cells #[.slice fA ff.length fC, vi slo, vi shi, .slice pA fp.length pC, vi fc, .slice sA fs.length sC] 28)
  have X2 := X1.alloc (.cells #[.slice fA ff.length fC, vi slo, vi shi, .slice pA fp.length pC, vi fc, .slice sA fs.length sC] 28)
  have R2 := R1.alloc (.cells #[.slice fA ff.length fC, vi slo, vi shi, .slice pA fp.length pC, vi fc, .slice sA fs.length sC] 28)
  have Y2 := CellsBox.new ((w.alloc (.cells #[.slice fA ff.length fC, vi slo, vi shi, .slice pA fp.length pC, vi fc, .slice sA fs.length sC] 28)).alloc (.cells #[.slice none 0 0, vi 0, vi 0, .slice none 0 0, vi 0, .slice none 0 0] 28)) 28 [.slice fA ff.length fC, vi slo, vi shi, .slice pA fp.length pC, vi fc, .slice sA fs.length sC]
  show Calls Tryd.prog 46 #[.agg #[.slice fA ff.length fC, vi slo, vi shi, .slice pA fp.length pC, vi fc, .slice sA fs.length sC], .slice A L.length cap] w _
  go_enter Tryd.func46, Tryd.ntmps46
  go_upto_region 2 with fail
  refine (?_ : ∀ W3 : World, CellsBox W3 w.heap.size 28 [.slice fA ff.length fC, vi slo, vi shi, .slice pA fp.length pC, vi fc, .slice sA fs.length sC] → CellsBox W3 (w.heap.size + 1) 28 [.slice none 0 0, vi 0, vi 0, .slice none 0 0, vi 0, .slice none 0 0] → CellsBox W3 (w.heap.size + 1 + 1) 28 [.slice fA ff.length fC, vi slo, vi shi, .slice pA fp.length pC, vi fc, .slice sA fs.length sC] → Below w.heap.size w W3 → Code.wp _ _ _ _ W3) _ X2 (by simpa using R2) (by simpa using Y2) hb2
  clear hb0 hb1 hb2 X0 X1 X2 R1 R2 Y2
  intro W3 X R Y HB
  have y5 := Y.cell (j := 5) rfl
  have q5 := Y.frozen 5
  have hz := HB.size
  have z2 := Y.lt
  have PX := Lib.hid (X.apart ⟨w.heap.size + 1 + 1, 5, none⟩ (.slice none 0 0) (by simp only; omega))
  have PR := Lib.hid (R.apart ⟨w.heap.size + 1 + 1, 5, none⟩ (.slice none 0 0) (by simp only; omega))
  have PY := Lib.hid (Y.store 5 (.slice none 0 0))
  have PB := Lib.hid (HB.setCell (p := ⟨w.heap.size + 1 + 1, 5, none⟩) (by simp only; omega) (.slice none 0 0))
  clear X R Y HB
  go_wp2_with fail
  refine (?_ : ∀ W4 : World, CellsBox W4 w.heap.size 28 [.slice fA ff.length fC, vi slo, vi shi, .slice pA fp.length pC, vi fc, .slice sA fs.length sC] → CellsBox W4 (w.heap.size + 1) 28 [.slice none 0 0, vi 0, vi 0, .slice none 0 0, vi 0, .slice none 0 0] → CellsBox W4 (w.heap.size + 1 + 1) 28 [.slice fA ff.length fC, vi slo, vi shi, .slice pA fp.length pC, vi fc, .slice none 0 0] → Below w.heap.size w W4 → Code.wp _ _ _ _ W4) _ PX.out PR.out PY.out PB.out
  clear y5 q5 hz z2 PX PR PY PB
  intro W4 X R Y HB
  have hz4 := Y.lt
  go_loopw [6] (fun i wr => ∃ (k : Nat) (v : Value), k ≤ fs.length ∧ i = .int .i64 k ∧ Below w.heap.size w wr ∧ w.heap.size + 1 + 1 + 1 ≤ wr.heap.size ∧ Hid (CellsBox wr w.heap.size 28 [.slice fA ff.length fC, vi slo, vi shi, .slice pA fp.length pC, vi fc, .slice sA fs.length sC]) ∧ Hid (CellsBox wr (w.heap.size + 1) 28 [.slice none 0 0, vi 0, vi 0, .slice none 0 0, vi 0, .slice none 0 0]) ∧ Hid (CellsBox wr (w.heap.size + 1 + 1) 28 [.slice fA ff.length fC, vi slo, vi shi, .slice pA fp.length pC, vi fc, v]) ∧ Hid (wr.ownsRow (w.heap.size + 1 + 1 + 1) 52 2 v (K k).length (flatSl (K k)))) (fun i _ => fs.length - (intOf i).toNat)
  case atStart => exact ⟨0, _, Nat.zero_le _, rfl, HB, by omega, X, R, Y, by unfold Hid; rw [HK0.out]; exact World.ownsRow_nil _ _ _ _⟩
  clear X R Y HB hz4
  obtain ⟨k, v, hk, rfl, HB, hsz, XX, XR, XY, HO⟩ := hrel
  by_cases hlt : k < fs.length
  · obtain ⟨s, hs⟩ : ∃ s, fs[k]? = some s := ⟨_, List.getElem?_eq_getElem hlt⟩
    obtain ⟨sb, so, hsA, hsb, s0, s1⟩ := row2 HF.out.slips.row hs rfl
    subst hsA
    have HKK := Lib.hid (HKS.out k s hs)
    have hKL := HKL.out k hk
    have HPK := Lib.hid (HPN.out k)
    have PLK := Lib.hid (PL.out k wr (HL.out.to HB).short)
    have s0r : wr.cell? ⟨sb, so + k * 2, none⟩ = some s.slice := (HB.cell hsb).trans s0
    have s1r : wr.cell? ⟨sb, so + k * 2 + 1, none⟩ = some (vi s.till) := (HB.cell hsb).trans s1
    have zs : sb < wr.heap.size := cell_lt s0r
    have hkI : (k : Int) < fs.length := by omega
    have h0k : (0 : Int) ≤ k := by omega
    obtain ⟨q, hq⟩ : ∃ q, placeF L k = q := ⟨_, rfl⟩
    rw [hq] at HPK PLK
    obtain ⟨M, hM⟩ : ∃ M, M = K k := ⟨_, rfl⟩
    rw [← hM] at HKK HO hKL
    have a5 := XX.out.cell (j := 5) rfl
    have za := XX.out.lt
    have HS0 := Lib.hid s0
    have HS1 := Lib.hid s1
    clear hs s0 s1 hq hM
    obtain ⟨sa, sc, sl, st⟩ := s
    simp only [SSlip.slice] at s0r s1r HS0 HS1
    go_wp2_with fail
    refine PLK.out.mono ?_
    rintro e W5 ⟨rfl, rfl⟩
    rcases hd : decide (q < 0) with _ | _
    · have NEXT : Hid (K (k + 1) = M) := by
        have : ¬ (k : Int) ∉ L := fun h => by have := HPK.out.2 h; simp at hd; omega
        unfold Hid
        rw [HKK.out, if_pos (by simpa using this), List.append_nil]
      clear HKK HPK
      go_wp2_with fail
      go_roundw
      case rel => exact ⟨k + 1, v, by omega, by go_num, HB, hsz, XX, XR, XY, by rw [NEXT.out]; exact HO⟩
      case measure => simp [intOf]; omega
    · have NEXT : Hid (K (k + 1) = M ++ [⟨sa, sc, sl, st⟩]) := by
        have : (k : Int) ∉ L := HPK.out.1 (by simpa using hd)
        unfold Hid
        rw [HKK.out, if_neg this]
      clear HKK HPK
      obtain ⟨A', c', rfl, h1, h2⟩ := own_form HO.out
      go_wp2_with fail
      have hST : Stays (fun w' => CellsBox w' w.heap.size 28 [.slice fA ff.length fC, vi slo, vi shi, .slice pA fp.length pC, vi fc, .slice (some ⟨sb, so, none⟩) fs.length sC] ∧ Below w.heap.size w w' ∧ w.heap.size + 1 + 1 + 1 ≤ w'.heap.size) := fun a b h h' => ⟨h.1.keep h', h.2.1.trans (h'.mono h.2.1.size), by have := h'.size; omega⟩
      refine' wp_region_box (fun w' => CellsBox w' w.heap.size 28 [.slice fA ff.length fC, vi slo, vi shi, .slice pA fp.length pC, vi fc, .slice (some ⟨sb, so, none⟩) fs.length sC] ∧ Below w.heap.size w w' ∧ w.heap.size + 1 + 1 + 1 ≤ w'.heap.size) hST [0, 2, 3, 4, 5, 6] 5 31 (by kernel_rfl) (by kernel_rfl) rfl (by kernel_rfl) (by kernel_rfl) rfl (by kernel_rfl) ?hl5 ⟨XX.out, HB, hsz⟩ ?hq5 ?hr5
      case hl5 =>
        simp only [List.map_cons, List.map_nil, List.getD_cons_zero, List.getD_cons_succ]
        exact rfl
      case hq5 =>
        intro w0 K
        have a5 := K.1.cell (j := 5) rfl
        have za := K.1.lt
        have s0k : w0.cell? ⟨sb, so + k * 2, none⟩ = some (.slice sa sl.length sc) := (K.2.1.cell hsb).trans HS0.out
        have s1k : w0.cell? ⟨sb, so + k * 2 + 1, none⟩ = some (vi st) := (K.2.1.cell hsb).trans HS1.out
        have zsk : sb < w0.heap.size := cell_lt s0k
        (repeat (go_big_quiet_step (fail)))
        exact wpQuiet_nil rfl
      case hr5 =>
        refine' wpUp_two (i := 1) (j := 7) (by kernel_rfl) rfl rfl rfl rfl (fun wa u1 u2 Ka hKa => ?ga) (fun wa u1 u2 Ka hKa => ?gb)
        case' ga =>
          have XYa := XY.out.keep u1
          have y5 := XYa.cell (j := 5) rfl
          have zy := XYa.lt
          go_simp
          refine hKa _ _ u2 ?_
          clear y5 zy XYa
          refine wpUp_one (i := 7) (by kernel_rfl) rfl rfl (fun wb v1 v2 Kb hKb => ?_)
          go_simp
          obtain ⟨V, hV⟩ : ∃ V, V = wb.alloc (.cells #[.slice sa sl.length sc, vi st] 52) := ⟨_, rfl⟩
          have hbV : Below wb.heap.size wb V := by rw [hV]; exact below1 _ _
          have HCV : CellsBox V wb.heap.size 52 [.slice sa sl.length sc, vi st] := by rw [hV]; exact CellsBox.new wb _ _
          rw [← hV]
          refine hKb _ _ (hST _ _ v2 hbV) ?_
          have HBV : Below wr.heap.size wr V := gr_trans (gr_trans u1 v1) hbV
          obtain ⟨bA, hbA⟩ : ∃ bA, bA = wb.heap.size := ⟨_, rfl⟩
          rw [← hbA] at HCV ⊢
          clear hV hbV hbA
        case' gb =>
          go_simp
          obtain ⟨V0, hV⟩ : ∃ V, V = wa.alloc (.cells #[.slice sa sl.length sc, vi st] 52) := ⟨_, rfl⟩
          have hbV : Below wa.heap.size wa V0 := by rw [hV]; exact below1 _ _
          have HCV0 : CellsBox V0 wa.heap.size 52 [.slice sa sl.length sc, vi st] := by rw [hV]; exact CellsBox.new wa _ _
          rw [← hV]
          refine hKa _ _ (hST _ _ u2 hbV) ?_
          obtain ⟨bA, hbA⟩ : ∃ bA, bA = wa.heap.size := ⟨_, rfl⟩
          rw [← hbA] at HCV0 ⊢
          clear hV hbA
          refine wpUp_one (i := 1) (by kernel_rfl) rfl rfl (fun V v1 v2 Kb hKb => ?_)
          have HBV : Below wr.heap.size wr V := gr_trans (gr_trans u1 hbV) v1
          have XYa := XY.out.keep HBV
          have y5 := XYa.cell (j := 5) rfl
          have zy := XYa.lt
          have HCV := HCV0.keep v1
          go_simp
          refine hKb _ _ v2 ?_
          clear y5 zy XYa HCV0 hbV
        all_goals
          refine wpUp_one (i := 8) (by kernel_rfl) rfl rfl (fun w7 g1 g2 K4 hK4 => ?_)
          have HB7 := gr_trans HBV g1
          have hown7 := own_keep HO.out HB7
          have hc7 := HCV.keep g1
          have d0 := hc7.cell (j := 0) rfl
          have d1 := hc7.cell (j := 1) rfl
          have XR7 := XR.out.keep HB7
          have XY7 := XY.out.keep HB7
          refine wp_append_own _ _ _ _ (by rfl) (w.heap.size + 1 + 1 + 1) 52 i0 _ 2 32 Tryd.underlying26 hi hy0 hy1 hy2 rfl (by omega) (.slice A' M.length c') M.length _ (by rfl) hown7 ⟨bA, 0, none⟩ 1 1 [.slice sa sl.length sc, vi st] (by rfl) (by rfl) (by
            intro j u hj
            rcases j with _ | _ | j
            · simp at hj; subst hj; exact d0
            · simp at hj; subst hj; exact d1
            · simp at hj) (by intro u hu; simp at hu; rcases hu with rfl | rfl <;> rfl) (by unfold maxLen; omega) (by omega) (by have := g2.2.2; omega) ?_
          intro v5 w8 hown8 hgrow _
          have hlt7 := fun j e => (hown7.lt j e).1
          have G1 : CellsBox w8 w.heap.size 28 [.slice fA ff.length fC, vi slo, vi shi, .slice pA fp.length pC, vi fc, .slice (some ⟨sb, so, none⟩) fs.length sC] := (hgrow.block _ g2.1.lt (fun e => by have := hlt7 _ e.symm; omega)).trans g2.1
          have G2 : CellsBox w8 (w.heap.size + 1) 28 [.slice none 0 0, vi 0, vi 0, .slice none 0 0, vi 0, .slice none 0 0] := (hgrow.block _ XR7.lt (fun e => by have := hlt7 _ e.symm; omega)).trans XR7
          have G3 : CellsBox w8 (w.heap.size + 1 + 1) 28 [.slice fA ff.length fC, vi slo, vi shi, .slice pA fp.length pC, vi fc, .slice A' M.length c'] := (hgrow.block _ XY7.lt (fun e => by have := hlt7 _ e.symm; omega)).trans XY7
          have G4 : Below w.heap.size w w8 := Below.grown g2.2.1 hgrow g2.2.1.size (fun j e => by have := hlt7 j e; omega)
          have G5 : w.heap.size + 1 + 1 + 1 ≤ w8.heap.size := by have := hgrow.size; have := g2.2.2; omega
          obtain ⟨A5, c5, rfl, -, -⟩ := own_form hown8
          have hb5 := hown8.lt
          simp only [Act.put, List.setIfInBounds_toArray, List.set_cons_zero, List.set_cons_succ]
          refine hK4 _ _ ⟨G1, G4, G5⟩ ?_
          refine wpUp_one (i := 9) (by kernel_rfl) rfl rfl (fun wz r1 r2 K9 hK9 => ?_)
          go_simp
          refine hK9 _ _ r2 ?_
          refine wpUp_one (i := 10) (by kernel_rfl) rfl rfl (fun w9 q1' q2 K5 hK5 => ?_)
          have q1 := gr_trans r1 q1'
          have Y9 := G3.keep q1
          have y5 := Y9.cell (j := 5) rfl
          have f5 := Y9.frozen 5
          have zy := Y9.lt
          go_simp
          have hown9 := own_keep hown8 q1
          have X9 := q2.1.apart ⟨w.heap.size + 1 + 1, 5, none⟩ (.slice A5 (M.length + 1) c5) (by simp only; omega)
          have R9 := (G2.keep q1).apart ⟨w.heap.size + 1 + 1, 5, none⟩ (.slice A5 (M.length + 1) c5) (by simp only; omega)
          have YY9 := Y9.store 5 (.slice A5 (M.length + 1) c5)
          have B9 := q2.2.1.setCell (p := ⟨w.heap.size + 1 + 1, 5, none⟩) (by simp only; omega) (.slice A5 (M.length + 1) c5)
          have O9 := own_aside hown9 (p := ⟨w.heap.size + 1 + 1, 5, none⟩) (by simp only; omega) (.slice A5 (M.length + 1) c5)
          have S9 : w.heap.size + 1 + 1 + 1 ≤ (w9.setCell ⟨w.heap.size + 1 + 1, 5, none⟩ (.slice A5 (M.length + 1) c5)).heap.size := by have := q2.2.2; simp; omega
          refine hK5 _ _ ⟨X9, B9, S9⟩ (wpUp_done (by kernel_rfl) (fun W8 s1 s2 => NoPanic.normal ?_))
          have HR8 := Lib.hid (R9.keep s1)
          have HY8 := Lib.hid (YY9.keep s1)
          have HO8 := Lib.hid (own_keep O9 s1)
          have HX8 := Lib.hid s2.1
          have HB8 := s2.2.1
          have HS8 := s2.2.2
          clear hKa hKb hK4 hK5 hK9 r1 r2 q1' g1 g2 q1 q2 s1 s2 G1 G2 G3 G4 G5 X9 R9 YY9 B9 O9 S9 hown7 hown8 hown9 hgrow XR7 XY7 Y9 y5 f5 zy d0 d1 hc7 HCV HB7 HBV hlt7 hb5 a5 za s0r s1r
          go_wp2_with fail
          go_roundw
        all_goals first
          | exact ⟨k + 1, _, by omega, by go_num, HB8, HS8, HX8, HR8, HY8.out, by rw [NEXT.out, flatSl_snoc, List.length_append]; exact HO8⟩
          | (simp [intOf]; omega)
  · obtain rfl : k = fs.length := by omega
    obtain ⟨A', c', rfl, h1, h2⟩ := own_form HO.out
    have hKL := HKL.out fs.length (Nat.le_refl _)
    have r0 := XR.out.cell (j := 0) rfl
    have r1 := XR.out.cell (j := 1) rfl
    have r2 := XR.out.cell (j := 2) rfl
    have r3 := XR.out.cell (j := 3) rfl
    have r4 := XR.out.cell (j := 4) rfl
    have r5 := XR.out.cell (j := 5) rfl
    have q0 := XR.out.frozen 0
    have q1 := XR.out.frozen 1
    have q2 := XR.out.frozen 2
    have q3 := XR.out.frozen 3
    have q4 := XR.out.frozen 4
    have q5 := XR.out.frozen 5
    have zr := XR.out.lt
    have y0 := XY.out.cell (j := 0) rfl
    have y1 := XY.out.cell (j := 1) rfl
    have y2 := XY.out.cell (j := 2) rfl
    have y3 := XY.out.cell (j := 3) rfl
    have y4 := XY.out.cell (j := 4) rfl
    have y5 := XY.out.cell (j := 5) rfl
    have zy := XY.out.lt
    have a5 := XX.out.cell (j := 5) rfl
    have za := XX.out.lt
    have NR := Lib.hid ((((((XR.out.store 0 (.slice fA ff.length fC)).store 1 (vi slo)).store 2 (vi shi)).store 3 (.slice pA fp.length pC)).store 4 (vi fc)).store 5 (.slice A' (K fs.length).length c'))
    have NO := Lib.hid (own_aside (own_aside (own_aside (own_aside (own_aside (own_aside HO.out (p := ⟨w.heap.size + 1, 0, none⟩) (by simp only; omega) (.slice fA ff.length fC)) (p := ⟨w.heap.size + 1, 1, none⟩) (by simp only; omega) (vi slo)) (p := ⟨w.heap.size + 1, 2, none⟩) (by simp only; omega) (vi shi)) (p := ⟨w.heap.size + 1, 3, none⟩) (by simp only; omega) (.slice pA fp.length pC)) (p := ⟨w.heap.size + 1, 4, none⟩) (by simp only; omega) (vi fc)) (p := ⟨w.heap.size + 1, 5, none⟩) (by simp only; omega) (.slice A' (K fs.length).length c'))
    have NB := Lib.hid ((((((HB.setCell (p := ⟨w.heap.size + 1, 0, none⟩) (by simp only; omega) (.slice fA ff.length fC)).setCell (p := ⟨w.heap.size + 1, 1, none⟩) (by simp only; omega) (vi slo)).setCell (p := ⟨w.heap.size + 1, 2, none⟩) (by simp only; omega) (vi shi)).setCell (p := ⟨w.heap.size + 1, 3, none⟩) (by simp only; omega) (.slice pA fp.length pC)).setCell (p := ⟨w.heap.size + 1, 4, none⟩) (by simp only; omega) (vi fc)).setCell (p := ⟨w.heap.size + 1, 5, none⟩) (by simp only; omega) (.slice A' (K fs.length).length c'))
    clear hlt
    go_wp2_with fail
    refine (?_ : ∀ Z : World, CellsBox Z (w.heap.size + 1) 28 [.slice fA ff.length fC, vi slo, vi shi, .slice pA fp.length pC, vi fc, .slice A' (K fs.length).length c'] → Z.ownsRow (w.heap.size + 1 + 1 + 1) 52 2 (.slice A' (K fs.length).length c') (K fs.length).length (flatSl (K fs.length)) → Below w.heap.size w Z → bodyPost _ _ _ _ _ Z) _ NR.out NO.out NB.out
    clear r0 r1 r2 r3 r4 r5 q0 q1 q2 q3 q4 q5 zr y0 y1 y2 y3 y4 y5 zy NR NO NB a5 za
    intro Z ZR ZO ZB
    have r0 := ZR.cell (j := 0) rfl
    have r1 := ZR.cell (j := 1) rfl
    have r2 := ZR.cell (j := 2) rfl
    have r3 := ZR.cell (j := 3) rfl
    have r4 := ZR.cell (j := 4) rfl
    have r5 := ZR.cell (j := 5) rfl
    rw [← flat_sl] at ZO
    obtain ⟨A2, c2, e2, -, h5, h6⟩ := own_rows (m := (K fs.length).map SSlip.cells) (slips_two _) ZO (by simp) (by omega)
    have e3 := Value.slice.inj e2
    obtain ⟨rfl, _, rfl⟩ := e3
    refine bodyPost_ret (v := .agg #[.slice fA ff.length fC, vi slo, vi shi, .slice pA fp.length pC, vi fc, .slice A' (K fs.length).length c']) (by simp [results, Tryd.results46, go_sem, r0, r1, r2, r3, r4, r5]) rfl ⟨A', c', ?_, FIN.out Z A' c' ZB ?_, ZB⟩
    · rw [E.out]
    · exact ⟨by simp; omega, by unfold maxLen at h5; omega, h6.few, h6.row⟩
end Go.Proofs.YtomgnpfpaodpiaaDoor
/- The tours that are told are tours of the slip, and take as many steps as are told. -/
namespace Go.Proofs.YtomgnpfpaodpiaaDoor
open Go Go.RowKit
/-- what loads are -/
structure IsLoad (f : Floor) (c : Nat) (q : List Int) : Prop where
  on : OnF f q
  some_ : 1 ≤ q.sum
  few : q.sum ≤ c
theorem IsLoad.le {f : Floor} {c : Nat} {q : List Int} (h : IsLoad f c q) {n : Int} (hn : n ∈ q) : 0 ≤ n ∧ n ≤ c := by
  obtain ⟨k, hk, rfl⟩ := List.mem_iff_getElem.1 hn
  have h1 := maskS_ge (g := fun _ => true) q 0 k _ h.on.pos (List.getElem?_eq_getElem hk) rfl
  rw [true_sum] at h1
  have := h.few
  exact ⟨h.on.pos _ hn, by omega⟩
end Go.Proofs.YtomgnpfpaodpiaaDoor
/- Tours that fetch just the pieces of a slip: what they fetch, and how far they go. Plain mathematics. -/
namespace Go.Proofs.YtomgnpfpaodpiaaDoor
open Go Go.RowKit
set_option maxHeartbeats 2000000
/-- how far a tour goes -/
def farM (f : Floor) (l : List SLine) : Int := l.foldl (fun a x => max a (farF f x)) 0
theorem foldM_ge (f : Floor) {h : Int} : ∀ (l : List SLine) (a : Int), h ≤ l.foldl (fun a x => max a (farF f x)) a ↔ h ≤ a ∨ ∃ x ∈ l, h ≤ farF f x
  | [], a => by simp
  | x :: l, a => by
    rw [List.foldl_cons, foldM_ge f l]
    constructor
    · rintro (h1 | ⟨y, hy, h1⟩)
      · rcases Int.le_total a (farF f x) with k | k
        · exact .inr ⟨x, by simp, by omega⟩
        · exact .inl (by omega)
      · exact .inr ⟨y, by simp [hy], h1⟩
    · rintro (h1 | ⟨y, hy, h1⟩)
      · exact .inl (by omega)
      · rcases List.mem_cons.1 hy with rfl | hy
        · exact .inl (by omega)
        · exact .inr ⟨y, hy, h1⟩
theorem farM_snoc (f : Floor) {l : List SLine} {k : Nat} {x : SLine} (h : l[k]? = some x) : farM f (l.take (k + 1)) = max (farM f (l.take k)) (farF f x) := by
  obtain ⟨hk, rfl⟩ := List.getElem?_eq_some_iff.1 h
  unfold farM
  rw [List.take_succ_eq_append_getElem hk, List.foldl_append]
  rfl
theorem farM_range {f : Floor} (hv : validB f = true) (l : List SLine) : 0 ≤ farM f l ∧ farM f l ≤ 500 := by
  constructor
  · exact (foldM_ge f l 0).2 (.inl (Int.le_refl _))
  · apply Classical.byContradiction
    intro hn
    rcases (foldM_ge f l 0 (h := 501)).1 (by unfold farM at hn; omega) with h | ⟨x, _, h⟩
    · omega
    · have := (fk_range hv x.shelf.toNat).2
      unfold fkF at this
      unfold farF at h
      omega
/-- how many steps tours take -/
def goneM (f : Floor) (L : List (List SLine)) : Int := (L.map fun l => 2 * farM f l).sum
/-- what tours fetch of each shelf -/
def gotF (p : List Int) (L : List (List SLine)) : List Int := L.foldl (fun p l => addL 1 p l) p
theorem linesR_parts {n : Int} {l : List SLine} (h : linesR n l = true) : (l.Pairwise fun x y => x.shelf < y.shelf) ∧ ∀ x ∈ l, (0 ≤ x.shelf ∧ x.shelf < n) ∧ 1 ≤ x.many ∧ x.many ≤ 20 :=
  ⟨shelf_sorted h, fun x hx => by
    obtain ⟨i, hi, rfl⟩ := List.mem_iff_getElem.1 hx
    have := linesR_at h i _ (List.getElem?_eq_getElem hi)
    omega⟩
/-- tours that fetch just the pieces of a slip -/
structure Fetch (f : Floor) (s : SSlip) (L : List (List SLine)) : Prop where
  good : ∀ l ∈ L, 1 ≤ l.length ∧ linesR f.far.length l = true ∧ togetherF l ≤ f.carry
  cnt : ∀ j : Nat, (L.map (cntL j)).sum = cntL j s.lines
theorem Fetch.tours {f : Floor} {s : SSlip} {ts : List STour} (h : Fetch f s (ts.map STour.lines)) : isToursR f s ts = true := by
  unfold isToursR
  rw [Bool.and_eq_true, List.all_eq_true, List.all_eq_true]
  refine ⟨fun k hk => ?_, fun y hy => ?_⟩
  · rw [List.getElem?_eq_getElem (List.mem_range.1 hk)]
    simp only
    obtain ⟨h1, h2, h3⟩ := h.good _ (List.mem_map.2 ⟨_, List.getElem_mem (List.mem_range.1 hk), rfl⟩)
    unfold goodR
    rw [Bool.and_eq_true, Bool.and_eq_true, decide_eq_true_eq]
    exact ⟨⟨by rw [Bool.not_eq_true', beq_eq_false_iff_ne]; omega, h2⟩, h3⟩
  · obtain ⟨j, hj, rfl⟩ := List.mem_iff_getElem.1 hy
    have g1 := List.getElem?_eq_getElem hj
    rw [leftR_get, addL_get, List.getElem?_replicate] at g1
    split at g1
    · have hc := h.cnt j
      have e1 : cntT j ts = ((ts.map STour.lines).map (cntL j)).sum := by rw [cntT, List.map_map]; rfl
      rw [← e1] at hc
      simp only [Option.map_some, Option.some.injEq] at g1
      rw [← g1, hc]
      simp
    · cases g1
theorem Fetch.of {f : Floor} {s : SSlip} {ts : List STour} (hs : ∀ x ∈ s.lines, (0 ≤ x.shelf ∧ x.shelf < (f.far.length : Int))) (h : isToursR f s ts = true) : Fetch f s (ts.map STour.lines) := by
  unfold isToursR at h
  rw [Bool.and_eq_true, List.all_eq_true, List.all_eq_true] at h
  have hg : ∀ l ∈ ts.map STour.lines, 1 ≤ l.length ∧ linesR f.far.length l = true ∧ togetherF l ≤ f.carry := fun l hl => by
    obtain ⟨t, ht, rfl⟩ := List.mem_map.1 hl
    obtain ⟨k, hk, rfl⟩ := List.mem_iff_getElem.1 ht
    have := h.1 k (List.mem_range.2 hk)
    rw [List.getElem?_eq_getElem hk] at this
    simp only at this
    unfold goodR at this
    rw [Bool.and_eq_true, Bool.and_eq_true, decide_eq_true_eq, Bool.not_eq_true', beq_eq_false_iff_ne] at this
    exact ⟨by omega, this.1.2, this.2⟩
  refine ⟨hg, fun j => ?_⟩
  have e1 : cntT j ts = ((ts.map STour.lines).map (cntL j)).sum := by rw [cntT, List.map_map]; rfl
  rw [← e1]
  by_cases hj : j < f.far.length
  · have g1 : (leftR (addL 1 (List.replicate f.far.length 0) s.lines) ts)[j]? = some (0 + 1 * cntL j s.lines - cntT j ts) := by
      rw [leftR_get, addL_get, List.getElem?_replicate, if_pos hj]
      rfl
    have := h.2 _ (List.mem_of_getElem? g1)
    simp only [beq_iff_eq] at this
    omega
  · rw [cntL_far hs (by omega), cntT]
    have : ts.map (fun t => cntL j t.lines) = ts.map fun _ => (0 : Int) := List.map_congr_left fun t ht => by
      obtain ⟨_, h2, _⟩ := hg t.lines (List.mem_map.2 ⟨t, ht, rfl⟩)
      exact cntL_far (fun x hx => ((linesR_parts h2).2 x hx).1) (by omega)
    rw [this]
    clear this hg h e1
    induction ts with
    | nil => rfl
    | cons x l ih => rw [List.map_cons, List.sum_cons, ih]; rfl
end Go.Proofs.YtomgnpfpaodpiaaDoor
/- Contract of sound: it says whether a floor is valid. -/
namespace Go.Proofs.YtomgnpfpaodpiaaDoor
open Go Go.RowKit
set_option maxHeartbeats 4000000
end Go.Proofs.YtomgnpfpaodpiaaDoor
/- Contract of the law's fetched: what tours fetch that are ones, and how many steps they take. -/
namespace Go.Proofs.YtomgnpfpaodpiaaDoor
open Go Go.RowKit
set_option maxHeartbeats 8000000
theorem gotF_snoc {p : List Int} {L : List (List SLine)} {k : Nat} {l : List SLine} (h : L[k]? = some l) : gotF p (L.take (k + 1)) = addL 1 (gotF p (L.take k)) l := by
  obtain ⟨hk, rfl⟩ := List.getElem?_eq_some_iff.1 h
  unfold gotF
  rw [List.take_succ_eq_append_getElem hk, List.foldl_append]
  rfl
theorem goneM_snoc {f : Floor} {L : List (List SLine)} {k : Nat} {l : List SLine} (h : L[k]? = some l) : goneM f (L.take (k + 1)) = goneM f (L.take k) + 2 * farM f l := by
  obtain ⟨hk, rfl⟩ := List.getElem?_eq_some_iff.1 h
  unfold goneM
  rw [List.take_succ_eq_append_getElem hk, List.map_append, List.sum_append]
  simp
theorem gotF_len (L : List (List SLine)) : ∀ p : List Int, (gotF p L).length = p.length := by
  induction L with
  | nil => intro p; rfl
  | cons l L ih => intro p; show (gotF (addL 1 p l) L).length = _; rw [ih, addL_len]
/-- the number behind which the next shelf must lie -/
def lastL (l : List SLine) (k : Nat) : Int := nextF l k - 1
theorem sum_le_all : ∀ (l : List SLine) (x : SLine), (∀ y ∈ l, 0 ≤ y.many) → x ∈ l → x.many ≤ togetherF l
  | [], _, _, h => by simp at h
  | y :: l, x, hp, h => by
    have h0 := hp y (by simp)
    have hl : 0 ≤ togetherF l := by
      unfold togetherF
      have : ∀ n ∈ l.map SLine.many, 0 ≤ n := fun n hn => by
        obtain ⟨z, hz, rfl⟩ := List.mem_map.1 hn
        exact hp z (by simp [hz])
      exact sum_nonneg _ this
    have e : togetherF (y :: l) = y.many + togetherF l := by simp [togetherF]
    rw [e]
    rcases List.mem_cons.1 h with rfl | h
    · omega
    · have := sum_le_all l x (fun z hz => hp z (by simp [hz])) h
      omega
/-- what a line of a tour that is one is like -/
theorem tour_line {f : Floor} {l : List SLine} (h1 : linesR f.far.length l = true) (h2 : togetherF l ≤ f.carry) {k : Nat} {x : SLine} (hx : l[k]? = some x) :
    (nextF l k ≤ x.shelf ∧ x.shelf < f.far.length) ∧ 0 ≤ x.shelf ∧ (1 ≤ x.many ∧ x.many ≤ f.carry) ∧ x.many ≤ 20 ∧ nextF l (k + 1) = x.shelf + 1 := by
  have hk := (List.getElem?_eq_some_iff.1 hx).1
  have hg := h1
  unfold linesR at hg
  rw [List.all_eq_true] at hg
  have := hg k (List.mem_range.2 hk)
  rw [goodLine_ref hx, Bool.and_eq_true, hasB_iff, hasB_iff] at this
  have hp := (linesR_parts h1).2 x (List.mem_of_getElem? hx)
  have hm := sum_le_all l x (fun y hy => by have := (linesR_parts h1).2 y hy; omega) (List.mem_of_getElem? hx)
  exact ⟨⟨this.1.1, by omega⟩, hp.1.1, ⟨hp.2.1, by omega⟩, hp.2.2, nextF_succ hx⟩
theorem next_range {n : Nat} {l : List SLine} (h1 : linesR n l = true) (hn : n ≤ 12) : ∀ k, k ≤ l.length → 0 ≤ nextF l k ∧ nextF l k ≤ 12
  | 0, _ => by show (0 : Int) ≤ 0 ∧ (0 : Int) ≤ 12; omega
  | k + 1, hk => by
    obtain ⟨x, hx⟩ : ∃ x, l[k]? = some x := ⟨_, List.getElem?_eq_getElem (by omega)⟩
    rw [nextF_succ hx]
    have := (linesR_parts h1).2 x (List.mem_of_getElem? hx)
    omega
theorem ints_of_cells {w : World} {b n : Nat} {l : List Int} (h : CellsBox w b 3 (l.map vi)) (hn : l.length = n) (hf : n ≤ 35184372088832) : IntsAt w w.heap.size (some ⟨b, 0, none⟩) n l := by
  subst hn
  refine ⟨by rw [List.length_map]; exact Nat.le_refl _, by omega, by rw [List.length_map]; exact hf, fun _ => ⟨b, 0, rfl, h.lt, fun i r hr j u hj hu => ?_⟩⟩
  rw [List.getElem?_map] at hr
  obtain ⟨x, hx, rfl⟩ := Option.map_eq_some_iff.1 hr
  obtain rfl : j = 0 := by omega
  have : u = vi x := by simpa [intC] using hu.symm
  subst this
  have := ints_box_at h hx
  simpa using this
end Go.Proofs.YtomgnpfpaodpiaaDoor
/- Contract of the law's fetched: the walk. -/
namespace Go.Proofs.YtomgnpfpaodpiaaDoor
open Go Go.RowKit
set_option maxHeartbeats 8000000
set_option maxRecDepth 100000 in
theorem fetched_any (f : Floor) (hv : validB f = true) (A : Option Addr) (cap : Nat) (ts : List STour) (hok : ∀ t ∈ ts, 1 ≤ t.lines.length ∧ linesR f.far.length t.lines = true ∧ togetherF t.lines ≤ f.carry) (hts : ts.length ≤ 1000) (w : World) (h : FloorAt w w.heap.size f) (ht : ToursAt w w.heap.size A cap ts) :
    Calls Tryd.prog 37 #[f.val, .slice A ts.length cap] w fun e w' => ∃ R, e = .returned (.tuple #[.slice R f.far.length f.far.length, vi (goneM f (ts.map STour.lines)), .bool true]) ∧ IntsAt w' w'.heap.size R f.far.length (gotF (List.replicate f.far.length 0) (ts.map STour.lines)) ∧ Below w.heap.size w w' := by
  have hF := fine hv
  have h12 := hF.far12
  have hc1 := hF.carry1
  have hc20 := hF.carry20
  have HF := Lib.hid h
  have HT := Lib.hid ht
  have htl := ht.rows.lens
  have hfl := h.far.lens
  have HOK := Lib.hid hok
  have mkI := mkIntsB f.far.length (by omega)
  have FM := Lib.hid (fun l => farM_range hv l)
  have HFR : Hid (∀ k : Nat, k < f.far.length → ∃ d, f.far[k]? = some d ∧ (0 ≤ d ∧ d ≤ 500)) := fun k hk => by
    refine ⟨f.far[k], List.getElem?_eq_getElem hk, ?_⟩
    have := fk_range hv k
    unfold fkF at this
    rwa [List.getElem?_eq_getElem hk, Option.getD_some] at this
  obtain ⟨Z, hZ⟩ : ∃ Z, Z = List.replicate f.far.length (0 : Int) := ⟨_, rfl⟩
  have hZl : Z.length = f.far.length := by rw [hZ, List.length_replicate]
  obtain ⟨L, hL⟩ : ∃ L, L = ts.map STour.lines := ⟨_, rfl⟩
  have HLK : Hid (∀ (k : Nat) (t : STour), ts[k]? = some t → L[k]? = some t.lines) := fun k t hk => by rw [hL, List.getElem?_map, hk]; rfl
  have hLl : L.length = ts.length := by rw [hL, List.length_map]
  have HRG : Hid (∀ k : Nat, k ≤ ts.length → (gotF Z (L.take k)).length = f.far.length ∧ ∀ y ∈ gotF Z (L.take k), 0 ≤ y ∧ y ≤ 240 * (k : Int)) := fun k hk => by
    refine ⟨by rw [gotF_len, hZl], ?_⟩
    induction k with
    | zero =>
      intro y hy
      rw [List.take_zero] at hy
      have hy : y ∈ Z := hy
      rw [hZ, List.mem_replicate] at hy
      omega
    | succ k ih =>
      intro y hy
      obtain ⟨t, htk⟩ : ∃ t, ts[k]? = some t := ⟨_, List.getElem?_eq_getElem (by omega)⟩
      rw [gotF_snoc (HLK.out k t htk)] at hy
      obtain ⟨_, g2, _⟩ := HOK.out t (List.mem_of_getElem? htk)
      have hp := (linesR_parts g2).2
      have hln := linesR_len g2
      obtain ⟨j, hj, rfl⟩ := List.mem_iff_getElem.1 hy
      have e := List.getElem?_eq_getElem hj
      rw [addL_get] at e
      obtain ⟨z, hz, e2⟩ := Option.map_eq_some_iff.1 e
      have h1 := ih (by omega) z (List.mem_of_getElem? hz)
      have h2 := cntL_nonneg j t.lines (fun x hx => by have := hp x hx; omega)
      have h3 : cntL j t.lines ≤ 20 * t.lines.length := by
        unfold cntL
        have : ∀ l : List SLine, (∀ x ∈ l, 1 ≤ x.many ∧ x.many ≤ 20) → (l.map fun x => if x.shelf.toNat = j then x.many else 0).sum ≤ 20 * l.length := fun l => by
          induction l with
          | nil => intro _; simp
          | cons x l ih2 =>
            intro hx
            have i1 := ih2 fun y hy => hx y (by simp [hy])
            have i2 := hx x (by simp)
            rw [List.map_cons, List.sum_cons, List.length_cons]
            split <;> omega
        exact this _ fun x hx => (hp x hx).2
      omega
  have HGS : Hid (∀ (k : Nat) (t : STour), ts[k]? = some t → goneM f (L.take (k + 1)) = goneM f (L.take k) + 2 * farM f t.lines) := fun k t hk => goneM_snoc (HLK.out k t hk)
  have HGR : Hid (∀ k : Nat, k ≤ ts.length → 0 ≤ goneM f (L.take k) ∧ goneM f (L.take k) ≤ 1000 * (k : Int)) := fun k hk => by
    induction k with
    | zero => rw [List.take_zero]; exact ⟨Int.le_refl _, by show (0 : Int) ≤ _; omega⟩
    | succ k ih =>
      obtain ⟨t, htk⟩ : ∃ t, ts[k]? = some t := ⟨_, List.getElem?_eq_getElem (by omega)⟩
      rw [HGS.out k t htk]
      have h1 := ih (by omega)
      have h2 := FM.out t.lines
      omega
  have FIN : Hid (L.take ts.length = L) := by unfold Hid; rw [← hLl, List.take_length]
  have HZ0 : Hid (gotF Z (L.take 0) = Z ∧ goneM f (L.take 0) = 0) := by unfold Hid; rw [List.take_zero]; exact ⟨rfl, rfl⟩
  rw [← hL]
  have HZE := Lib.hid hZ
  clear h ht hok hF hL hLl hZ
  have X0 := CellsBox.new w 28 f.cells
  have hb0 : Below w.heap.size w (w.alloc (.cells f.cells.toArray 28)) := below1 _ _
  show Calls Tryd.prog 37 #[.agg #[.slice f.fA f.far.length f.fC, vi f.slo, vi f.shi, .slice f.pA f.picks.length f.pC, vi f.carry, .slice f.sA f.slips.length f.sC], .slice A ts.length cap] w _
  go_enter Tryd.func37, Tryd.ntmps37
  go_upto_region 1 with fail
  refine (?_ : ∀ V : World, CellsBox V w.heap.size 28 f.cells → Below w.heap.size w V → Code.wp _ _ _ _ V) _ X0 hb0
  clear X0 hb0
  intro V X0 HB
  have HX := Lib.hid X0
  have a0 := X0.cell (j := 0) rfl
  have za := X0.lt
  clear X0
  go_wp2_with fail
  have HBX := CellsBox.new V 3 (Z.map vi)
  have hbV := below1 V (.cells (Z.map vi).toArray 3)
  obtain ⟨V1, hV1⟩ : ∃ V1, V1 = V.alloc (.cells (Array.replicate f.far.length (vi 0)) 3) := ⟨_, rfl⟩
  have eZ : (Z.map vi).toArray = Array.replicate f.far.length (vi 0) := by rw [HZE.out, List.map_replicate]; simp
  rw [eZ, ← hV1] at hbV
  replace HBX : CellsBox V1 V.heap.size 3 (Z.map vi) := by rw [hV1, ← eZ]; exact HBX
  obtain ⟨b1, hb1⟩ : ∃ b, b = V.heap.size := ⟨_, rfl⟩
  rw [← hb1] at HBX ⊢
  rw [← hV1]
  have hwb : w.heap.size < b1 := by omega
  have HB1 : Below w.heap.size w V1 := HB.trans (hbV.mono HB.size)
  have HX1 := Lib.hid (HX.out.keep hbV)
  have HBX := Lib.hid HBX
  clear hbV hV1 eZ hb1 a0 za mkI HB HX
  go_loopw [8, 9, 10, 11, 12, 13, 14] (fun a b _ _ _ _ _ wr => ∃ i : Nat, i ≤ ts.length ∧ b = .int .i64 i ∧ a = vi (goneM f (L.take i)) ∧ Below w.heap.size w wr ∧ Hid (CellsBox wr w.heap.size 28 f.cells ∧ CellsBox wr b1 3 ((gotF Z (L.take i)).map vi))) (fun _ b _ _ _ _ _ _ => ts.length - (intOf b).toNat)
  case atStart => exact ⟨0, Nat.zero_le _, rfl, by rw [HZ0.out.2], HB1, ⟨HX1.out, by rw [HZ0.out.1]; exact HBX.out⟩⟩
  clear HX1 HBX HB1
  obtain ⟨i, hi, rfl, rfl, hB, HXB⟩ := hrel
  by_cases hlt : i < ts.length
  · obtain ⟨t, htk⟩ : ∃ t, ts[i]? = some t := ⟨_, List.getElem?_eq_getElem hlt⟩
    obtain ⟨g1, g2, g3⟩ := HOK.out t (List.mem_of_getElem? htk)
    have HGSK := Lib.hid (HGS.out i t htk)
    have hgr := HGR.out i hi
    have hfm := FM.out t.lines
    have HGOT := Lib.hid (gotF_snoc (p := Z) (HLK.out i t htk))
    obtain ⟨tb, tf, hA, htb, t0⟩ := row1 HT.out.rows.row htk rfl
    have HTW := Lib.hid (HT.out.each t (List.mem_of_getElem? htk))
    obtain ⟨tA, tc, tl⟩ := t
    simp only at g1 g2 g3 HGSK hfm HGOT HTW
    replace t0 : w.cell? ⟨tb, tf + i, none⟩ = some (.slice tA tl.length tc) := t0
    have HT0 := Lib.hid t0
    have hln := linesR_len g2
    have HTL := Lib.hid (fun (k : Nat) (x : SLine) (hx : tl[k]? = some x) => tour_line g2 g3 hx)
    have HNR := Lib.hid (fun k hk => next_range g2 h12 k hk)
    have SK : Hid (∀ (m : Nat) (x : SLine), tl[m]? = some x → sumK tl (m + 1) = sumK tl m + x.many) := fun m x hx => sumK_succ hx
    have SKE := Lib.hid (sumK_all tl)
    have SKR := Lib.hid (sumK_range (l := tl) (fun k x hx => by have := HTL.out k x hx; omega))
    have hg3 : togetherF tl ≤ f.carry := g3
    have HP1 : Hid (1 ≤ togetherF tl) := by
      obtain ⟨x, hx⟩ : ∃ x, tl[0]? = some x := ⟨_, List.getElem?_eq_getElem (by omega)⟩
      have h1 := sum_le_all tl x (fun y hy => by have := (linesR_parts g2).2 y hy; omega) (List.mem_of_getElem? hx)
      have h2 := (linesR_parts g2).2 x (List.mem_of_getElem? hx)
      unfold Hid
      omega
    have FSm : Hid (∀ (m : Nat) (x : SLine), tl[m]? = some x → farM f (tl.take (m + 1)) = max (farM f (tl.take m)) (farF f x)) := fun m x hx => farM_snoc f hx
    obtain ⟨P, hP⟩ : ∃ P, P = gotF Z (L.take i) := ⟨_, rfl⟩
    have hPR := HRG.out i hi
    rw [← hP] at HGOT hPR HXB
    have HPR := Lib.hid hPR
    have LK : Hid (∀ (m : Nat) (x : SLine), tl[m]? = some x → addLK 1 P tl (m + 1) = (addLK 1 P tl m).set x.shelf.toNat ((addLK 1 P tl m)[x.shelf.toNat]?.getD 0 + 1 * x.many)) := fun m x hx => addLK_succ hx
    have LR : Hid (∀ m : Nat, m ≤ tl.length → (addLK 1 P tl m).length = f.far.length ∧ ∀ q ∈ addLK 1 P tl m, -500000 ≤ q ∧ q ≤ 500000) := fun m hm => by
      refine ⟨by unfold addLK; rw [addL_len]; exact HPR.out.1, fun q hq => ?_⟩
      have := addL_range 1 (240 * (i : Int)) (.inl rfl) (tl.take m) P (fun x hx => by
        have := (linesR_parts g2).2 x (List.mem_of_mem_take hx)
        omega) (fun y hy => by have := HPR.out.2 y hy; omega) (by omega) q hq
      rw [List.length_take] at this
      omega
    have K0 : Hid (addLK 1 P tl 0 = P) := by unfold Hid addLK addL; simp
    have KE : Hid (addLK 1 P tl tl.length = gotF Z (L.take (i + 1))) := by unfold Hid; rw [HGOT.out, addLK, List.take_length]
    obtain ⟨D, hD⟩ : ∃ D, D = addLK 1 P tl := ⟨_, rfl⟩
    rw [← hD] at LK LR K0 KE
    clear hD hP hPR HGOT g3 htk g2 t0
    have hiI : (i : Int) < ts.length := by omega
    have h0i : (0 : Int) ≤ i := by omega
    have HAE := Lib.hid hA
    subst hA
    go_wp2_with fail
    go_loopw [10, 11, 12, 13, 14] (fun a b c d _ wr => ∃ (m : Nat) (p q l : Int), m ≤ tl.length ∧ d = .int .i64 m ∧ a = vi p ∧ b = vi q ∧ c = vi l ∧ Hid (p = sumK tl m ∧ q = farM f (tl.take m) ∧ l + 1 = nextF tl m) ∧ Below w.heap.size w wr ∧ Hid (CellsBox wr w.heap.size 28 f.cells ∧ CellsBox wr b1 3 ((D m).map vi))) (fun _ _ _ d _ _ => tl.length - (intOf d).toNat)
    case atStart => exact ⟨0, 0, 0, -1, Nat.zero_le _, rfl, rfl, rfl, rfl, ⟨rfl, rfl, rfl⟩, hB, ⟨HXB.out.1, by rw [K0.out]; exact HXB.out.2⟩⟩
    clear HXB hB
    obtain ⟨m, p, q, l, hm, rfl, rfl, rfl, rfl, HPQ, hBm, HXm⟩ := hrel
    have hp := SKR.out m hm
    have hq := FM.out (tl.take m)
    have hl := HNR.out m hm
    rw [← HPQ.out.1] at hp
    rw [← HPQ.out.2.1] at hq
    rw [← HPQ.out.2.2] at hl
    have t0m : wr.cell? ⟨tb, tf + i, none⟩ = some (.slice tA tl.length tc) := (hBm.cell htb).trans HT0.out
    have ztm : tb < wr.heap.size := cell_lt t0m
    have a0 := HXm.out.1.cell (j := 0) rfl
    have a4 := HXm.out.1.cell (j := 4) rfl
    have za := HXm.out.1.lt
    by_cases hltm : m < tl.length
    · obtain ⟨x, hx⟩ : ∃ x, tl[m]? = some x := ⟨_, List.getElem?_eq_getElem hltm⟩
      obtain ⟨⟨hx1, hx2⟩, hx0, ⟨hx3, hx4⟩, hx5, hx6⟩ := HTL.out m x hx
      rw [← HPQ.out.2.2] at hx1
      have HSK1 := Lib.hid (SK.out m x hx)
      have HFS1 := Lib.hid (FSm.out m x hx)
      have HD1 := Lib.hid (LK.out m x hx)
      have HX6 := Lib.hid hx6
      obtain ⟨hr1, hr2⟩ := LR.out m hm
      obtain ⟨lb, lo, hlA, hlb, l0, l1⟩ := row2 HTW.out.row hx rfl
      have hfx : farF f x = (f.far[x.shelf.toNat]?).getD 0 := rfl
      have HFX := Lib.hid hfx
      obtain ⟨xs, xm⟩ := x
      simp only at hx0 hx1 hx2 hx3 hx4 hx5 l0 l1 HSK1 HD1 HX6 HFX
      obtain ⟨j, rfl⟩ : ∃ j : Nat, xs = j := ⟨xs.toNat, by omega⟩
      rw [Int.toNat_natCast] at HD1 HFX
      have hjl : j < (D m).length := by omega
      obtain ⟨y, hy⟩ : ∃ y, (D m)[j]? = some y := ⟨_, List.getElem?_eq_getElem hjl⟩
      have hyr := hr2 y (List.mem_of_getElem? hy)
      rw [hy, Option.getD_some, Int.one_mul] at HD1
      have HYC := Lib.hid (ints_box_at HXm.out.2 hy)
      obtain ⟨d, hd, hd0⟩ := HFR.out j (by omega)
      rw [hd, Option.getD_some] at HFX
      rw [HFX.out] at HFS1
      have htw : hasB (l + 1) ((f.far.length : Int) - 1) j = true := hasB_iff.2 ⟨by omega, by omega⟩
      have TW := Lib.hid (fun W : World => tween_is htw W)
      have hmI : (m : Int) < tl.length := by omega
      have hm0 : (0 : Int) ≤ m := by omega
      have hj0 : (0 : Int) ≤ j := by omega
      have hjI : (j : Int) < f.far.length := by omega
      have l0m : wr.cell? ⟨lb, lo + m * 2, none⟩ = some (vi j) := (hBm.cell hlb).trans l0
      have l1m : wr.cell? ⟨lb, lo + m * 2 + 1, none⟩ = some (vi xm) := (hBm.cell hlb).trans l1
      have zlb : lb < wr.heap.size := cell_lt l0m
      have HDD := Lib.hid hd
      have hxm1 : decide (xm < 1) = false := decide_eq_false (by omega)
      have hxm2 : decide (f.carry < xm) = false := decide_eq_false (by omega)
      rw [hlA] at t0m
      clear hx hy hr1 hr2 hd htw hfx hlA HFX
      go_upto_region 10 with fail
      have HS3 := CellsBox.new wr 64 [vi j, vi xm]
      have hb3 := below1 wr (.cells #[vi j, vi xm] 64)
      obtain ⟨V3, hV3⟩ : ∃ V, V = wr.alloc (.cells #[vi j, vi xm] 64) := ⟨_, rfl⟩
      obtain ⟨b3, hb3e⟩ : ∃ b, b = wr.heap.size := ⟨_, rfl⟩
      rw [← hV3, ← hb3e] at HS3
      rw [← hV3] at hb3
      rw [← hV3, ← hb3e]
      have hne : b1 ≠ b3 := by have := HXm.out.2.lt; omega
      have hB3 := hBm.trans (hb3.mono hBm.size)
      have HX3 := Lib.hid (HXm.out.1.keep hb3)
      have HP3 := Lib.hid (HXm.out.2.keep hb3)
      have HY3 := Lib.hid (cell_keep hb3 HYC.out)
      have HS3 := Lib.hid HS3
      clear hV3 hb3e hb3 HXm HYC a0 a4 za l0m l1m zlb t0m ztm hBm
      have a0 := HX3.out.cell (j := 0) rfl
      have a4 := HX3.out.cell (j := 4) rfl
      have za := HX3.out.lt
      have s0 := HS3.out.cell (j := 0) rfl
      have s1 := HS3.out.cell (j := 1) rfl
      have zs := HS3.out.lt
      go_wp2_with fail
      refine (TW.out _).mono ?_
      rintro e W4 ⟨rfl, rfl⟩
      clear TW
      go_upto_region 12 with fail
      have HY3c := HY3.out
      have zb := HP3.out.lt
      have hwy : IntKind.wrap .i64 (y + xm) = y + xm := wrapI (by omega) (by omega)
      have hST : Stays (fun w' => Below b1 V3 w' ∧ CellsBox w' b3 64 [vi j, vi xm]) := fun a b h h' => ⟨h.1.trans (h'.mono (by have := h.1.size; omega)), h.2.keep h'⟩
      refine' wp_region_box (fun w' => Below b1 V3 w' ∧ CellsBox w' b3 64 [vi j, vi xm]) hST [0, 1, 2, 3, 5, 6] 4 100 (by kernel_rfl) (by kernel_rfl) rfl (by kernel_rfl) (by kernel_rfl) rfl (by kernel_rfl) ?hl5 ⟨Below.refl _ _, HS3.out⟩ ?hq5 ?hr5
      case hl5 =>
        simp only [List.map_cons, List.map_nil, List.getD_cons_zero, List.getD_cons_succ]
        exact rfl
      case hq5 =>
        intro w0 K
        have m0 := K.2.cell (j := 0) rfl
        have m1 := K.2.cell (j := 1) rfl
        have m3 := K.2.lt
        (repeat (go_big_quiet_step (fail)))
        exact wpQuiet_nil rfl
      case hr5 =>
        refine wpUp_one (i := 4) (by kernel_rfl) rfl rfl (fun wa b1' b2' Ka hKa => ?_)
        have y0 : wa.cell? ⟨b1, j, none⟩ = some (vi y) := cell_keep b1' HY3c
        have zy : b1 < wa.heap.size := cell_lt y0
        go_simp
        refine hKa _ _ b2' ?_
        refine wpUp_one (i := 7) (by kernel_rfl) rfl rfl (fun wb c1 c2 Kb hKb => ?_)
        go_simp
        refine hKb _ _ c2 ?_
        refine wpUp_one (i := 8) (by kernel_rfl) rfl rfl (fun wx f1 f2 Kx hKx => ?_)
        go_simp
        refine hKx _ _ f2 ?_
        refine wpUp_one (i := 9) (by kernel_rfl) rfl rfl (fun wc d1 d2 Kc hKc => ?_)
        have HBc : Below V3.heap.size V3 wc := gr_trans (gr_trans (gr_trans b1' c1) f1) d1
        have YB := HP3.out.keep HBc
        have y1 : wc.cell? ⟨b1, j, none⟩ = some (vi y) := cell_keep HBc HY3c
        have e1 := YB.frozen j
        have zc : b1 < wc.heap.size := YB.lt
        go_simp
        have hS9 := d2.2.apart ⟨b1, j, none⟩ (vi (y + xm)) (by simp only; omega)
        refine hKc _ _ ⟨d2.1.setCell (Nat.le_refl _) _, hS9⟩ (wpUp_done (by kernel_rfl) (fun W9 g1 g2 => NoPanic.normal ?_))
        have ZB := (YB.store j (vi (y + xm))).keep g1
        have ZF := ((HX3.out.keep HBc).apart ⟨b1, j, none⟩ (vi (y + xm)) (by simp only; omega)).keep g1
        have ZS := Lib.hid (hS9.keep g1)
        have Zw : Below w.heap.size w W9 := by
          have e2 := (gr_trans_w hB3 HBc).setCell (p := ⟨b1, j, none⟩) (by simp only; omega) (vi (y + xm))
          exact gr_trans_w e2 g1
        have HZ : Hid (CellsBox W9 w.heap.size 28 f.cells ∧ CellsBox W9 b1 3 ((D (m + 1)).map vi)) := ⟨ZF, by rw [HD1.out, List.map_set]; exact ZB⟩
        clear hKa hKb hKc hKx f1 f2 ZB ZF YB b1' b2' c1 c2 d1 d2 g1 g2 HBc y0 y1 zy zc e1 hS9 a0 a4 za s0 s1 zs HX3 HP3 HY3 HS3 HY3c zb
        have a0 := HZ.out.1.cell (j := 0) rfl
        have za := HZ.out.1.lt
        have s0 := ZS.out.cell (j := 0) rfl
        have s1 := ZS.out.cell (j := 1) rfl
        have zs := ZS.out.lt
        obtain ⟨fb, fo, hfA, hfb, f0⟩ := ints_at (HF.out.to Zw).far HDD.out
        have zf := cell_lt f0
        rw [hfA] at a0
        clear hfA
        go_wp2_with fail
        go_quiet (fail)
        go_wp2_with fail
        have hbq := below_drewN (Below.refl W9.heap.size W9) nq
        go_roundw
        case rel => exact ⟨m + 1, p + xm, max q d, j, by omega, by go_num, rfl, rfl, rfl, ⟨by rw [HSK1.out, HPQ.out.1], by rw [HFS1.out, HPQ.out.2.1], HX6.out.symm⟩, Zw.trans (hbq.mono Zw.size), ⟨HZ.out.1.keep hbq, HZ.out.2.keep hbq⟩⟩
        case measure => simp [intOf]; omega
    · obtain rfl : m = tl.length := by omega
      have hpt : p = togetherF tl := by rw [HPQ.out.1]; exact SKE.out
      have hqt : q = farM f tl := by rw [HPQ.out.2.1, List.take_length]
      have hp1 : decide (p < 1) = false := decide_eq_false (by have := HP1.out; omega)
      have hp2 : decide (f.carry < p) = false := decide_eq_false (by omega)
      have HGE : Hid (goneM f (L.take (i + 1)) = goneM f (L.take i) + 2 * q) := by unfold Hid; rw [HGSK.out, hqt]
      have HXE : Hid (CellsBox wr w.heap.size 28 f.cells ∧ CellsBox wr b1 3 ((gotF Z (L.take (i + 1))).map vi)) := ⟨HXm.out.1, by rw [← KE.out]; exact HXm.out.2⟩
      obtain ⟨G, hG⟩ : ∃ G, G = goneM f (L.take i) := ⟨_, rfl⟩
      rw [← hG] at hgr HGE ⊢
      have hw2 : IntKind.wrap .i64 (2 * q) = 2 * q := wrapI (by omega) (by omega)
      clear hpt hqt hG HXm
      go_wp2_with fail
      go_roundw
      case rel => exact ⟨i + 1, by omega, by go_num, by rw [HGE.out], hBm, HXE⟩
      case measure => simp [intOf]; omega
  · obtain rfl : i = ts.length := by omega
    rw [FIN.out]
    have HXE := HXB.out.2
    rw [FIN.out] at HXE
    have hI := ints_of_cells (n := f.far.length) HXE (by rw [gotF_len]; exact hZl) (by omega)
    have HII := Lib.hid hI
    clear HXE hI
    go_wp2_with fail
    go_ret3
    exact ⟨some ⟨b1, 0, none⟩, rfl, HZE.out ▸ HII.out, hB⟩
end Go.Proofs.YtomgnpfpaodpiaaDoor
/- The answers at the chapter's floor, at the same with Until 47 for slip 2, and at the same without slips. -/
namespace Go.Proofs.YtomgnpfpaodpiaaDoor
open Go Go.RowKit
set_option maxHeartbeats 8000000
section
variable (a0 a1 a2 a3 a4 a5 a6 : Option Addr)
abbrev neverF (A : Option Addr) (c : Nat) : Floor := withF (chap a0 a1 a2 a3 a4 a5 a6) A c 2 47
abbrev noneF (A : Option Addr) (c : Nat) : Floor := leaveF (chap a0 a1 a2 a3 a4 a5 a6) [0, 1, 2, 3] A c
theorem x14 (w : World) (hl : Lim w) (h : FloorAt w w.heap.size (chap a0 a1 a2 a3 a4 a5 a6)) :
    Calls Tryd.prog 14 #[(chap a0 a1 a2 a3 a4 a5 a6).val, vi 4, .slice none 0 0] w fun e w' => ∃ x, e = .returned (.tuple #[.bool x, vi 31]) ∧ Below w.heap.size w w' := by
  have := IsTours_any (chap a0 a1 a2 a3 a4 a5 a6) 4 none 0 [] w hl h ⟨rows_none' w 1, fun t ht => by simp at ht⟩
  rw [show checkSlipV (chap a0 a1 a2 a3 a4 a5 a6) 4 = 31 from by kernel_rfl] at this
  refine this.mono ?_
  rintro e w' ⟨rfl, hb⟩
  exact ⟨_, rfl, hb⟩
theorem x22 (w : World) (hl : Lim w) (h : FloorAt w w.heap.size (chap a0 a1 a2 a3 a4 a5 a6)) :
    Calls Tryd.prog 22 #[(chap a0 a1 a2 a3 a4 a5 a6).val, vi (-1)] w fun e w' => ∃ x, e = .returned (.tuple #[x, vi 31]) ∧ Below w.heap.size w w' := by
  refine (Tours_any _ (-1) w hl h).mono ?_
  rintro e w' ⟨A, ts, rfl, hT, hts, hb⟩
  rw [show checkSlipV (chap a0 a1 a2 a3 a4 a5 a6) (-1) = 31 from by kernel_rfl]
  exact ⟨_, rfl, hb⟩
theorem x18 (w : World) (hl : Lim w) (h : FloorAt w w.heap.size (chap a0 a1 a2 a3 a4 a5 a6)) :
    Calls Tryd.prog 18 #[(chap a0 a1 a2 a3 a4 a5 a6).val, vi 4] w fun e w' => ∃ x : Int, e = .returned (.tuple #[vi x, vi 31]) ∧ Below w.heap.size w w' := by
  refine (Steps_any _ 4 w hl h).mono ?_
  rintro e w' ⟨rfl, hb⟩
  rw [show checkSlipV (chap a0 a1 a2 a3 a4 a5 a6) 4 = 31 from by kernel_rfl]
  exact ⟨_, rfl, hb⟩
theorem x20 (w : World) (hl : Lim w) (h : FloorAt w w.heap.size (chap a0 a1 a2 a3 a4 a5 a6)) :
    Calls Tryd.prog 20 #[(chap a0 a1 a2 a3 a4 a5 a6).val, vi 4] w fun e w' => ∃ x y : Int, e = .returned (.tuple #[.agg #[vi x, vi y], vi 31]) ∧ Below w.heap.size w w' := by
  refine (Takes_any _ 4 w hl h).mono ?_
  rintro e w' ⟨rfl, hb⟩
  rw [show checkSlipV (chap a0 a1 a2 a3 a4 a5 a6) 4 = 31 from by kernel_rfl]
  exact ⟨_, _, rfl, hb⟩
theorem x30a (w : World) (hl : Lim w) (h : FloorAt w w.heap.size (chap a0 a1 a2 a3 a4 a5 a6)) :
    Calls Tryd.prog 30 #[(chap a0 a1 a2 a3 a4 a5 a6).val, vi 0] w fun e w' => ∃ x, e = .returned (.tuple #[x, vi 31]) ∧ Below w.heap.size w w' := by
  refine (Late_any _ 0 w hl h).mono ?_
  rintro e w' ⟨A, rfl, -, hb⟩
  rw [show LateV (chap a0 a1 a2 a3 a4 a5 a6) 0 = ([], 31) from by kernel_rfl]
  exact ⟨_, rfl, hb⟩
theorem x30b (w : World) (hl : Lim w) (h : FloorAt w w.heap.size (chap a0 a1 a2 a3 a4 a5 a6)) :
    Calls Tryd.prog 30 #[(chap a0 a1 a2 a3 a4 a5 a6).val, vi 6] w fun e w' => ∃ x, e = .returned (.tuple #[x, vi 31]) ∧ Below w.heap.size w w' := by
  refine (Late_any _ 6 w hl h).mono ?_
  rintro e w' ⟨A, rfl, -, hb⟩
  rw [show LateV (chap a0 a1 a2 a3 a4 a5 a6) 6 = ([], 31) from by kernel_rfl]
  exact ⟨_, rfl, hb⟩
theorem x33 (w : World) (hl : Lim w) (h : FloorAt w w.heap.size (chap a0 a1 a2 a3 a4 a5 a6)) :
    Calls Tryd.prog 33 #[(chap a0 a1 a2 a3 a4 a5 a6).val, vi 4] w fun e w' => ∃ x : Int, e = .returned (.tuple #[vi x, vi 31]) ∧ Below w.heap.size w w' := by
  refine (Spare_any _ 4 w hl h).mono ?_
  rintro e w' ⟨v, c, rfl, hs, hb⟩
  have hc : checkSlipV (chap a0 a1 a2 a3 a4 a5 a6) 4 = 31 := by kernel_rfl
  have : c = 31 := by
    rcases hs with ⟨_, _, h3⟩ | ⟨h1, _⟩ | ⟨h1, _⟩
    · rw [h3, hc]
    · rw [hc] at h1; cases h1
    · rw [hc] at h1; cases h1
  subst this
  exact ⟨_, rfl, hb⟩
theorem x48 (w : World) (h : FloorAt w w.heap.size (chap a0 a1 a2 a3 a4 a5 a6)) :
    Calls Tryd.prog 48 #[(chap a0 a1 a2 a3 a4 a5 a6).val, vi 2, vi 47] w fun e w' => ∃ A c, e = .returned (neverF a0 a1 a2 a3 a4 a5 a6 A c).val ∧ FloorAt w' w'.heap.size (neverF a0 a1 a2 a3 a4 a5 a6 A c) ∧ Below w.heap.size w w' := by
  refine (until_any (chap a0 a1 a2 a3 a4 a5 a6) 2 _ rfl (show (4 : Nat) ≤ 9 by decide) 47 w h).mono ?_
  rintro e w' ⟨g, c, rfl, hF, hb⟩
  exact ⟨_, _, rfl, hF, hb⟩
theorem nv_few (A : Option Addr) (c : Nat) : fewF (neverF a0 a1 a2 a3 a4 a5 a6 A c) = none := by kernel_rfl
theorem nv_roster (A : Option Addr) (c : Nat) : (RosterV (neverF a0 a1 a2 a3 a4 a5 a6 A c)).2 = 4 := by kernel_rfl
theorem nv_late (A : Option Addr) (c : Nat) : LateV (neverF a0 a1 a2 a3 a4 a5 a6 A c) 5 = ([2], 0) := by kernel_rfl
theorem x28n (A : Option Addr) (c : Nat) (w : World) (hl : Lim w) (h : FloorAt w w.heap.size (neverF a0 a1 a2 a3 a4 a5 a6 A c)) :
    Calls Tryd.prog 28 #[(neverF a0 a1 a2 a3 a4 a5 a6 A c).val] w fun e w' => ∃ x, e = .returned (.tuple #[x, vi 4]) ∧ Below w.heap.size w w' := by
  refine (Roster_any _ w hl h).mono ?_
  rintro e w' ⟨B, ts, rfl, hT, hts, hb⟩
  rw [nv_roster a0 a1 a2 a3 a4 a5 a6 A c]
  exact ⟨_, rfl, hb⟩
theorem x33n (A : Option Addr) (c : Nat) (w : World) (hl : Lim w) (h : FloorAt w w.heap.size (neverF a0 a1 a2 a3 a4 a5 a6 A c)) :
    Calls Tryd.prog 33 #[(neverF a0 a1 a2 a3 a4 a5 a6 A c).val, vi 0] w fun e w' => ∃ x : Int, e = .returned (.tuple #[vi x, vi 4]) ∧ Below w.heap.size w w' := by
  refine (Spare_any _ 0 w hl h).mono ?_
  rintro e w' ⟨v, c', rfl, hs, hb⟩
  have hc : checkSlipV (neverF a0 a1 a2 a3 a4 a5 a6 A c) 0 = 0 := by kernel_rfl
  have hf := nv_few a0 a1 a2 a3 a4 a5 a6 A c
  have : c' = 4 := by
    rcases hs with ⟨h1, _, h3⟩ | ⟨_, _, _, h1⟩ | ⟨_, _, k, p, t, r, s, _, _, _, hp, _⟩
    · exact absurd hc h1
    · exact h1
    · rw [hf] at hp; cases hp
  subst this
  exact ⟨_, rfl, hb⟩
theorem x30n (A : Option Addr) (c : Nat) (w : World) (hl : Lim w) (h : FloorAt w w.heap.size (neverF a0 a1 a2 a3 a4 a5 a6 A c)) :
    Calls Tryd.prog 30 #[(neverF a0 a1 a2 a3 a4 a5 a6 A c).val, vi 5] w fun e w' => ∃ B, e = .returned (.tuple #[.slice B 1 1, vi 0]) ∧ IntsAt w' w'.heap.size B 1 [2] ∧ Below w.heap.size w w' := by
  have := Late_any _ 5 w hl h
  rw [nv_late] at this
  exact this
theorem y18 (w : World) (hl : Lim w) (h : FloorAt w w.heap.size (chap a0 a1 a2 a3 a4 a5 a6)) :
    Calls Tryd.prog 18 #[(chap a0 a1 a2 a3 a4 a5 a6).val, vi 0] w fun e w' => e = .returned (.tuple #[vi 100, vi 0]) ∧ Below w.heap.size w w' := by
  have := Steps_any _ 0 w hl h
  rw [show checkSlipV (chap a0 a1 a2 a3 a4 a5 a6) 0 = 0 from by kernel_rfl, show StepsV (chap a0 a1 a2 a3 a4 a5 a6) 0 = 100 from by kernel_rfl] at this
  exact this
theorem y20 (w : World) (hl : Lim w) (h : FloorAt w w.heap.size (chap a0 a1 a2 a3 a4 a5 a6)) :
    Calls Tryd.prog 20 #[(chap a0 a1 a2 a3 a4 a5 a6).val, vi 3] w fun e w' => e = .returned (.tuple #[.agg #[vi 225, vi 402], vi 0]) ∧ Below w.heap.size w w' := by
  have := Takes_any _ 3 w hl h
  rw [show checkSlipV (chap a0 a1 a2 a3 a4 a5 a6) 3 = 0 from by kernel_rfl, show TakesV (chap a0 a1 a2 a3 a4 a5 a6) 3 = (225, 402) from by kernel_rfl] at this
  exact this
theorem y22 (w : World) (hl : Lim w) (h : FloorAt w w.heap.size (chap a0 a1 a2 a3 a4 a5 a6)) :
    Calls Tryd.prog 22 #[(chap a0 a1 a2 a3 a4 a5 a6).val, vi 0] w fun e w' => ∃ A ts, e = .returned (.tuple #[.slice A ts.length ts.length, vi 0]) ∧ ToursAt w' w'.heap.size A ts.length ts ∧ ts.map STour.lines = ToursV (chap a0 a1 a2 a3 a4 a5 a6) 0 ∧ Below w.heap.size w w' := by
  have := Tours_any _ 0 w hl h
  rw [show checkSlipV (chap a0 a1 a2 a3 a4 a5 a6) 0 = 0 from by kernel_rfl] at this
  exact this
theorem y30 (w : World) (hl : Lim w) (h : FloorAt w w.heap.size (chap a0 a1 a2 a3 a4 a5 a6)) :
    Calls Tryd.prog 30 #[(chap a0 a1 a2 a3 a4 a5 a6).val, vi 2] w fun e w' => ∃ A, e = .returned (.tuple #[.slice A 0 0, vi 0]) ∧ Below w.heap.size w w' := by
  refine (Late_any _ 2 w hl h).mono ?_
  rintro e w' ⟨A, rfl, -, hb⟩
  rw [show LateV (chap a0 a1 a2 a3 a4 a5 a6) 2 = ([], 0) from by kernel_rfl]
  exact ⟨_, rfl, hb⟩
theorem y33 (w : World) (hl : Lim w) (h : FloorAt w w.heap.size (chap a0 a1 a2 a3 a4 a5 a6)) :
    Calls Tryd.prog 33 #[(chap a0 a1 a2 a3 a4 a5 a6).val, vi 1] w fun e w' => e = .returned (.tuple #[vi 140, vi 0]) ∧ Below w.heap.size w w' := by
  refine (Spare_any _ 1 w hl h).mono ?_
  rintro e w' ⟨v, c, rfl, hs, hb⟩
  have hc0 : checkSlipV (chap a0 a1 a2 a3 a4 a5 a6) 1 = 0 := by kernel_rfl
  have e1 : enoughF (chap a0 a1 a2 a3 a4 a5 a6) 1 2 139 = false := by kernel_rfl
  have e2 : enoughF (chap a0 a1 a2 a3 a4 a5 a6) 1 2 140 = true := by kernel_rfl
  have : v = 140 ∧ c = 0 := by
    rcases hs with ⟨h1, _, _⟩ | ⟨_, h1, _, _⟩ | ⟨_, hc, k, p, t, r, s, hk, hs, ht, hp, hv, hi⟩
    · exact absurd hc0 h1
    · rw [ch_few] at h1; cases h1
    · obtain rfl : k = 1 := by omega
      rw [ch_few] at hp
      cases hp
      have hs2 : (chap a0 a1 a2 a3 a4 a5 a6).slips[1]? = some ⟨a3, 1, [⟨1, 4⟩], 200⟩ := rfl
      rw [hs2] at hs
      cases hs
      obtain rfl : t = 200 := by simp at ht; omega
      have := spare_is (ch_valid a0 a1 a2 a3 a4 a5 a6) (by omega) hi (q := 140) (by omega) (fun j hj => by
        obtain rfl : j = 139 := by omega
        exact e1) e2
      exact ⟨by omega, hc⟩
  obtain ⟨rfl, rfl⟩ := this
  exact ⟨rfl, hb⟩
theorem y25 (t0 t1 A : Option Addr) (w : World) (hl : Lim w) (h : FloorAt w w.heap.size (chap a0 a1 a2 a3 a4 a5 a6)) (ht : RosterAt w w.heap.size A 2 [⟨t0, 4, [3, 2, 1, 0]⟩, ⟨t1, 0, []⟩]) :
    Calls Tryd.prog 25 #[(chap a0 a1 a2 a3 a4 a5 a6).val, .slice A 2 2] w fun e w' => ∃ R, e = .returned (.tuple #[.slice R 4 4, vi 0]) ∧ RowsAt w' w'.heap.size 2 R 4 ([(460, 842), (320, 590), (250, 450), (225, 402)].map spanC) ∧ Below w.heap.size w w' := by
  have := Done_any _ A 2 _ w hl h ht
  rw [show DoneV (chap a0 a1 a2 a3 a4 a5 a6) [⟨t0, 4, [3, 2, 1, 0]⟩, ⟨t1, 0, []⟩] = ([(460, 842), (320, 590), (250, 450), (225, 402)], 0) from by kernel_rfl] at this
  exact this
theorem y46 (B : Option Addr) (cap : Nat) (w : World) (h : FloorAt w w.heap.size (chap a0 a1 a2 a3 a4 a5 a6)) (hL : IntsAt w w.heap.size B cap [0, 1, 2, 3]) :
    Calls Tryd.prog 46 #[(chap a0 a1 a2 a3 a4 a5 a6).val, .slice B 4 cap] w fun e w' => ∃ A c, e = .returned (noneF a0 a1 a2 a3 a4 a5 a6 A c).val ∧ FloorAt w' w'.heap.size (noneF a0 a1 a2 a3 a4 a5 a6 A c) ∧ Below w.heap.size w w' :=
  leave_any _ (ch_valid a0 a1 a2 a3 a4 a5 a6) [0, 1, 2, 3] B cap w h hL
theorem nn_roster (A : Option Addr) (c : Nat) : RosterV (noneF a0 a1 a2 a3 a4 a5 a6 A c) = ([[]], 0) := by kernel_rfl
theorem nn_done (t0 : Option Addr) (A : Option Addr) (c : Nat) : DoneV (noneF a0 a1 a2 a3 a4 a5 a6 A c) [⟨t0, 0, []⟩] = ([], 0) := by kernel_rfl
theorem y28 (A : Option Addr) (c : Nat) (w : World) (hl : Lim w) (h : FloorAt w w.heap.size (noneF a0 a1 a2 a3 a4 a5 a6 A c)) :
    Calls Tryd.prog 28 #[(noneF a0 a1 a2 a3 a4 a5 a6 A c).val] w fun e w' => ∃ B C c', e = .returned (.tuple #[.slice B 1 1, vi 0]) ∧ RosterAt w' w'.heap.size B 1 [⟨C, c', []⟩] ∧ Below w.heap.size w w' := by
  refine (Roster_any _ w hl h).mono ?_
  rintro e w' ⟨B, ts, rfl, hT, hts, hb⟩
  rw [nn_roster] at hts ⊢
  match ts, hts with
  | [⟨C, c', l⟩], h1 =>
    have : l = [] := by simpa [natsC] using h1
    subst this
    exact ⟨B, C, c', rfl, hT, hb⟩
theorem y25n (t0 B : Option Addr) (A : Option Addr) (c : Nat) (w : World) (hl : Lim w) (h : FloorAt w w.heap.size (noneF a0 a1 a2 a3 a4 a5 a6 A c)) (ht : RosterAt w w.heap.size B 1 [⟨t0, 0, []⟩]) :
    Calls Tryd.prog 25 #[(noneF a0 a1 a2 a3 a4 a5 a6 A c).val, .slice B 1 1] w fun e w' => ∃ R, e = .returned (.tuple #[.slice R 0 0, vi 0]) ∧ Below w.heap.size w w' := by
  have := Done_any _ B 1 _ w hl h ht
  rw [nn_done] at this
  refine this.mono ?_
  rintro e w' ⟨R, rfl, -, hb⟩
  exact ⟨_, rfl, hb⟩
theorem tv_all : (ToursV (chap a0 a1 a2 a3 a4 a5 a6) 0).all (fun l => decide (1 ≤ l.length) && linesR 3 l && decide (togetherF l ≤ 4)) = true := by kernel_rfl
theorem tv_gone : goneM (chap a0 a1 a2 a3 a4 a5 a6) (ToursV (chap a0 a1 a2 a3 a4 a5 a6) 0) = 100 := by kernel_rfl
theorem tv_len : (ToursV (chap a0 a1 a2 a3 a4 a5 a6) 0).length ≤ 1000 := by
  have : (ToursV (chap a0 a1 a2 a3 a4 a5 a6) 0).length ≤ 1000 ↔ True := by
    rw [← decide_eq_true_iff (p := (ToursV (chap a0 a1 a2 a3 a4 a5 a6) 0).length ≤ 1000)]
    rw [show decide ((ToursV (chap a0 a1 a2 a3 a4 a5 a6) 0).length ≤ 1000) = true from by kernel_rfl]
    simp
  exact this.2 trivial
theorem y37 (A : Option Addr) (ts : List STour) (w : World) (h : FloorAt w w.heap.size (chap a0 a1 a2 a3 a4 a5 a6)) (ht : ToursAt w w.heap.size A ts.length ts) (e : ts.map STour.lines = ToursV (chap a0 a1 a2 a3 a4 a5 a6) 0) :
    Calls Tryd.prog 37 #[(chap a0 a1 a2 a3 a4 a5 a6).val, .slice A ts.length ts.length] w fun e w' => ∃ R, e = .returned (.tuple #[.slice R 3 3, vi 100, .bool true]) ∧ Below w.heap.size w w' := by
  have hA := tv_all a0 a1 a2 a3 a4 a5 a6
  rw [← e, List.all_map, List.all_eq_true] at hA
  have hle := tv_len a0 a1 a2 a3 a4 a5 a6
  rw [← e, List.length_map] at hle
  refine (fetched_any (chap a0 a1 a2 a3 a4 a5 a6) (ch_valid a0 a1 a2 a3 a4 a5 a6) A ts.length ts (fun t h1 => ?_) hle w h ht).mono ?_
  · have := hA t h1
    simp only [Function.comp, Bool.and_eq_true, decide_eq_true_eq] at this
    exact ⟨this.1.1, this.1.2, this.2⟩
  · rintro e' w' ⟨R, rfl, -, hb⟩
    rw [e, tv_gone]
    exact ⟨R, rfl, hb⟩
end
end Go.Proofs.YtomgnpfpaodpiaaDoor
/- The floors in SlipKnown's boxes, by name. -/
namespace Go.Proofs.YtomgnpfpaodpiaaDoor
open Go Go.RowKit
set_option maxHeartbeats 4000000
def Never (f : Floor) : Prop := ∃ a0 a1 a2 a3 a4 a5 a6 A c, f = neverF a0 a1 a2 a3 a4 a5 a6 A c
def Nobody (f : Floor) : Prop := ∃ a0 a1 a2 a3 a4 a5 a6 A c, f = noneF a0 a1 a2 a3 a4 a5 a6 A c
theorem x28N {f : Floor} (hN : Never f) (w : World) (hl : Lim w) (h : FloorAt w w.heap.size f) : Calls Tryd.prog 28 #[f.val] w fun e w' => ∃ x, e = .returned (.tuple #[x, vi 4]) ∧ Below w.heap.size w w' := by
  obtain ⟨a0, a1, a2, a3, a4, a5, a6, A, c, rfl⟩ := hN
  exact x28n a0 a1 a2 a3 a4 a5 a6 A c w hl h
theorem x33N {f : Floor} (hN : Never f) (w : World) (hl : Lim w) (h : FloorAt w w.heap.size f) : Calls Tryd.prog 33 #[f.val, vi 0] w fun e w' => ∃ x : Int, e = .returned (.tuple #[vi x, vi 4]) ∧ Below w.heap.size w w' := by
  obtain ⟨a0, a1, a2, a3, a4, a5, a6, A, c, rfl⟩ := hN
  exact x33n a0 a1 a2 a3 a4 a5 a6 A c w hl h
theorem x30N {f : Floor} (hN : Never f) (w : World) (hl : Lim w) (h : FloorAt w w.heap.size f) : Calls Tryd.prog 30 #[f.val, vi 5] w fun e w' => ∃ B, e = .returned (.tuple #[.slice B 1 1, vi 0]) ∧ IntsAt w' w'.heap.size B 1 [2] ∧ Below w.heap.size w w' := by
  obtain ⟨a0, a1, a2, a3, a4, a5, a6, A, c, rfl⟩ := hN
  exact x30n a0 a1 a2 a3 a4 a5 a6 A c w hl h
theorem x48N (a0 a1 a2 a3 a4 a5 a6 : Option Addr) (w : World) (h : FloorAt w w.heap.size (chap a0 a1 a2 a3 a4 a5 a6)) :
    Calls Tryd.prog 48 #[(chap a0 a1 a2 a3 a4 a5 a6).val, vi 2, vi 47] w fun e w' => ∃ f : Floor, e = .returned f.val ∧ Never f ∧ FloorAt w' w'.heap.size f ∧ Below w.heap.size w w' := by
  refine (x48 a0 a1 a2 a3 a4 a5 a6 w h).mono ?_
  rintro e w' ⟨A, c, rfl, hF, hb⟩
  exact ⟨_, rfl, ⟨a0, a1, a2, a3, a4, a5, a6, A, c, rfl⟩, hF, hb⟩
theorem y46N (a0 a1 a2 a3 a4 a5 a6 : Option Addr) (B : Option Addr) (w : World) (h : FloorAt w w.heap.size (chap a0 a1 a2 a3 a4 a5 a6)) (hL : IntsAt w w.heap.size B 4 [0, 1, 2, 3]) :
    Calls Tryd.prog 46 #[(chap a0 a1 a2 a3 a4 a5 a6).val, .slice B 4 4] w fun e w' => ∃ f : Floor, e = .returned f.val ∧ Nobody f ∧ FloorAt w' w'.heap.size f ∧ Below w.heap.size w w' := by
  refine (y46 a0 a1 a2 a3 a4 a5 a6 B 4 w h hL).mono ?_
  rintro e w' ⟨A, c, rfl, hF, hb⟩
  exact ⟨_, rfl, ⟨a0, a1, a2, a3, a4, a5, a6, A, c, rfl⟩, hF, hb⟩
theorem y28N {f : Floor} (hN : Nobody f) (w : World) (hl : Lim w) (h : FloorAt w w.heap.size f) : Calls Tryd.prog 28 #[f.val] w fun e w' => ∃ B C c', e = .returned (.tuple #[.slice B 1 1, vi 0]) ∧ RosterAt w' w'.heap.size B 1 [⟨C, c', []⟩] ∧ Below w.heap.size w w' := by
  obtain ⟨a0, a1, a2, a3, a4, a5, a6, A, c, rfl⟩ := hN
  exact y28 a0 a1 a2 a3 a4 a5 a6 A c w hl h
theorem y25N {f : Floor} (hN : Nobody f) (t0 B : Option Addr) (w : World) (hl : Lim w) (h : FloorAt w w.heap.size f) (ht : RosterAt w w.heap.size B 1 [⟨t0, 0, []⟩]) : Calls Tryd.prog 25 #[f.val, .slice B 1 1] w fun e w' => ∃ R, e = .returned (.tuple #[.slice R 0 0, vi 0]) ∧ Below w.heap.size w w' := by
  obtain ⟨a0, a1, a2, a3, a4, a5, a6, A, c, rfl⟩ := hN
  exact y25n a0 a1 a2 a3 a4 a5 a6 t0 B A c w hl h ht
def tvL : List (List SLine) := ToursV (chap none none none none none none none) 0
theorem tv_is (a0 a1 a2 a3 a4 a5 a6 : Option Addr) : ToursV (chap a0 a1 a2 a3 a4 a5 a6) 0 = tvL := by kernel_rfl
theorem y22N (a0 a1 a2 a3 a4 a5 a6 : Option Addr) (w : World) (hl : Lim w) (h : FloorAt w w.heap.size (chap a0 a1 a2 a3 a4 a5 a6)) :
    Calls Tryd.prog 22 #[(chap a0 a1 a2 a3 a4 a5 a6).val, vi 0] w fun e w' => ∃ A ts, e = .returned (.tuple #[.slice A ts.length ts.length, vi 0]) ∧ ToursAt w' w'.heap.size A ts.length ts ∧ ts.map STour.lines = tvL ∧ Below w.heap.size w w' := by
  rw [← tv_is a0 a1 a2 a3 a4 a5 a6]
  exact y22 a0 a1 a2 a3 a4 a5 a6 w hl h
theorem y37N (a0 a1 a2 a3 a4 a5 a6 : Option Addr) (A : Option Addr) (ts : List STour) (e : ts.map STour.lines = tvL) (w : World) (h : FloorAt w w.heap.size (chap a0 a1 a2 a3 a4 a5 a6)) (ht : ToursAt w w.heap.size A ts.length ts) :
    Calls Tryd.prog 37 #[(chap a0 a1 a2 a3 a4 a5 a6).val, .slice A ts.length ts.length] w fun e w' => ∃ R, e = .returned (.tuple #[.slice R 3 3, vi 100, .bool true]) ∧ Below w.heap.size w w' :=
  y37 a0 a1 a2 a3 a4 a5 a6 A ts w h ht (e.trans (tv_is a0 a1 a2 a3 a4 a5 a6).symm)
def upN (a b : Nat) : Array Bool := (List.replicate a true ++ List.replicate b false).toArray
theorem wpUp_at {P : Program} {md : Region.Mode} {ops : Array Oper} {Q : Exit → Act → World → Prop} {C : World → Prop} {n : Nat} {listed : Array Bool} {a : Act} {w : World} (L : Array Bool) (h : listed = L) (hh : wpUp P md ops Q C n L a w) : wpUp P md ops Q C n listed a w := by rw [h]; exact hh
/-- a floor in a box of its own -/
structure BoxF (W : World) (b : Nat) (f : Floor) : Prop where
  box : CellsBox W b 28 f.cells
  fl : FloorAt W W.heap.size f
theorem BoxF.keep {W W' : World} {b : Nat} {f : Floor} (h : BoxF W b f) (hb : Below W.heap.size W W') : BoxF W' b f := ⟨h.box.keep hb, h.fl.to hb⟩
theorem BoxF.new {W : World} {f : Floor} (h : FloorAt W W.heap.size f) : BoxF (W.alloc (.cells f.cells.toArray 28)) W.heap.size f := ⟨CellsBox.new W 28 f.cells, h.to (below1 W _)⟩
theorem BoxF.cells {W : World} {b : Nat} {f : Floor} (h : BoxF W b f) : (W.cell? ⟨b, 0, none⟩ = some (.slice f.fA f.far.length f.fC) ∧ W.cell? ⟨b, 1, none⟩ = some (vi f.slo) ∧ W.cell? ⟨b, 2, none⟩ = some (vi f.shi)) ∧ (W.cell? ⟨b, 3, none⟩ = some (.slice f.pA f.picks.length f.pC) ∧ W.cell? ⟨b, 4, none⟩ = some (vi f.carry) ∧ W.cell? ⟨b, 5, none⟩ = some (.slice f.sA f.slips.length f.sC)) ∧ b < W.heap.size :=
  ⟨⟨h.box.cell (j := 0) rfl, h.box.cell (j := 1) rfl, h.box.cell (j := 2) rfl⟩, ⟨h.box.cell (j := 3) rfl, h.box.cell (j := 4) rfl, h.box.cell (j := 5) rfl⟩, h.box.lt⟩
end Go.Proofs.YtomgnpfpaodpiaaDoor
