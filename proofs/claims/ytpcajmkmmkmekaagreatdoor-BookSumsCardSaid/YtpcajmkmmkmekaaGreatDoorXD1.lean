/- What the specification's cost, turns, Prices, Last, Sum and Cheapest answer: plain mathematics. -/
import Derived.Test.YtpcajmkmmkmekaaGreatDoorXK14
import Derived.Test.YtpcajmkmmkmekaaGreatDoorXK16
import Derived.Test.YtpcajmkmmkmekaaGreatDoorXK6
import Derived.Test.YtpcajmkmmkmekaaGreatDoorXK11
set_option linter.unusedVariables false
set_option linter.unusedSimpArgs false
namespace Go.Proofs.YtpcajmkmmkmekaaGreatDoor
open Go Go.RowKit
/- the least price so far -/
def stepO (acc : Int) : Option Int → Int
  | none => acc
  | some p => if acc = 0 ∨ p < acc then p else acc
def sizeS (s : Int) (acc : Int) (f : Fit) : Int := if f.size = s ∧ (acc = 0 ∨ f.price < acc) then f.price else acc
def xoff (d : Int) (it : Item) (x : Issue) : Option Int := if holdsQ d d x then offerO x it else none
def costS (d : Int) (it : Item) (acc : Int) (x : Issue) : Int := stepO acc (xoff d it x)
def costN (l : List Issue) (d : Int) (it : Item) : Int := l.foldl (costS d it) 0
theorem fold_sizes {r : Rack} {y : Entry} (h : EntryOk r y) (s acc : Int) : y.sizes.foldl (sizeS s) acc = stepO acc (sizeO y.sizes s) := by
  have key : ∀ (l : List Fit), (∀ f ∈ l, f ∈ y.sizes) → l.Pairwise (fun f g => f.size ≠ g.size) → ∀ acc, l.foldl (sizeS s) acc = stepO acc (sizeO l s) := by
    intro l
    induction l with
    | nil => intro _ _ acc; rfl
    | cons f l ih =>
      intro hm hp acc
      rw [List.pairwise_cons] at hp
      rw [List.foldl_cons, ih (fun g hg => hm g (List.mem_cons_of_mem _ hg)) hp.2]
      by_cases hf : f.size = s
      · have hn : sizeO l s = none := by
          unfold sizeO
          rw [List.find?_eq_none.2 (fun g hg => by
            have := hp.1 g hg
            rw [hf] at this
            simpa using fun e => this e.symm)]
          rfl
        have hs : sizeO (f :: l) s = some f.price := by simp [sizeO, hf]
        rw [hn, hs]
        simp [stepO, sizeS, hf]
      · have hs : sizeO (f :: l) s = sizeO l s := by simp [sizeO, hf]
        rw [hs]
        simp [sizeS, hf]
  refine key y.sizes (fun _ h => h) ?_ acc
  rw [List.pairwise_iff_getElem]
  intro i j hi hj hij
  obtain ⟨d, rfl⟩ : ∃ d, j = i + d + 1 := ⟨j - i - 1, by omega⟩
  have := climb_far h.climb d i _ _ (List.getElem?_eq_getElem hi) (List.getElem?_eq_getElem hj)
  omega
theorem fold_cost {d : Int} {it : Item} : ∀ (l : List Issue) (acc : Int), 0 ≤ acc → (∀ x ∈ l, ∀ p, offerO x it = some p → 1 ≤ p) →
    0 ≤ l.foldl (costS d it) acc ∧ (l.foldl (costS d it) acc = 0 → acc = 0 ∧ ∀ x ∈ l, xoff d it x = none) ∧
    (l.foldl (costS d it) acc = acc ∨ ∃ x ∈ l, xoff d it x = some (l.foldl (costS d it) acc)) ∧ (acc ≠ 0 → l.foldl (costS d it) acc ≤ acc) ∧ ∀ x ∈ l, ∀ p, xoff d it x = some p → l.foldl (costS d it) acc ≤ p
  | [], acc, h, _ => by simp [h]
  | x :: l, acc, h, hp => by
    rw [List.foldl_cons]
    have hx := hp x (by simp)
    have h0 : 0 ≤ costS d it acc x := by
      unfold costS stepO xoff
      split
      · exact h
      · rename_i p e
        split
        · split at e
          · have := hx p e; omega
          · cases e
        · exact h
    obtain ⟨i0, i1, i2, i3, i4⟩ := fold_cost l (costS d it acc x) h0 (fun y hy => hp y (List.mem_cons_of_mem _ hy))
    cases ho : xoff d it x with
    | none =>
      have hc : costS d it acc x = acc := by simp [costS, stepO, ho]
      rw [hc] at i0 i1 i2 i3 i4 ⊢
      refine ⟨i0, fun hz => ⟨(i1 hz).1, fun y hy => ?_⟩, ?_, i3, fun y hy p hy2 => ?_⟩
      · rcases List.mem_cons.1 hy with rfl | hy
        · exact ho
        · exact (i1 hz).2 y hy
      · rcases i2 with i2 | ⟨y, hy, i2⟩
        · exact .inl i2
        · exact .inr ⟨y, List.mem_cons_of_mem _ hy, i2⟩
      · rcases List.mem_cons.1 hy with rfl | hy
        · rw [ho] at hy2; cases hy2
        · exact i4 y hy p hy2
    | some q =>
      have hq : 1 ≤ q := by
        unfold xoff at ho
        split at ho
        · exact hx q ho
        · cases ho
      have hc : costS d it acc x = if acc = 0 ∨ q < acc then q else acc := by simp [costS, stepO, ho]
      generalize hv : l.foldl (costS d it) (costS d it acc x) = v at *
      generalize hcv : costS d it acc x = c at *
      have hcq : c ≤ q ∧ c ≠ 0 ∧ (acc ≠ 0 → c ≤ acc) ∧ (c = acc ∨ c = q) := by
        rw [hc]
        split
        · refine ⟨by omega, by omega, by omega, by omega⟩
        · refine ⟨by omega, by omega, by omega, by omega⟩
      obtain ⟨c1, c2, c3, c4⟩ := hcq
      have hvc := i3 c2
      refine ⟨i0, fun hz => absurd (i1 hz).1 c2, ?_, fun ha => Int.le_trans hvc (c3 ha), fun y hy p hy2 => ?_⟩
      · rcases i2 with i2 | ⟨y, hy, i2⟩
        · rcases c4 with c4 | c4
          · exact .inl (i2.trans c4)
          · exact .inr ⟨x, by simp, by rw [ho, i2, c4]⟩
        · exact .inr ⟨y, List.mem_cons_of_mem _ hy, i2⟩
      · rcases List.mem_cons.1 hy with rfl | hy
        · rw [ho] at hy2
          cases hy2
          omega
        · exact i4 y hy p hy2
theorem cost_is {r : Rack} (h : RackOk r) (d : Int) (it : Item) : costN r.issues d it = (priceO r d it).getD 0 := by
  obtain ⟨f0, f1, f2, _, f4⟩ := fold_cost (d := d) (it := it) r.issues 0 (Int.le_refl _) (fun x hx p hp => (offer_pos (h.issues x hx) hp).1)
  change 0 ≤ costN r.issues d it at f0
  change costN r.issues d it = 0 → _ at f1
  change costN r.issues d it = 0 ∨ ∃ x ∈ r.issues, xoff d it x = some (costN r.issues d it) at f2
  change ∀ x ∈ r.issues, ∀ p, xoff d it x = some p → costN r.issues d it ≤ p at f4
  have hp := priceO_is r d it
  cases hP : priceO r d it with
  | none =>
    rw [hP] at hp
    rcases f2 with f2 | ⟨x, hx, f2⟩
    · simpa using f2
    · obtain ⟨i, hi⟩ := List.getElem?_of_mem hx
      unfold xoff at f2
      split at f2
      · rename_i hh
        rw [hp i x hi hh] at f2
        cases f2
      · cases f2
  | some q =>
    rw [hP] at hp
    obtain ⟨⟨i, x, e1, e2, e3⟩, e4⟩ := hp
    have hx := List.mem_of_getElem? e1
    have hxo : xoff d it x = some q := by unfold xoff; rw [if_pos e2, e3]
    have a1 := f4 x hx q hxo
    rcases f2 with f2 | ⟨y, hy, f2⟩
    · have := (f1 f2).2 x hx
      rw [hxo] at this
      cases this
    · obtain ⟨j, hj⟩ := List.getElem?_of_mem hy
      unfold xoff at f2
      split at f2
      · rename_i hh
        have := e4 j y _ hj hh f2
        simp
        omega
      · cases f2
theorem costN_succ {l : List Issue} {k : Nat} {x : Issue} (h : l[k]? = some x) (d : Int) (it : Item) : costN (l.take (k + 1)) d it = costS d it (costN (l.take k) d it) x := by
  obtain ⟨hk, rfl⟩ := List.getElem?_eq_some_iff.1 h
  rw [List.take_succ_eq_append_getElem hk, costN, List.foldl_append]
  rfl
theorem fold_succ {α β : Type} {l : List α} {k : Nat} {x : α} (h : l[k]? = some x) (f : β → α → β) (b : β) : (l.take (k + 1)).foldl f b = f ((l.take k).foldl f b) x := by
  obtain ⟨hk, rfl⟩ := List.getElem?_eq_some_iff.1 h
  rw [List.take_succ_eq_append_getElem hk, List.foldl_append]
  rfl
/- the days on which something can change -/
def turnA (a b : Int) (out : List Int) (e : Int) : List Int := if (a ≤ e ∧ e ≤ b) ∧ e ∉ out then out ++ [e] else out
def turnX (a b : Int) (out : List Int) (x : Issue) : List Int := turnA a b (turnA a b out x.lo) (x.held + 1)
def turnN (l : List Issue) (a b : Int) : List Int := l.foldl (turnX a b) [a]
theorem turnA_mem {a b e n : Int} {out : List Int} : n ∈ turnA a b out e ↔ n ∈ out ∨ (n = e ∧ a ≤ e ∧ e ≤ b) := by
  unfold turnA
  split
  · rename_i h
    rw [List.mem_append, List.mem_singleton]
    constructor
    · rintro (h1 | rfl)
      · exact .inl h1
      · exact .inr ⟨rfl, h.1⟩
    · rintro (h1 | ⟨rfl, _⟩)
      · exact .inl h1
      · exact .inr rfl
  · rename_i h
    constructor
    · exact .inl
    · rintro (h1 | ⟨rfl, h2⟩)
      · exact h1
      · exact Classical.byContradiction fun hn => h ⟨h2, hn⟩
theorem turnA_nodup {a b e : Int} {out : List Int} (h : out.Nodup) : (turnA a b out e).Nodup := by
  unfold turnA
  split
  · rename_i hc
    rw [List.nodup_append]
    refine ⟨h, by simp, fun x hx y hy => ?_⟩
    rw [List.mem_singleton] at hy
    subst hy
    rintro rfl
    exact hc.2 hx
  · exact h
theorem turnX_mem {a b n : Int} {out : List Int} {x : Issue} : n ∈ turnX a b out x ↔ n ∈ out ∨ (n = x.lo ∧ a ≤ x.lo ∧ x.lo ≤ b) ∨ (n = x.held + 1 ∧ a ≤ x.held + 1 ∧ x.held + 1 ≤ b) := by
  unfold turnX
  rw [turnA_mem, turnA_mem, or_assoc]
theorem turnN_mem {a b n : Int} (l : List Issue) : ∀ out : List Int, n ∈ l.foldl (turnX a b) out ↔ n ∈ out ∨ ∃ x ∈ l, (n = x.lo ∧ a ≤ x.lo ∧ x.lo ≤ b) ∨ (n = x.held + 1 ∧ a ≤ x.held + 1 ∧ x.held + 1 ≤ b) := by
  induction l with
  | nil => intro out; simp
  | cons x l ih =>
    intro out
    rw [List.foldl_cons, ih, turnX_mem]
    simp only [List.mem_cons, exists_eq_or_imp, or_assoc]
theorem turnN_nodup {a b : Int} (l : List Issue) : ∀ out : List Int, out.Nodup → (l.foldl (turnX a b) out).Nodup := by
  induction l with
  | nil => intro out h; exact h
  | cons x l ih =>
    intro out h
    rw [List.foldl_cons]
    exact ih _ (turnA_nodup (turnA_nodup h))
theorem turnN_range {a b n : Int} (hab : a ≤ b) {l : List Issue} (h : n ∈ turnN l a b) : a ≤ n ∧ n ≤ b := by
  unfold turnN at h
  rw [turnN_mem] at h
  rcases h with h | ⟨x, _, h | h⟩
  · rw [List.mem_singleton] at h; omega
  · omega
  · omega
theorem turnN_len {a b : Int} (l : List Issue) : (turnN l a b).length ≤ 1 + 2 * l.length := by
  have key : ∀ (l : List Issue) (out : List Int), (l.foldl (turnX a b) out).length ≤ out.length + 2 * l.length := by
    intro l
    induction l with
    | nil => intro out; simp
    | cons x l ih =>
      intro out
      rw [List.foldl_cons]
      have h1 := ih (turnX a b out x)
      have h2 : ∀ (o : List Int) (e : Int), (turnA a b o e).length ≤ o.length + 1 := by
        intro o e
        unfold turnA
        split <;> simp
      have h3 := h2 out x.lo
      have h4 := h2 (turnA a b out x.lo) (x.held + 1)
      have h5 : turnX a b out x = turnA a b (turnA a b out x.lo) (x.held + 1) := rfl
      rw [h5] at h1
      rw [List.length_cons]
      rw [h5]
      omega
  have := key l [a]
  simpa [turnN] using this
theorem greatest_below (d : Int) : ∀ (l : List Int) (a : Int), a ∈ l → a ≤ d → ∃ t ∈ l, t ≤ d ∧ ∀ u ∈ l, u ≤ d → u ≤ t
  | [], a, h, _ => by cases h
  | x :: l, a, h, had => by
    by_cases hex : ∃ u ∈ l, u ≤ d
    · obtain ⟨u, hu, hud⟩ := hex
      obtain ⟨t, ht, htd, hmax⟩ := greatest_below d l u hu hud
      by_cases hx : x ≤ d ∧ t < x
      · refine ⟨x, by simp, hx.1, fun v hv hvd => ?_⟩
        rcases List.mem_cons.1 hv with rfl | hv
        · omega
        · have := hmax v hv hvd; omega
      · refine ⟨t, List.mem_cons_of_mem _ ht, htd, fun v hv hvd => ?_⟩
        rcases List.mem_cons.1 hv with rfl | hv
        · omega
        · exact hmax v hv hvd
    · have hno : ∀ u ∈ l, ¬ u ≤ d := fun u hu hud => hex ⟨u, hu, hud⟩
      have hax : a = x := by
        rcases List.mem_cons.1 h with rfl | h
        · rfl
        · exact absurd had (hno a h)
      refine ⟨x, by simp, by omega, fun v hv hvd => ?_⟩
      rcases List.mem_cons.1 hv with rfl | hv
      · omega
      · exact absurd hvd (hno v hv)
/-- each day is like one on which something changed, that is no later -/
theorem turn_of {r : Rack} {a b d : Int} (h1 : a ≤ d) (h2 : d ≤ b) : ∃ t ∈ turnN r.issues a b, a ≤ t ∧ t ≤ d ∧ ∀ x ∈ r.issues, holdsQ t t x = holdsQ d d x := by
  obtain ⟨t, ht, htd, hmax⟩ := greatest_below d (turnN r.issues a b) a (by unfold turnN; rw [turnN_mem]; simp) h1
  have hat := (turnN_range (by omega) ht).1
  refine ⟨t, ht, hat, htd, fun x hx => ?_⟩
  rw [Bool.eq_iff_iff, holds_one, holds_one]
  have m1 : a ≤ x.lo → x.lo ≤ d → x.lo ≤ t := fun g1 g2 => hmax _ (by unfold turnN; rw [turnN_mem]; exact .inr ⟨x, hx, .inl ⟨rfl, g1, by omega⟩⟩) g2
  have m2 : a ≤ x.held + 1 → x.held + 1 ≤ d → x.held + 1 ≤ t := fun g1 g2 => hmax _ (by unfold turnN; rw [turnN_mem]; exact .inr ⟨x, hx, .inr ⟨rfl, g1, by omega⟩⟩) g2
  constructor
  · rintro ⟨g1, g2⟩
    refine ⟨by omega, ?_⟩
    by_cases hc : x.held + 1 ≤ d
    · have := m2 (by omega) hc; omega
    · omega
  · rintro ⟨g1, g2⟩
    refine ⟨?_, by omega⟩
    by_cases hc : a ≤ x.lo
    · exact m1 hc g1
    · omega
theorem price_like {r : Rack} {t d : Int} (h : ∀ x ∈ r.issues, holdsQ t t x = holdsQ d d x) (it : Item) : priceO r t it = priceO r d it := by
  have key : ∀ t d : Int, (∀ x ∈ r.issues, holdsQ t t x = holdsQ d d x) → ∀ p, priceO r t it = some p → ∃ q, priceO r d it = some q ∧ q ≤ p := by
    intro t d h p hp
    have a1 := priceO_is r t it
    rw [hp] at a1
    obtain ⟨⟨i, x, e1, e2, e3⟩, _⟩ := a1
    rw [h x (List.mem_of_getElem? e1)] at e2
    have a2 := priceO_is r d it
    cases hq : priceO r d it with
    | none =>
      rw [hq] at a2
      have := a2 i x e1 e2
      rw [e3] at this; cases this
    | some q =>
      rw [hq] at a2
      exact ⟨q, rfl, a2.2 i x p e1 e2 e3⟩
  cases hp : priceO r t it with
  | none =>
    cases hq : priceO r d it with
    | none => rfl
    | some q =>
      obtain ⟨p, hp2, _⟩ := key d t (fun x hx => (h x hx).symm) q hq
      rw [hp] at hp2; cases hp2
  | some p =>
    obtain ⟨q, hq, hle⟩ := key t d h p hp
    obtain ⟨p', hp', hle'⟩ := key d t (fun x hx => (h x hx).symm) q hq
    rw [hp] at hp'
    cases hp'
    rw [hq]
    congr 1
    omega
theorem sum_like {r : Rack} {t d : Int} (h : ∀ x ∈ r.issues, holdsQ t t x = holdsQ d d x) (ls : List Line) : sumO r t ls = sumO r d ls := by
  unfold sumO sumK
  have key : ∀ (ls : List Line) (acc : Option Int), (ls.map (quoteOf r t t)).foldl (sumKS t) acc = (ls.map (quoteOf r d d)).foldl (sumKS d) acc := by
    intro ls
    induction ls with
    | nil => intro acc; rfl
    | cons l ls ih =>
      intro acc
      simp only [List.map_cons, List.foldl_cons]
      have : sumKS t acc (quoteOf r t t l) = sumKS d acc (quoteOf r d d l) := by
        have e1 : priceF (offersOn r t t l.item) t = priceF (offersOn r d d l.item) d := price_like h l.item
        simp only [sumKS, quoteOf, e1]
      rw [this]
      exact ih _
  exact key ls _
/- strictly sorted lists with the same members are one -/
theorem climb_ext : ∀ (l m : List Int), l.Pairwise (· < ·) → m.Pairwise (· < ·) → (∀ x, x ∈ l ↔ x ∈ m) → l = m
  | [], [], _, _, _ => rfl
  | [], y :: m, _, _, h => absurd ((h y).2 (by simp)) (by simp)
  | x :: l, [], _, _, h => absurd ((h x).1 (by simp)) (by simp)
  | x :: l, y :: m, hl, hm, h => by
    rw [List.pairwise_cons] at hl hm
    have hxy : x = y := by
      have a1 := (h x).1 (by simp)
      have a2 := (h y).2 (by simp)
      rcases List.mem_cons.1 a1 with a1 | a1
      · exact a1
      · rcases List.mem_cons.1 a2 with a2 | a2
        · exact a2.symm
        · have := hm.1 x a1
          have := hl.1 y a2
          omega
    subst hxy
    congr 1
    refine climb_ext l m hl.2 hm.2 fun z => ?_
    constructor
    · intro hz
      have := hl.1 z hz
      rcases List.mem_cons.1 ((h z).1 (List.mem_cons_of_mem _ hz)) with rfl | h2
      · omega
      · exact h2
    · intro hz
      have := hm.1 z hz
      rcases List.mem_cons.1 ((h z).2 (List.mem_cons_of_mem _ hz)) with rfl | h2
      · omega
      · exact h2
theorem sorted_lt {l : List Int} (h : l.Nodup) : (sorted l).Pairwise (· < ·) := by
  have h1 := sorted_le l
  have h2 : (sorted l).Nodup := (List.mergeSort_perm _ _).nodup_iff.2 h
  exact (List.Pairwise.and h1 h2).imp fun ⟨h3, h4⟩ => by omega
theorem sorted_len (l : List Int) : (sorted l).length = l.length := (List.mergeSort_perm _ _).length_eq
/- the prices on these days -/
def metA (met : List Int) (n : Int) : List Int := if 0 < n ∧ n ∉ met then met ++ [n] else met
def metN (r : Rack) (it : Item) (l : List Int) : List Int := l.foldl (fun met t => metA met (costN r.issues t it)) []
theorem metA_mem {met : List Int} {n p : Int} : p ∈ metA met n ↔ p ∈ met ∨ (p = n ∧ 0 < n) := by
  unfold metA
  split
  · rename_i h
    rw [List.mem_append, List.mem_singleton]
    constructor
    · rintro (h1 | rfl)
      · exact .inl h1
      · exact .inr ⟨rfl, h.1⟩
    · rintro (h1 | ⟨rfl, _⟩)
      · exact .inl h1
      · exact .inr rfl
  · rename_i h
    constructor
    · exact .inl
    · rintro (h1 | ⟨rfl, h2⟩)
      · exact h1
      · exact Classical.byContradiction fun hn => h ⟨h2, hn⟩
theorem metA_nodup {met : List Int} {n : Int} (h : met.Nodup) : (metA met n).Nodup := by
  unfold metA
  split
  · rename_i hc
    rw [List.nodup_append]
    refine ⟨h, by simp, fun x hx y hy => ?_⟩
    rw [List.mem_singleton] at hy
    subst hy
    rintro rfl
    exact hc.2 hx
  · exact h
theorem metN_is (r : Rack) (it : Item) : ∀ (l met : List Int), met.Nodup → (l.foldl (fun met t => metA met (costN r.issues t it)) met).Nodup ∧ ∀ p, p ∈ l.foldl (fun met t => metA met (costN r.issues t it)) met ↔ p ∈ met ∨ ∃ t ∈ l, p = costN r.issues t it ∧ 0 < p
  | [], met, h => by simp [h]
  | t :: l, met, h => by
    rw [List.foldl_cons]
    obtain ⟨h1, h2⟩ := metN_is r it l (metA met (costN r.issues t it)) (metA_nodup h)
    refine ⟨h1, fun p => ?_⟩
    rw [h2, metA_mem]
    simp only [List.mem_cons, exists_eq_or_imp, or_assoc]
    constructor
    · rintro (h3 | ⟨h3, h4⟩ | h3)
      · exact .inl h3
      · exact .inr (.inl ⟨h3, by omega⟩)
      · exact .inr (.inr h3)
    · rintro (h3 | ⟨h3, h4⟩ | h3)
      · exact .inl h3
      · exact .inr (.inl ⟨h3, by omega⟩)
      · exact .inr (.inr h3)
theorem metA_len (met : List Int) (n : Int) : (metA met n).length ≤ met.length + 1 := by
  unfold metA
  split <;> simp
theorem prices_turns {r : Rack} (h : RackOk r) {a b : Int} (hab : a ≤ b) (it : Item) : sorted (metN r it (sorted (turnN r.issues a b))) = pricesOn r a b it := by
  obtain ⟨n1, n2⟩ := metN_is r it (sorted (turnN r.issues a b)) [] (by simp)
  change (metN r it (sorted (turnN r.issues a b))).Nodup at n1
  change ∀ p, p ∈ metN r it (sorted (turnN r.issues a b)) ↔ _ at n2
  refine climb_ext _ _ (sorted_lt n1) (sorted_lt (prices_nodup _)) fun p => ?_
  change p ∈ sorted (metN r it (sorted (turnN r.issues a b))) ↔ p ∈ pricesOn r a b it
  rw [sorted_mem, n2, pricesOn_mem hab]
  constructor
  · rintro (h0 | ⟨t, ht, h1, h2⟩)
    · cases h0
    · rw [sorted_mem] at ht
      obtain ⟨g1, g2⟩ := turnN_range hab ht
      refine ⟨t, g1, g2, ?_⟩
      rw [cost_is h] at h1
      cases hp : priceO r t it with
      | none => rw [hp] at h1; simp at h1; omega
      | some q => rw [hp] at h1; simp at h1; rw [h1]
  · rintro ⟨d, h1, h2, h3⟩
    obtain ⟨t, ht, _, _, ht4⟩ := turn_of (r := r) h1 h2
    refine .inr ⟨t, sorted_mem _ _ |>.2 ht, ?_, ?_⟩
    · rw [cost_is h, price_like ht4, h3]; rfl
    · have := price_pos h h3; omega
/- the last day -/
def lastS (r : Rack) (it : Item) (last : Int) (x : Issue) : Int := if last < x.held ∧ 0 < costN r.issues x.held it then x.held else last
def lastN (r : Rack) (it : Item) (l : List Issue) : Int := l.foldl (lastS r it) (-1)
theorem lastN_is (r : Rack) (it : Item) : ∀ (l : List Issue) (m : Int), m ≤ l.foldl (lastS r it) m ∧ (∀ x ∈ l, 0 < costN r.issues x.held it → x.held ≤ l.foldl (lastS r it) m) ∧ (l.foldl (lastS r it) m = m ∨ ∃ x ∈ l, x.held = l.foldl (lastS r it) m ∧ 0 < costN r.issues x.held it)
  | [], m => by simp
  | x :: l, m => by
    rw [List.foldl_cons]
    obtain ⟨h1, h2, h3⟩ := lastN_is r it l (lastS r it m x)
    have hs : m ≤ lastS r it m x ∧ (0 < costN r.issues x.held it → x.held ≤ lastS r it m x) ∧ (lastS r it m x = m ∨ (lastS r it m x = x.held ∧ 0 < costN r.issues x.held it)) := by
      unfold lastS
      split
      · rename_i hc; exact ⟨by omega, fun _ => by omega, .inr ⟨rfl, hc.2⟩⟩
      · rename_i hc; exact ⟨by omega, fun hp => by omega, .inl rfl⟩
    obtain ⟨s1, s2, s3⟩ := hs
    refine ⟨by omega, fun y hy hp => ?_, ?_⟩
    · rcases List.mem_cons.1 hy with rfl | hy
      · have := s2 hp; omega
      · exact h2 y hy hp
    · rcases h3 with h3 | ⟨y, hy, h4, h5⟩
      · rcases s3 with s3 | ⟨s3, s4⟩
        · exact .inl (h3.trans s3)
        · exact .inr ⟨x, by simp, by rw [h3, s3], s4⟩
      · exact .inr ⟨y, List.mem_cons_of_mem _ hy, h4, h5⟩
theorem last_turns {r : Rack} (h : RackOk r) (it : Item) : lastN r it r.issues = if 0 < (lastOn r it).length then lastF (lastOn r it) else -1 := by
  obtain ⟨h1, h2, h3⟩ := lastN_is r it r.issues (-1)
  change -1 ≤ lastN r it r.issues at h1
  change ∀ x ∈ r.issues, 0 < costN r.issues x.held it → x.held ≤ lastN r it r.issues at h2
  change lastN r it r.issues = -1 ∨ ∃ x ∈ r.issues, x.held = lastN r it r.issues ∧ 0 < costN r.issues x.held it at h3
  have hpos : ∀ d, 0 < costN r.issues d it ↔ (priceO r d it).isSome = true := by
    intro d
    rw [cost_is h]
    cases hp : priceO r d it with
    | none => simp
    | some q => have := price_pos h hp; simp; omega
  split
  · rename_i hn
    obtain ⟨l1, l2, l3, l4⟩ := last_some h hn
    have key : ∃ x ∈ r.issues, x.held = lastF (lastOn r it) := by
      obtain ⟨q, hq⟩ := Option.isSome_iff_exists.1 l3
      have hp := priceO_is r (lastF (lastOn r it)) it
      rw [hq] at hp
      obtain ⟨⟨i, x, e1, e2, e3⟩, _⟩ := hp
      have hx := List.mem_of_getElem? e1
      have hh := holds_one.1 e2
      have ok := h.issues x hx
      have hxh : (priceO r x.held it).isSome = true := by
        have hp := priceO_is r x.held it
        cases hP : priceO r x.held it with
        | none =>
          rw [hP] at hp
          have := hp i x e1 (holds_one.2 ⟨ok.h1, Int.le_refl _⟩)
          rw [e3] at this; cases this
        | some _ => rfl
      refine ⟨x, hx, ?_⟩
      by_cases hlt : lastF (lastOn r it) < x.held
      · rw [l4 _ hlt] at hxh; cases hxh
      · omega
    obtain ⟨x, hx, he⟩ := key
    have a1 := h2 x hx ((hpos _).2 (by rw [he]; exact l3))
    rcases h3 with h3 | ⟨y, hy, h4, h5⟩
    · omega
    · by_cases hlt : lastF (lastOn r it) < lastN r it r.issues
      · have := (hpos _).1 h5
        rw [h4, l4 _ hlt] at this; cases this
      · omega
  · rename_i hn
    rcases h3 with h3 | ⟨y, hy, h4, h5⟩
    · exact h3
    · have := (hpos _).1 h5
      rw [last_none h hn] at this; cases this
/- the cheapest day -/
def cheapT (r : Rack) (ls : List Line) (l : List Int) : Option (Int × Int) := l.foldl (fun acc t => cheapS acc t (sumO r t ls)) none
theorem cheapT_is (r : Rack) (ls : List Line) : ∀ (l : List Int) (acc : Option (Int × Int)), l.Pairwise (· < ·) → (∀ p, acc = some p → ∀ t ∈ l, p.1 < t) →
    match l.foldl (fun acc t => cheapS acc t (sumO r t ls)) acc with
    | none => acc = none ∧ ∀ t ∈ l, sumO r t ls = none
    | some (d, n) => (acc = some (d, n) ∨ (d ∈ l ∧ sumO r d ls = some n)) ∧ (∀ p, acc = some p → n < p.2 ∨ (n = p.2 ∧ d ≤ p.1)) ∧ ∀ t v, t ∈ l → sumO r t ls = some v → n < v ∨ (n = v ∧ d ≤ t)
  | [], acc, _, _ => by
    cases acc with
    | none => simp
    | some p => simp
  | t :: l, acc, hp, ha => by
    rw [List.pairwise_cons] at hp
    rw [List.foldl_cons]
    have hnext : ∀ p, cheapS acc t (sumO r t ls) = some p → ∀ u ∈ l, p.1 < u := by
      intro p hs u hu
      have htu := hp.1 u hu
      unfold cheapS at hs
      split at hs
      · split at hs
        · rename_i q
          have hq := ha q rfl u (List.mem_cons_of_mem _ hu)
          split at hs
          · cases hs; exact htu
          · cases hs; exact hq
        · cases hs; exact htu
      · exact ha p hs u (List.mem_cons_of_mem _ hu)
    have ih := cheapT_is r ls l (cheapS acc t (sumO r t ls)) hp.2 hnext
    have hst : match cheapS acc t (sumO r t ls) with
        | none => acc = none ∧ sumO r t ls = none
        | some (d, n) => (acc = some (d, n) ∨ (d = t ∧ sumO r t ls = some n)) ∧ (∀ p, acc = some p → n < p.2 ∨ (n = p.2 ∧ d ≤ p.1)) ∧ ∀ v, sumO r t ls = some v → n < v ∨ (n = v ∧ d ≤ t) := by
      cases hs : sumO r t ls with
      | none =>
        cases acc with
        | none => simp [cheapS]
        | some p => simp [cheapS]
      | some v =>
        cases acc with
        | none => simp [cheapS]
        | some p =>
          obtain ⟨pd, pn⟩ := p
          have hq := ha _ rfl t (by simp)
          simp only [cheapS]
          by_cases hlt : v < pn
          · rw [if_pos hlt]
            refine ⟨.inr ⟨rfl, rfl⟩, fun p hp => ?_, fun u hu => ?_⟩
            · cases hp; exact .inl hlt
            · cases hu; exact .inr ⟨rfl, Int.le_refl _⟩
          · rw [if_neg hlt]
            simp only at hq
            refine ⟨.inl rfl, fun p hp => ?_, fun u hu => ?_⟩
            · cases hp; exact .inr ⟨rfl, Int.le_refl _⟩
            · cases hu
              by_cases he : pn = v
              · exact .inr ⟨he, by omega⟩
              · left; omega
    generalize cheapS acc t (sumO r t ls) = acc2 at *
    cases hf : l.foldl (fun acc t => cheapS acc t (sumO r t ls)) acc2 with
    | none =>
      rw [hf] at ih
      obtain ⟨i1, i2⟩ := ih
      subst i1
      refine ⟨hst.1, fun u hu => ?_⟩
      rcases List.mem_cons.1 hu with rfl | hu
      · exact hst.2
      · exact i2 u hu
    | some p =>
      obtain ⟨d, n⟩ := p
      rw [hf] at ih
      obtain ⟨i1, i2, i3⟩ := ih
      cases acc2 with
      | none =>
        obtain ⟨s1, s2⟩ := hst
        subst s1
        refine ⟨?_, (fun p hp => by cases hp), fun u v hu hv => ?_⟩
        · rcases i1 with i1 | ⟨i1, i4⟩
          · cases i1
          · exact .inr ⟨List.mem_cons_of_mem _ i1, i4⟩
        · rcases List.mem_cons.1 hu with rfl | hu
          · rw [s2] at hv; cases hv
          · exact i3 u v hu hv
      | some q =>
        obtain ⟨qd, qn⟩ := q
        obtain ⟨s1, s2, s3⟩ := hst
        have i2' := i2 _ rfl
        simp only at i2'
        refine ⟨?_, fun p hp => ?_, fun u v hu hv => ?_⟩
        · rcases i1 with i1 | ⟨i1, i4⟩
          · cases i1
            rcases s1 with s1 | ⟨s1, s4⟩
            · exact .inl s1
            · subst s1; exact .inr ⟨by simp, s4⟩
          · exact .inr ⟨List.mem_cons_of_mem _ i1, i4⟩
        · have := s2 p hp; omega
        · rcases List.mem_cons.1 hu with rfl | hu
          · have := s3 v hv; omega
          · exact i3 u v hu hv
theorem cheap_turns (r : Rack) {a b : Int} (hab : a ≤ b) (ls : List Line) : cheapT r ls (sorted (turnN r.issues a b)) = cheapO r a b ls := by
  have hnd : (turnN r.issues a b).Nodup := turnN_nodup _ _ (by simp)
  have h1 := cheapT_is r ls (sorted (turnN r.issues a b)) none (sorted_lt hnd) (fun p hp => by cases hp)
  change match cheapT r ls (sorted (turnN r.issues a b)) with | none => _ | some (d, n) => _ at h1
  have h2 := cheap_is (r := r) hab ls
  cases hT : cheapT r ls (sorted (turnN r.issues a b)) with
  | none =>
    rw [hT] at h1
    cases hO : cheapO r a b ls with
    | none => rfl
    | some p =>
      obtain ⟨d, n⟩ := p
      rw [hO] at h2
      obtain ⟨g1, g2, g3, _⟩ := h2
      obtain ⟨t, ht, _, _, ht4⟩ := turn_of (r := r) g1 g2
      have := h1.2 t ((sorted_mem _ _).2 ht)
      rw [sum_like ht4, g3] at this
      cases this
  | some p =>
    obtain ⟨d, n⟩ := p
    rw [hT] at h1
    obtain ⟨k1, _, k3⟩ := h1
    have k1 : d ∈ sorted (turnN r.issues a b) ∧ sumO r d ls = some n := by
      rcases k1 with k1 | k1
      · cases k1
      · exact k1
    obtain ⟨m1, m2⟩ := k1
    rw [sorted_mem] at m1
    obtain ⟨r1, r2⟩ := turnN_range hab m1
    cases hO : cheapO r a b ls with
    | none =>
      rw [hO] at h2
      have := h2 d r1 r2
      rw [m2] at this; cases this
    | some q =>
      obtain ⟨e, v⟩ := q
      rw [hO] at h2
      obtain ⟨g1, g2, g3, g4⟩ := h2
      have b1 := g4 d n r1 r2 m2
      obtain ⟨t, ht, ht2, ht3, ht4⟩ := turn_of (r := r) g1 g2
      have hst : sumO r t ls = some v := by rw [sum_like ht4, g3]
      have b2 := k3 t v ((sorted_mem _ _).2 ht) hst
      have b3 := g4 t v ht2 (by omega) hst
      have e1 : d = e := by omega
      have e2 : n = v := by omega
      rw [e1, e2]
end Go.Proofs.YtpcajmkmmkmekaaGreatDoor

