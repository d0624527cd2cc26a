/- What Prices and Last answer: plain mathematics. -/
import Derived.Test.YtpcajmkmmkmekaaGreatDoorXK8
import Derived.Test.YtpcajmkmmkmekaaGreatDoorGj
set_option linter.unusedVariables false
set_option linter.unusedSimpArgs false
namespace Go.Proofs.YtpcajmkmmkmekaaGreatDoor
open Go Go.RowKit
theorem priceF_filter (d : Int) (l : List (Issue × Int)) : priceF l d = priceF (l.filter fun o => holdsQ d d o.1) d := by
  unfold priceF
  rw [List.foldl_filter]
  congr 1
  funext acc o
  unfold priceS
  by_cases h : holdsQ d d o.1 = true
  · simp [h]
  · simp [h]
theorem price_on {r : Rack} {a b d : Int} {it : Item} (h1 : a ≤ d) (h2 : d ≤ b) : priceF (offersOn r a b it) d = priceO r d it := by
  have hm : ∀ x p, (x, p) ∈ (offersOn r a b it).filter (fun o => holdsQ d d o.1) ↔ ∃ i : Nat, r.issues[i]? = some x ∧ holdsQ d d x = true ∧ offerO x it = some p := by
    intro x p
    rw [List.mem_filter]
    constructor
    · rintro ⟨h, hh⟩
      obtain ⟨i, e1, _, e3⟩ := offers_mem.1 h
      exact ⟨i, e1, hh, e3⟩
    · rintro ⟨i, e1, e2, e3⟩
      refine ⟨offers_mem.2 ⟨i, e1, ?_, e3⟩, e2⟩
      have := holds_one.1 e2
      simp only [holdsQ, meetB, Bool.and_eq_true, decide_eq_true_eq]
      omega
  have hf := priceF_is d ((offersOn r a b it).filter fun o => holdsQ d d o.1) none (fun o ho => (List.mem_filter.1 ho).2)
  have hp := priceO_is r d it
  rw [priceF_filter]
  unfold priceF
  cases hF : ((offersOn r a b it).filter fun o => holdsQ d d o.1).foldl (priceS d) none with
  | none =>
    rw [hF] at hf
    cases hP : priceO r d it with
    | none => rfl
    | some q =>
      rw [hP] at hp
      obtain ⟨⟨i, x, e1, e2, e3⟩, _⟩ := hp
      have := (hm x q).2 ⟨i, e1, e2, e3⟩
      rw [hf.2] at this
      cases this
  | some p =>
    rw [hF] at hf
    obtain ⟨f1, _, f3⟩ := hf
    rcases f1 with f1 | ⟨⟨x, p'⟩, hx, rfl⟩
    · cases f1
    · obtain ⟨i, e1, e2, e3⟩ := (hm x p').1 hx
      cases hP : priceO r d it with
      | none =>
        rw [hP] at hp
        have := hp i x e1 e2
        rw [e3] at this; cases this
      | some q =>
        rw [hP] at hp
        obtain ⟨⟨j, y, g1, g2, g3⟩, g4⟩ := hp
        have a1 := g4 i x p' e1 e2 e3
        have a2 := f3 (y, q) ((hm y q).2 ⟨j, g1, g2, g3⟩)
        simp only at a2 ⊢
        congr 1
        omega
theorem prices_mem {l : List (Issue × Int)} {a p : Int} : ∀ k : Nat, p ∈ pricesF l a k ↔ ∃ i : Nat, i < k ∧ priceF l (a + i) = some p
  | 0 => by simp [pricesF]
  | k + 1 => by
    rw [pricesF_succ]
    have ih := prices_mem (l := l) (a := a) (p := p) k
    have step : p ∈ priceAdd (pricesF l a k) (priceF l (a + k)) ↔ p ∈ pricesF l a k ∨ priceF l (a + k) = some p := by
      unfold priceAdd
      cases h : priceF l (a + k) with
      | none => simp
      | some q =>
        simp only [Option.some.injEq]
        split
        · rename_i hc
          rw [List.contains_iff_mem] at hc
          constructor
          · exact .inl
          · rintro (h1 | rfl)
            · exact h1
            · exact hc
        · rw [List.mem_append, List.mem_singleton]
          constructor
          · rintro (h1 | rfl)
            · exact .inl h1
            · exact .inr rfl
          · rintro (h1 | rfl)
            · exact .inl h1
            · exact .inr rfl
    rw [step, ih]
    constructor
    · rintro (⟨i, h1, h2⟩ | h)
      · exact ⟨i, by omega, h2⟩
      · exact ⟨k, by omega, h⟩
    · rintro ⟨i, h1, h2⟩
      by_cases hk : i = k
      · subst hk; exact .inr h2
      · exact .inl ⟨i, by omega, h2⟩
theorem prices_nodup {l : List (Issue × Int)} {a : Int} : ∀ k : Nat, (pricesF l a k).Nodup
  | 0 => by simp [pricesF]
  | k + 1 => by
    rw [pricesF_succ]
    have ih := prices_nodup (l := l) (a := a) k
    unfold priceAdd
    split
    · split
      · exact ih
      · rename_i p _ hc
        rw [List.nodup_append]
        refine ⟨ih, by simp, fun x hx y hy => ?_⟩
        rw [List.mem_singleton] at hy
        subst hy
        intro he
        subst he
        exact hc (List.contains_iff_mem.2 hx)
    · exact ih
theorem pricesOn_mem {r : Rack} {a b : Int} {it : Item} {p : Int} (hab : a ≤ b) : p ∈ pricesOn r a b it ↔ ∃ d, a ≤ d ∧ d ≤ b ∧ priceO r d it = some p := by
  unfold pricesOn
  rw [sorted_mem, prices_mem]
  constructor
  · rintro ⟨i, h1, h2⟩
    refine ⟨a + i, by omega, by omega, ?_⟩
    rw [← h2]
    exact (price_on (by omega) (by omega)).symm
  · rintro ⟨d, h1, h2, h3⟩
    refine ⟨(d - a).toNat, by omega, ?_⟩
    rw [show a + ((d - a).toNat : Int) = d by omega, price_on h1 h2, h3]
theorem price_pos {r : Rack} (h : RackOk r) {d p : Int} {it : Item} (hp : priceO r d it = some p) : 1 ≤ p ∧ p ≤ 100000 := by
  have := priceO_is r d it
  rw [hp] at this
  obtain ⟨⟨i, x, e1, _, e3⟩, _⟩ := this
  exact offer_pos (h.issues x (List.mem_of_getElem? e1)) e3
theorem pricesOn_climbs {r : Rack} (h : RackOk r) {a b : Int} {it : Item} (hab : a ≤ b) : climbsB 100001 (-1) (pricesOn r a b it) = true := by
  refine climbs_of _ _ (fun x hx => ?_) ?_
  · obtain ⟨d, _, _, h3⟩ := (pricesOn_mem hab).1 hx
    have := price_pos h h3
    omega
  · have h1 := sorted_le (pricesF (offersOn r a b it) a (b - a + 1).toNat)
    have h2 : (sorted (pricesF (offersOn r a b it) a (b - a + 1).toNat)).Nodup := (List.mergeSort_perm _ _).nodup_iff.2 (prices_nodup _)
    exact (List.Pairwise.and h1 h2).imp fun ⟨h3, h4⟩ => by omega
theorem prices_ask {r : Rack} (hv : validB r = true) {a b : Int} {it : Item} (h0 : 0 ≤ a) (h1 : a ≤ b) (h2 : b ≤ 20000) (hi : itemB r it = true) : pricesErr r a b it = 0 ∧ pricesL r a b it = pricesOn r a b it := by
  have h4 : limS 3 a b = true := by rw [limS_iff]; simp [limLo, limHi]; omega
  simp [pricesErr, pricesL, pricesAsk, hv, h4, hi]
/- the last day -/
theorem lastF_is : ∀ (l : List (Issue × Int)) (m : Int), m ≤ l.foldl (fun m o => max m o.1.held) m ∧ (∀ o ∈ l, o.1.held ≤ l.foldl (fun m o => max m o.1.held) m) ∧ (l.foldl (fun m o => max m o.1.held) m = m ∨ ∃ o ∈ l, o.1.held = l.foldl (fun m o => max m o.1.held) m)
  | [], m => by simp
  | o :: l, m => by
    rw [List.foldl_cons]
    obtain ⟨h1, h2, h3⟩ := lastF_is l (max m o.1.held)
    refine ⟨by omega, fun y hy => ?_, ?_⟩
    · rcases List.mem_cons.1 hy with rfl | hy
      · omega
      · exact h2 y hy
    · rcases h3 with h3 | ⟨y, hy, h4⟩
      · rw [h3]
        by_cases hm : o.1.held ≤ m
        · left; omega
        · right; exact ⟨o, by simp, by omega⟩
      · exact .inr ⟨y, List.mem_cons_of_mem _ hy, h4⟩
theorem last_none {r : Rack} (h : RackOk r) {it : Item} (hn : ¬ 0 < (lastOn r it).length) (d : Int) : priceO r d it = none := by
  have hp := priceO_is r d it
  cases hP : priceO r d it with
  | none => rfl
  | some q =>
    rw [hP] at hp
    obtain ⟨⟨i, x, e1, _, e3⟩, _⟩ := hp
    have hx := h.issues x (List.mem_of_getElem? e1)
    have a1 := hx.d1
    have a2 := hx.h1
    have a3 := hx.h2
    have : (x, q) ∈ lastOn r it := offers_mem.2 ⟨i, e1, by simp only [holdsQ, meetB, Bool.and_eq_true, decide_eq_true_eq]; omega, e3⟩
    exact absurd (List.length_pos_of_mem this) hn
theorem last_some {r : Rack} (h : RackOk r) {it : Item} (hn : 0 < (lastOn r it).length) :
    0 ≤ lastF (lastOn r it) ∧ lastF (lastOn r it) ≤ 20000 ∧ (priceO r (lastF (lastOn r it)) it).isSome = true ∧ ∀ d, lastF (lastOn r it) < d → priceO r d it = none := by
  obtain ⟨h1, h2, h3⟩ := lastF_is (lastOn r it) 0
  change 0 ≤ lastF (lastOn r it) at h1
  change ∀ o ∈ lastOn r it, o.1.held ≤ lastF (lastOn r it) at h2
  change lastF (lastOn r it) = 0 ∨ ∃ o ∈ lastOn r it, o.1.held = lastF (lastOn r it) at h3
  have key : ∃ o ∈ lastOn r it, o.1.held = lastF (lastOn r it) := by
    rcases h3 with h3 | h3
    · obtain ⟨o, ho⟩ := List.exists_mem_of_length_pos hn
      obtain ⟨i, e1, _, _⟩ := offers_mem.1 (show (o.1, o.2) ∈ _ from ho)
      have hx := h.issues o.1 (List.mem_of_getElem? e1)
      have a1 := hx.d1
      have a2 := hx.h1
      have := h2 o ho
      exact ⟨o, ho, by omega⟩
    · exact h3
  obtain ⟨⟨x, q⟩, ho, he⟩ := key
  obtain ⟨i, e1, _, e3⟩ := offers_mem.1 ho
  simp only at he e1 e3
  have hx := h.issues x (List.mem_of_getElem? e1)
  have a1 := hx.d1
  have a2 := hx.h1
  have a3 := hx.h2
  refine ⟨h1, by omega, ?_, fun d hd => ?_⟩
  · have hp := priceO_is r (lastF (lastOn r it)) it
    cases hP : priceO r (lastF (lastOn r it)) it with
    | none =>
      rw [hP] at hp
      have := hp i x e1 (holds_one.2 ⟨by omega, by omega⟩)
      rw [e3] at this; cases this
    | some p => rfl
  · have hp := priceO_is r d it
    cases hP : priceO r d it with
    | none => rfl
    | some p =>
      rw [hP] at hp
      obtain ⟨⟨j, y, g1, g2, g3⟩, _⟩ := hp
      have hy := h.issues y (List.mem_of_getElem? g1)
      have b1 := hy.d1
      have b2 := hy.h1
      have b3 := hy.h2
      have hh := holds_one.1 g2
      have : (y, p) ∈ lastOn r it := offers_mem.2 ⟨j, g1, by simp only [holdsQ, meetB, Bool.and_eq_true, decide_eq_true_eq]; omega, g3⟩
      have := h2 _ this
      simp only at this
      omega
theorem last_ask {r : Rack} (hv : validB r = true) {it : Item} (hi : itemB r it = true) : lastErr r it = (if decide (0 < (lastOn r it).length) then 0 else 4) ∧ lastV r it = (if decide (0 < (lastOn r it).length) then lastF (lastOn r it) else 0) := by
  simp [lastErr, lastV, hv, hi]
end Go.Proofs.YtpcajmkmmkmekaaGreatDoor

