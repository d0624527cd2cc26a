/- What Price and Means answer of a rack with a book more: plain mathematics. -/
import Derived.Test.YtpcajmkmmkmekaaDoorXK15
import Derived.Test.YtpcajmkmmkmekaaDoorXB7
set_option linter.unusedVariables false
set_option linter.unusedSimpArgs false
namespace Go.Proofs.YtpcajmkmmkmekaaDoor
open Go Go.RowKit
theorem more_ask {r x : Rack} {m : Issue} (hv : validB r = true) (hg : x.goods = r.goods) (hx : x.issues = r.issues ++ [m]) {d n : Int} {it : Item} (h0 : 0 ≤ d) (h1 : d ≤ 20000) (h2 : 1 ≤ n) (h3 : n ≤ 9999) (hi : itemB r it = true) :
    (priceErr x d it = 10 ∧ priceV x d it = 0 ∧ meansErr x d d n = 10 ∧ meansL x d d n = []) ∨
    ((priceErr x d it = 0 ∨ priceErr x d it = 4) ∧ meansErr x d d n = 0 ∧ (∃ t, meansL x d d n = meansL r d d n ++ t ∧ t.length ≤ 1) ∧ (priceErr r d it = 4 ∨ (priceErr r d it = 0 ∧ priceErr x d it = 0 ∧ priceV x d it ≤ priceV r d it))) := by
  cases hX : validB x with
  | false =>
    left
    simp [priceErr, priceV, meansErr, meansL, hX]
  | true =>
    right
    have hi' : itemB x it = true := by simpa [itemB, goodB, hg] using hi
    obtain ⟨p1, p2⟩ := price_ask hv h0 h1 hi
    obtain ⟨q1, q2⟩ := price_ask hX h0 h1 hi'
    obtain ⟨m1, m2⟩ := means_span hv h0 h1 (Int.le_refl d) h2 h3
    obtain ⟨k1, k2⟩ := means_span hX h0 h1 (Int.le_refl d) h2 h3
    rw [p1, p2, q1, q2, k1, k2, m2]
    refine ⟨by split <;> simp, rfl, ?_, ?_⟩
    · rw [hx]
      obtain ⟨t, e, ht⟩ := meant_more n r.issues m (inUseQ d d)
      exact ⟨t, e, ht⟩
    · cases hp : priceO r d it with
      | none => left; rfl
      | some a =>
        obtain ⟨b, hb, hle⟩ := price_more (r := r) (r' := x) hx hp
        right
        rw [hb]
        exact ⟨rfl, rfl, hle⟩
/-- the cells of a row, one after another -/
theorem row_news {w : World} {B : Nat} {b off : Nat} {rows : List (List Value)} (h : RowAt w B 4 (some ⟨b, off, none⟩) rows) (hs : ∀ r ∈ rows, r.length = 4) : ∀ j u, rows.flatten[j]? = some u → w.cell? ((⟨b, off, none⟩ : Addr).add j) = some u := by
  intro j u hu
  have hj : j < rows.length * 4 := by
    have := (List.getElem?_eq_some_iff.1 hu).1
    rwa [flat_len rows hs] at this
  have hi : j / 4 < rows.length := by omega
  obtain ⟨b', o', e, _, hc⟩ := h (by omega)
  cases e
  have hr : rows[j / 4]? = some rows[j / 4] := List.getElem?_eq_getElem hi
  have hl := hs _ (List.getElem_mem hi)
  have hk : rows[j / 4][j % 4]? = some (rows[j / 4][j % 4]'(by omega)) := List.getElem?_eq_getElem (by omega)
  have hf := flat_at rows hs _ _ hr _ _ (by omega) hk
  rw [show j / 4 * 4 + j % 4 = j by omega, hu] at hf
  have := hc _ _ hr _ _ (by omega) hk
  rw [← hf] at this
  have hadd : (⟨b, off, none⟩ : Addr).add j = ⟨b, off + j, none⟩ := by unfold Addr.add; split <;> simp_all
  rw [hadd]
  simpa [show off + j / 4 * 4 + j % 4 = off + j by omega] using this
theorem issues_one (l : List Issue) : ∀ u ∈ (l.map Issue.cells).flatten, u.oneCell' = true := by
  intro u hu
  rw [List.mem_flatten] at hu
  obtain ⟨c, hc, hu⟩ := hu
  obtain ⟨x, _, rfl⟩ := List.mem_map.1 hc
  simp only [Issue.cells, List.mem_cons, List.not_mem_nil, or_false] at hu
  rcases hu with rfl | rfl | rfl | rfl <;> rfl
theorem issues_len (l : List Issue) : (l.map Issue.cells).flatten.length = l.length * 4 := by
  rw [flat_len (sz := 4) _ (by intro r hr; obtain ⟨p, _, rfl⟩ := List.mem_map.1 hr; rfl), List.length_map]
end Go.Proofs.YtpcajmkmmkmekaaDoor
