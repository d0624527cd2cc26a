/- What a book more makes of prices and meanings: plain mathematics. -/
import Derived.Test.YtpcajmkmmkmekaaDoorXK12
set_option linter.unusedVariables false
set_option linter.unusedSimpArgs false
namespace Go.Proofs.YtpcajmkmmkmekaaDoor
open Go Go.RowKit
theorem bk_front (l : List Issue) (m : Issue) (q : Issue → Bool) : ∀ k : Nat, k ≤ l.length → bk (l ++ [m]) q k = bk l q k
  | 0, _ => by simp [bk_zero]
  | k + 1, h => by
    have ih := bk_front l m q k (by omega)
    have hx : l[k]? = some l[k] := List.getElem?_eq_getElem (by omega)
    have hx' : (l ++ [m])[k]? = some l[k] := by rw [List.getElem?_append_left (by omega)]; exact hx
    cases hq : q l[k] with
    | true => rw [bk_yes hx hq, bk_yes hx' hq, ih]
    | false => rw [bk_no hx hq, bk_no hx' hq, ih]
theorem bk_more (l : List Issue) (m : Issue) (q : Issue → Bool) : bk (l ++ [m]) q (l ++ [m]).length = bk l q l.length ++ (if q m then [(l.length, m)] else []) := by
  have hx : (l ++ [m])[l.length]? = some m := by simp
  have hf := bk_front l m q l.length (Nat.le_refl _)
  rw [List.length_append]
  simp only [List.length_singleton]
  cases hq : q m with
  | true => rw [bk_yes hx hq, hf]; simp
  | false => rw [bk_no hx hq, hf]; simp
theorem meant_more (n : Int) (l : List Issue) (m : Issue) (q : Issue → Bool) : ∃ t, meantL n (bk (l ++ [m]) q (l ++ [m]).length) = meantL n (bk l q l.length) ++ t ∧ t.length ≤ 1 := by
  rw [bk_more]
  unfold meantL
  rw [List.filterMap_append]
  refine ⟨_, rfl, Nat.le_trans (List.length_filterMap_le _ _) ?_⟩
  split <;> simp
theorem price_more {r r' : Rack} {m : Issue} (h : r'.issues = r.issues ++ [m]) {d : Int} {it : Item} {a : Int} (ha : priceO r d it = some a) : ∃ b, priceO r' d it = some b ∧ b ≤ a := by
  have hp := priceO_is r d it
  rw [ha] at hp
  obtain ⟨⟨i, x, e1, e2, e3⟩, _⟩ := hp
  have e1' : r'.issues[i]? = some x := by
    rw [h, List.getElem?_append_left (List.getElem?_eq_some_iff.1 e1).1]
    exact e1
  have hp' := priceO_is r' d it
  cases hb : priceO r' d it with
  | none =>
    rw [hb] at hp'
    have := hp' i x e1' e2
    rw [e3] at this; cases this
  | some b =>
    rw [hb] at hp'
    exact ⟨b, rfl, hp'.2 i x a e1' e2 e3⟩
end Go.Proofs.YtpcajmkmmkmekaaDoor
