/- What Sum and Cheapest answer: plain mathematics. -/
import Derived.Test.YtpcajmkmmkmekaaGreatDoorXK13
set_option linter.unusedVariables false
set_option linter.unusedSimpArgs false
namespace Go.Proofs.YtpcajmkmmkmekaaGreatDoor
open Go Go.RowKit
theorem sum_on {r : Rack} {a b d : Int} (h1 : a ≤ d) (h2 : d ≤ b) (ls : List Line) : sumK (ls.map (quoteOf r a b)) d = sumO r d ls := by
  unfold sumO sumK
  have key : ∀ (ls : List Line) (acc : Option Int), (ls.map (quoteOf r a b)).foldl (sumKS d) acc = (ls.map (quoteOf r d d)).foldl (sumKS d) acc := by
    intro ls
    induction ls with
    | nil => intro acc; rfl
    | cons l ls ih =>
      intro acc
      simp only [List.map_cons, List.foldl_cons]
      have : sumKS d acc (quoteOf r a b l) = sumKS d acc (quoteOf r d d l) := by
        have e1 := price_on (r := r) (it := l.item) h1 h2
        have e2 := price_on (r := r) (it := l.item) (Int.le_refl d) (Int.le_refl d)
        simp only [sumKS, quoteOf, e1, e2]
      rw [this]
      exact ih _
  exact key ls _
theorem cheapF_is {m : List (List (Issue × Int) × Int)} {a : Int} : ∀ k : Nat, match cheapF m a k with
    | none => ∀ i : Nat, i < k → sumK m (a + i) = none
    | some (d, n) => (∃ i : Nat, i < k ∧ d = a + i ∧ sumK m d = some n) ∧ ∀ (i : Nat) (v : Int), i < k → sumK m (a + i) = some v → n < v ∨ (n = v ∧ d ≤ a + i)
  | 0 => by simp [cheapF]
  | k + 1 => by
    rw [cheapF_succ]
    have ih := cheapF_is (m := m) (a := a) k
    cases hs : sumK m (a + k) with
    | none =>
      simp only [cheapS]
      cases hc : cheapF m a k with
      | none =>
        rw [hc] at ih
        intro i hi
        by_cases hk : i = k
        · subst hk; exact hs
        · exact ih i (by omega)
      | some p =>
        obtain ⟨d, n⟩ := p
        rw [hc] at ih
        obtain ⟨⟨i, e1, e2, e3⟩, e4⟩ := ih
        refine ⟨⟨i, by omega, e2, e3⟩, fun j v hj hv => ?_⟩
        by_cases hk : j = k
        · subst hk; rw [hs] at hv; cases hv
        · exact e4 j v (by omega) hv
    | some v =>
      cases hc : cheapF m a k with
      | none =>
        rw [hc] at ih
        simp only [cheapS]
        refine ⟨⟨k, by omega, rfl, hs⟩, fun j u hj hu => ?_⟩
        by_cases hk : j = k
        · subst hk; rw [hs] at hu; cases hu; exact .inr ⟨rfl, Int.le_refl _⟩
        · rw [ih j (by omega)] at hu; cases hu
      | some p =>
        obtain ⟨d, n⟩ := p
        rw [hc] at ih
        obtain ⟨⟨i, e1, e2, e3⟩, e4⟩ := ih
        simp only [cheapS]
        by_cases hlt : v < n
        · rw [if_pos hlt]
          refine ⟨⟨k, by omega, rfl, hs⟩, fun j u hj hu => ?_⟩
          by_cases hk : j = k
          · subst hk; rw [hs] at hu; cases hu; exact .inr ⟨rfl, Int.le_refl _⟩
          · have := e4 j u (by omega) hu
            left; omega
        · rw [if_neg hlt]
          refine ⟨⟨i, by omega, e2, e3⟩, fun j u hj hu => ?_⟩
          by_cases hk : j = k
          · subst hk; rw [hs] at hu; cases hu
            by_cases he : n = v
            · exact .inr ⟨he, by omega⟩
            · left; omega
          · exact e4 j u (by omega) hu
theorem cheap_is {r : Rack} {a b : Int} (hab : a ≤ b) (ls : List Line) : match cheapO r a b ls with
    | none => ∀ d, a ≤ d → d ≤ b → sumO r d ls = none
    | some (d, n) => a ≤ d ∧ d ≤ b ∧ sumO r d ls = some n ∧ ∀ x v, a ≤ x → x ≤ b → sumO r x ls = some v → n < v ∨ (n = v ∧ d ≤ x) := by
  have h := cheapF_is (m := ls.map (quoteOf r a b)) (a := a) (b - a + 1).toNat
  unfold cheapO
  cases hc : cheapF (ls.map (quoteOf r a b)) a (b - a + 1).toNat with
  | none =>
    rw [hc] at h
    intro d h1 h2
    have := h (d - a).toNat (by omega)
    rw [show a + ((d - a).toNat : Int) = d by omega, sum_on h1 h2] at this
    exact this
  | some p =>
    obtain ⟨d, n⟩ := p
    rw [hc] at h
    obtain ⟨⟨i, e1, e2, e3⟩, e4⟩ := h
    have d1 : a ≤ d := by omega
    have d2 : d ≤ b := by omega
    rw [sum_on d1 d2] at e3
    refine ⟨d1, d2, e3, fun x v h1 h2 hv => ?_⟩
    have := e4 (x - a).toNat v (by omega)
    rw [show a + ((x - a).toNat : Int) = x by omega, sum_on h1 h2] at this
    exact this hv
theorem sum_ask {r : Rack} (hv : validB r = true) {d : Int} {ls : List Line} (h0 : 0 ≤ d) (h1 : d ≤ 20000) (hl : linesB r ls = true) : sumErr r d ls = (if (sumO r d ls).isSome then 0 else 4) ∧ sumV r d ls = (sumO r d ls).getD 0 := by
  have h4 : limB 3 d = true := by rw [limB_iff]; simp [limLo, limHi]; omega
  simp [sumErr, sumV, sumAsk, hv, h4, hl]
theorem cheap_ask {r : Rack} (hv : validB r = true) {a b : Int} {ls : List Line} (h0 : 0 ≤ a) (h1 : a ≤ b) (h2 : b ≤ 20000) (hl : linesB r ls = true) :
    cheapErr r a b ls = (if (cheapO r a b ls).isSome then 0 else 4) ∧ cheapD r a b ls = ((cheapO r a b ls).map Prod.fst).getD 0 ∧ cheapN r a b ls = ((cheapO r a b ls).map Prod.snd).getD 0 := by
  have h4 : limS 3 a b = true := by rw [limS_iff]; simp [limLo, limHi]; omega
  simp [cheapErr, cheapD, cheapN, cheapAsk, hv, h4, hl]
end Go.Proofs.YtpcajmkmmkmekaaGreatDoor

