/- What lines makes of numbers: plain mathematics. -/
import Derived.Test.YtpcajmkmmkmekaaGreatDoorXK12
import Derived.Test.YtpcajmkmmkmekaaGreatDoorGl
set_option linter.unusedVariables false
set_option linter.unusedSimpArgs false
namespace Go.Proofs.YtpcajmkmmkmekaaGreatDoor
open Go Go.RowKit
def bitAt (bits : List Int) (k : Nat) : Int := bits[k]?.getD 0
def lineAt (r : Rack) (bits : List Int) (k : Nat) : Line := ⟨someT r (bitAt bits (5 * k)) (bitAt bits (5 * k + 1)) (bitAt bits (5 * k + 2)) (bitAt bits (5 * k + 3)), 1 + spinI (bitAt bits (5 * k + 4)) 40⟩
def linesN (bits : List Int) : Nat := min 20 (bits.length / 5)
def linesF (r : Rack) (bits : List Int) : List Line := (List.range (linesN bits)).map (lineAt r bits)
theorem lines_good {r : Rack} (h : RackOk r) (bits : List Int) : linesB r (linesF r bits) = true := by
  have hl : (linesF r bits).length ≤ 20 := by simp only [linesF, List.length_map, List.length_range, linesN]; omega
  have hall : ∀ l ∈ linesF r bits, itemB r l.item = true ∧ 1 ≤ l.many ∧ l.many ≤ 40 := by
    intro l hm
    obtain ⟨k, _, rfl⟩ := List.mem_map.1 hm
    have := spin_range (bitAt bits (5 * k + 4)) 40 (by omega)
    refine ⟨someT_ok h _ _ _ _, ?_⟩
    simp only [lineAt]
    omega
  simp only [linesB, Bool.and_eq_true, List.all_eq_true]
  refine ⟨by rw [limB_iff]; simp [limLo, limHi]; omega, fun l hm => ?_⟩
  obtain ⟨h1, h2, h3⟩ := hall l hm
  simp only [lineB, Bool.and_eq_true]
  refine ⟨h1, ?_⟩
  rw [limB_iff]
  simp [limLo, limHi]
  omega
theorem bit_some {bits : List Int} {k : Nat} (h : k < bits.length) : bits[k]? = some (bitAt bits k) := by
  unfold bitAt
  rw [List.getElem?_eq_getElem h]
  rfl
theorem own_form {w : World} {base : Nat} {e : TypeId} {sz n : Nat} {v : Value} {xs : List Value} (h : w.ownsRow base e sz v n xs) : ∃ A cap, v = .slice A n cap ∧ n ≤ cap ∧ cap ≤ maxLen := by
  rcases h.2 with ⟨rfl, rfl⟩ | ⟨g, cap, cur, rfl, _, _, h1, h2, _⟩
  · exact ⟨none, 0, rfl, by omega, by simp [maxLen]⟩
  · exact ⟨_, cap, rfl, h1, h2⟩
end Go.Proofs.YtpcajmkmmkmekaaGreatDoor

