/- Contracts of the specification's sizes, where the question can be asked. -/
import Derived.Test.YtpcajmkmmkmekaaGreatDoorXR10
set_option linter.unusedVariables false
set_option linter.unusedSimpArgs false
namespace Go.Proofs.YtpcajmkmmkmekaaGreatDoor
open Go Go.RowKit
set_option maxHeartbeats 4000000
theorem at_none {l : List Entry} {n : Int} (h : (l.find? fun e => e.number == n) = none) : atF l n = -1 := by
  rw [List.find?_eq_none] at h
  unfold atF
  rw [List.findIdx?_eq_none_iff.2 fun x hx => by simpa using h x hx]
theorem at_some {l : List Entry} {n : Int} {e : Entry} (h : (l.find? fun e => e.number == n) = some e) : ∃ k : Nat, atF l n = k ∧ l[k]? = some e := by
  rw [List.find?_eq_some_iff_getElem] at h
  obtain ⟨hp, k, hk, he, hmin⟩ := h
  refine ⟨k, ?_, by rw [List.getElem?_eq_getElem hk, he]⟩
  unfold atF
  rw [List.findIdx?_eq_some_iff_getElem.2 ⟨hk, by rw [he]; exact hp, fun j hj => by have := hmin j hj; simpa using this⟩]
theorem at_is {x : Issue} {n v : Int} (h : atF x.entries n = v) (w : World) (hx : IssueAt w w.heap.size x) :
    Calls Tryz.prog 34 #[x.val, vi n] w fun e w' => e = .returned (vi v) ∧ Below w.heap.size w w' := by
  subst h
  exact at_any x n w hx
end Go.Proofs.YtpcajmkmmkmekaaGreatDoor

