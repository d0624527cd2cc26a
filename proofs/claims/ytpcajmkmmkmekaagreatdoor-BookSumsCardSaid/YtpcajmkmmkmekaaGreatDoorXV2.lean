/- A valid rack, in the words of the specification's Check: plain mathematics. -/
import Derived.Test.YtpcajmkmmkmekaaGreatDoorGo
import Derived.Test.YtpcajmkmmkmekaaGreatDoorXK11
set_option linter.unusedVariables false
set_option linter.unusedSimpArgs false
namespace Go.Proofs.YtpcajmkmmkmekaaGreatDoor
open Go Go.RowKit
def numsTo (l : List Entry) (k : Nat) : List Int := (l.take k).map Entry.number
def goodsTo (l : List Entry) (k : Nat) : List Int := (l.take k).map Entry.good
theorem numsTo_succ {l : List Entry} {k : Nat} {e : Entry} (h : l[k]? = some e) : numsTo l (k + 1) = numsTo l k ++ [e.number] ∧ goodsTo l (k + 1) = goodsTo l k ++ [e.good] := by
  unfold numsTo goodsTo
  rw [List.take_add_one, h]
  simp
theorem place_neg (l : List Int) (n : Int) : decide (placeF l n < 0) = !l.contains n := by
  obtain ⟨h1, h2⟩ := place_in l n
  by_cases h : n ∈ l
  · have := h1 h
    rw [List.contains_iff_mem.2 h]
    simp
    omega
  · rw [h2 h]
    have : l.contains n = false := by simpa using h
    rw [this]; rfl
theorem repB_to (l : List Entry) (e : Entry) (k : Nat) : repB (l.take k) e = ((numsTo l k).contains e.number || (goodsTo l k).contains e.good) := by
  rw [Bool.eq_iff_iff]
  simp only [repB, sameB, numsTo, goodsTo, List.any_eq_true, Bool.or_eq_true, beq_iff_eq, List.contains_iff_mem, List.mem_map]
  constructor
  · rintro ⟨o, h1, h2 | h2⟩
    · exact .inl ⟨o, h1, h2⟩
    · exact .inr ⟨o, h1, h2⟩
  · rintro (⟨o, h1, h2⟩ | ⟨o, h1, h2⟩)
    · exact ⟨o, h1, .inl h2⟩
    · exact ⟨o, h1, .inr h2⟩
/-- an entry is right, as the specification's Check asks it -/
theorem goodEntry_ref {r : Rack} {l : List Entry} {k : Nat} {e : Entry} (h : l[k]? = some e) :
    goodEntry r l k = (entryR e && ((decide (0 ≤ e.good) && decide (e.good ≤ r.goods - 1)) && (decide (placeF (numsTo l k) e.number < 0) && decide (placeF (goodsTo l k) e.good < 0)))) := by
  rw [goodEntry_of h, place_neg, place_neg, repB_to]
  have : goodB r e.good = (decide (0 ≤ e.good) && decide (e.good ≤ r.goods - 1)) := by
    unfold goodB
    rw [Bool.eq_iff_iff]
    simp
    omega
  rw [entryB, entryR, this]
  cases limB 4 e.number <;> cases (decide (0 ≤ e.good) && decide (e.good ≤ r.goods - 1)) <;> cases setB e.colours <;> cases fitsB e.sizes <;> cases (numsTo l k).contains e.number <;> cases (goodsTo l k).contains e.good <;> rfl
/-- a book's head is right, as the specification's Check asks it -/
theorem headB_ref (x : Issue) : headB x = ((decide (0 ≤ x.lo) && decide (x.lo ≤ x.hi) && decide (x.hi ≤ 20000)) && ((decide (x.lo ≤ x.held) && decide (x.held ≤ 20000)) && decide ((x.entries.length : Int) ≤ 24))) := by
  rw [Bool.eq_iff_iff]
  simp only [headB, Bool.and_eq_true, limS_iff, limB_iff, decide_eq_true_eq]
  simp [limLo, limHi]
  omega
theorem rackB_ref (r : Rack) : (limB 0 r.goods && limB 1 r.issues.length) = ((decide (1 ≤ r.goods) && decide (r.goods ≤ 24)) && (decide (1 ≤ (r.issues.length : Int)) && decide ((r.issues.length : Int) ≤ 4))) := by
  simp [limB, limLo, limHi]
def entriesUpto (r : Rack) (l : List Entry) (k : Nat) : Prop := ∀ j, j < k → goodEntry r l j = true
def issuesUpto (r : Rack) (k : Nat) : Prop := ∀ j, j < k → goodIssue r j = true
theorem valid_no {r : Rack} {k : Nat} {x : Issue} (hx : r.issues[k]? = some x) (h : catB r x = false) : validB r = false :=
  all_no (List.getElem?_eq_some_iff.1 hx).1 (by rw [goodIssue_of hx, h])
end Go.Proofs.YtpcajmkmmkmekaaGreatDoor

