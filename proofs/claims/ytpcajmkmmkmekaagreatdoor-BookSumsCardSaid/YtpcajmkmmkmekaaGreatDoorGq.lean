/- What a valid rack is, in plain inequalities. -/
import Derived.Test.YtpcajmkmmkmekaaGreatDoorGo
set_option linter.unusedVariables false
set_option linter.unusedSimpArgs false
namespace Go.Proofs.YtpcajmkmmkmekaaGreatDoor
open Go Go.RowKit
structure FitOk (f : Fit) : Prop where
  s1 : 1 ≤ f.size
  s2 : f.size ≤ 99
  f1 : 1 ≤ f.lo
  f2 : f.lo ≤ f.hi
  f3 : f.hi ≤ 400
  p1 : 1 ≤ f.price
  p2 : f.price ≤ 100000
structure EntryOk (r : Rack) (e : Entry) : Prop where
  n1 : 1 ≤ e.number
  n2 : e.number ≤ 9999
  g1 : 0 ≤ e.good
  g2 : e.good < r.goods
  c1 : 1 ≤ e.colours
  c2 : e.colours ≤ 15
  z1 : 1 ≤ e.sizes.length
  z2 : e.sizes.length ≤ 8
  fits : ∀ f ∈ e.sizes, FitOk f
  climb : ∀ (k : Nat) (f g : Fit), e.sizes[k]? = some f → e.sizes[k + 1]? = some g → f.size < g.size
structure IssueOk (r : Rack) (x : Issue) : Prop where
  d1 : 0 ≤ x.lo
  d2 : x.lo ≤ x.hi
  d3 : x.hi ≤ 20000
  h1 : x.lo ≤ x.held
  h2 : x.held ≤ 20000
  n1 : x.entries.length ≤ 24
  entries : ∀ e ∈ x.entries, EntryOk r e
  apart : ∀ (i k : Nat) (e o : Entry), i < k → x.entries[i]? = some o → x.entries[k]? = some e → o.number ≠ e.number ∧ o.good ≠ e.good
structure RackOk (r : Rack) : Prop where
  g1 : 1 ≤ r.goods
  g2 : r.goods ≤ 24
  n1 : 1 ≤ r.issues.length
  n2 : r.issues.length ≤ 4
  issues : ∀ x ∈ r.issues, IssueOk r x
theorem limB_iff {k n : Int} : limB k n = true ↔ limLo k ≤ n ∧ n ≤ limHi k := by simp [limB]
theorem limS_iff {k a b : Int} : limS k a b = true ↔ a ≤ b ∧ (limLo k ≤ a ∧ a ≤ limHi k) ∧ limLo k ≤ b ∧ b ≤ limHi k := by simp [limS, limB]
theorem fit_ok {f : Fit} (h : fitB f = true) : FitOk f := by
  simp only [fitB, Bool.and_eq_true, limB_iff, limS_iff] at h
  obtain ⟨h1, h2, h3⟩ := h
  simp [limLo, limHi] at h1 h2 h3
  exact ⟨by omega, by omega, by omega, by omega, by omega, by omega, by omega⟩
theorem fits_ok {l : List Fit} (h : fitsB l = true) : (1 ≤ l.length ∧ l.length ≤ 8) ∧ (∀ f ∈ l, FitOk f) ∧ ∀ (k : Nat) (f g : Fit), l[k]? = some f → l[k + 1]? = some g → f.size < g.size := by
  simp only [fitsB, Bool.and_eq_true, limB_iff, List.all_eq_true, List.mem_range] at h
  obtain ⟨h1, h2⟩ := h
  simp [limLo, limHi] at h1
  refine ⟨by omega, fun f hf => ?_, fun k f g hf hg => ?_⟩
  · obtain ⟨k, hk⟩ := List.getElem?_of_mem hf
    have := h2 k (List.getElem?_eq_some_iff.1 hk).1
    simp only [goodFit, hk, Bool.and_eq_true] at this
    exact fit_ok this.1
  · have := h2 (k + 1) (List.getElem?_eq_some_iff.1 hg).1
    rw [goodFit1 hg hf] at this
    simp only [Bool.and_eq_true, decide_eq_true_eq] at this
    exact this.2
theorem entry_ok {r : Rack} {e : Entry} (h : entryB r e = true) : EntryOk r e := by
  simp only [entryB, Bool.and_eq_true, limB_iff, goodB, decide_eq_true_eq] at h
  obtain ⟨h1, h2, h3, h4⟩ := h
  rw [set_is] at h3
  simp only [Bool.and_eq_true, decide_eq_true_eq] at h3
  simp [limLo, limHi] at h1
  obtain ⟨k1, k2, k3⟩ := fits_ok h4
  exact ⟨by omega, by omega, by omega, by omega, by omega, by omega, by omega, by omega, k2, k3⟩
theorem issue_ok {r : Rack} {x : Issue} (h : catB r x = true) : IssueOk r x := by
  simp only [catB, headB, Bool.and_eq_true, limB_iff, limS_iff, List.all_eq_true, List.mem_range] at h
  obtain ⟨⟨h1, h2, h3⟩, h4⟩ := h
  simp [limLo, limHi] at h1 h2 h3
  have key : ∀ (k : Nat) (e : Entry), x.entries[k]? = some e → entryB r e = true ∧ repB (x.entries.take k) e = false := by
    intro k e he
    have := h4 k (List.getElem?_eq_some_iff.1 he).1
    rw [goodEntry_of he] at this
    simpa using this
  refine ⟨by omega, by omega, by omega, by omega, by omega, by omega, fun e he => ?_, fun i k e o hik ho he => ?_⟩
  · obtain ⟨k, hk⟩ := List.getElem?_of_mem he
    exact entry_ok (key k e hk).1
  · have h5 := (key k e he).2
    rw [repB, List.any_eq_false] at h5
    have h6 := h5 o (List.mem_of_getElem? (i := i) (by rw [List.getElem?_take, if_pos hik]; exact ho))
    simpa [sameB, not_or] using h6
theorem rack_ok {r : Rack} (h : validB r = true) : RackOk r := by
  simp only [validB, Bool.and_eq_true, limB_iff, List.all_eq_true, List.mem_range] at h
  obtain ⟨⟨h1, h2⟩, h3⟩ := h
  simp [limLo, limHi] at h1 h2
  refine ⟨by omega, by omega, by omega, by omega, fun x hx => ?_⟩
  obtain ⟨k, hk⟩ := List.getElem?_of_mem hx
  have := h3 k (List.getElem?_eq_some_iff.1 hk).1
  rw [goodIssue_of hk] at this
  exact issue_ok this
end Go.Proofs.YtpcajmkmmkmekaaGreatDoor

/- Contract of sound: it says whether a rack is valid. -/
namespace Go.Proofs.YtpcajmkmmkmekaaGreatDoor
open Go Go.RowKit
set_option maxHeartbeats 4000000
theorem tween_yes (a b c : Int) (w : World) (h1 : b ≤ a) (h2 : a ≤ c) :
    Calls Tryz.prog 36 #[vi a, vi b, vi c] w fun e w' => e = .returned (.bool true) ∧ w = w' := by
  have := tween_any a b c w
  rwa [show (decide (b ≤ a) && decide (a ≤ c)) = true by simp [h1, h2]] at this
theorem proper_yes (a b c d : Int) (w : World) (h1 : c ≤ a) (h2 : a ≤ b) (h3 : b ≤ d) :
    Calls Tryz.prog 37 #[.agg #[vi a, vi b], vi c, vi d] w fun e w' => e = .returned (.bool true) ∧ Below w.heap.size w w' := by
  have := proper_any a b c d w
  rwa [show (decide (c ≤ a) && decide (a ≤ b) && decide (b ≤ d)) = true by simp [h1, h2, h3]] at this
end Go.Proofs.YtpcajmkmmkmekaaGreatDoor

/- Contracts of Climbs. -/
namespace Go.Proofs.YtpcajmkmmkmekaaGreatDoor
open Go Go.RowKit
set_option maxHeartbeats 1000000
def climbsB (n : Int) : Int → List Int → Bool
  | _, [] => true
  | b, x :: r => decide (b < x) && (decide (x < n) && climbsB n x r)
theorem climbs_step {n b : Int} {l : List Int} {k : Nat} {x : Int} (h : climbsB n b (l.drop k) = true) (hx : l[k]? = some x) : b < x ∧ x < n ∧ climbsB n x (l.drop (k + 1)) = true := by
  obtain ⟨hk, rfl⟩ := List.getElem?_eq_some_iff.1 hx
  rw [List.drop_eq_getElem_cons hk, climbsB] at h
  simp only [Bool.and_eq_true, decide_eq_true_eq] at h
  exact h
end Go.Proofs.YtpcajmkmmkmekaaGreatDoor

