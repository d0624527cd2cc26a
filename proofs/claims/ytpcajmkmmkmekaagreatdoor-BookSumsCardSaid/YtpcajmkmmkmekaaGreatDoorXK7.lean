/- What Means answers of a valid rack, place by place: plain mathematics. -/
import Derived.Test.YtpcajmkmmkmekaaGreatDoorXK6
set_option linter.unusedVariables false
set_option linter.unusedSimpArgs false
namespace Go.Proofs.YtpcajmkmmkmekaaGreatDoor
open Go Go.RowKit
def hasN (l : List Entry) (n : Int) (k : Nat) : Bool := (l.take k).any fun e => e.number == n
def nextN (l : List Issue) (q : Issue → Bool) (n : Int) (i : Nat) : Nat := (meantL n (bk l q i)).length
def nextK (l : List Issue) (q : Issue → Bool) (n : Int) (i : Nat) (x : Issue) (k : Nat) : Nat := nextN l q n i + if q x && hasN x.entries n k then 1 else 0
theorem next_zero (l : List Issue) (q : Issue → Bool) (n : Int) : nextN l q n 0 = 0 := by simp [nextN, bk_zero, meantL]
theorem nextK_zero (l : List Issue) (q : Issue → Bool) (n : Int) (i : Nat) (x : Issue) : nextK l q n i x 0 = nextN l q n i := by simp [nextK, hasN]
theorem has_all {l : List Entry} {n : Int} : hasN l n l.length = ((l.find? fun e => e.number == n).map Entry.good).isSome := by
  unfold hasN
  rw [List.take_length]
  rw [Bool.eq_iff_iff, Option.isSome_map, List.find?_isSome, List.any_eq_true]
theorem next_step {l : List Issue} {q : Issue → Bool} {n : Int} {i : Nat} {x : Issue} (h : l[i]? = some x) : nextN l q n (i + 1) = nextK l q n i x x.entries.length := by
  unfold nextK
  rw [has_all]
  change nextN l q n (i + 1) = nextN l q n i + if q x && (numGood x n).isSome then 1 else 0
  cases hq : q x with
  | false => simp [nextN, bk_no h hq]
  | true =>
    unfold nextN
    rw [bk_yes h hq]
    cases hg : numGood x n with
    | none => rw [meant_no hg]; simp
    | some g => rw [meant_yes hg]; simp
theorem next_le {l : List Issue} {q : Issue → Bool} {n : Int} (i : Nat) : nextN l q n i ≤ i := Nat.le_trans (meant_len _ _) (bk_len _ _ _)
theorem nextK_le {l : List Issue} {q : Issue → Bool} {n : Int} {i : Nat} {x : Issue} {k : Nat} : nextK l q n i x k ≤ i + 1 := by
  unfold nextK
  have := next_le (l := l) (q := q) (n := n) i
  split <;> omega
theorem has_step {l : List Entry} {n : Int} {k : Nat} {e : Entry} (h : l[k]? = some e) : hasN l n (k + 1) = (hasN l n k || e.number == n) := by
  unfold hasN
  rw [List.take_add_one, List.any_append, h]
  simp
theorem nextK_not {l : List Issue} {q : Issue → Bool} {n : Int} {i : Nat} {x : Issue} {k : Nat} {e : Entry} (h : x.entries[k]? = some e) (hn : e.number ≠ n) : nextK l q n i x (k + 1) = nextK l q n i x k := by
  unfold nextK
  rw [has_step h]
  simp [hn]
theorem nextK_out {l : List Issue} {q : Issue → Bool} {n : Int} {i : Nat} {x : Issue} {k : Nat} (hq : q x = false) : nextK l q n i x (k + 1) = nextK l q n i x k := by
  unfold nextK
  simp [hq]
theorem meant_pre {n : Int} {l : List Issue} {q : Issue → Bool} {m : Nat} {p : Nat} {y : Int × Int} (h : (meantL n (bk l q m))[p]? = some y) : (meantL n (bk l q (m + 1)))[p]? = some y := by
  have hp : p < (meantL n (bk l q m)).length := (List.getElem?_eq_some_iff.1 h).1
  cases hx : l[m]? with
  | none => 
    have : bk l q (m + 1) = bk l q m := by simp [bk, List.range_succ, hx]
    rw [this]; exact h
  | some x =>
    cases hq : q x with
    | false => rw [bk_no hx hq]; exact h
    | true =>
      rw [bk_yes hx hq]
      cases hg : numGood x n with
      | none => rw [meant_no hg]; exact h
      | some g => rw [meant_yes hg, List.getElem?_append_left hp]; exact h
theorem meant_at {n g : Int} {l : List Issue} {q : Issue → Bool} {i : Nat} {x : Issue} (h : l[i]? = some x) (hq : q x = true) (hg : numGood x n = some g) :
    (meantL n (bk l q l.length))[nextN l q n i]? = some ((i : Int), g) := by
  have hi := (List.getElem?_eq_some_iff.1 h).1
  obtain ⟨d, hd⟩ : ∃ d, l.length = i + 1 + d := ⟨l.length - (i + 1), by omega⟩
  rw [hd]
  clear hd
  induction d with
  | zero =>
    rw [Nat.add_zero, bk_yes h hq, meant_yes hg]
    unfold nextN
    simp
  | succ d ih => exact meant_pre ih
theorem numGood_first {r : Rack} {x : Issue} (hx : IssueOk r x) {k : Nat} {e : Entry} (h : x.entries[k]? = some e) : numGood x e.number = some e.good ∧ hasN x.entries e.number k = false := by
  have hno : ∀ y, y ∈ x.entries.take k → (y.number == e.number) = false := by
    intro y hy
    obtain ⟨j, hj⟩ := List.getElem?_of_mem hy
    have hjk : j < k := by
      have := (List.getElem?_eq_some_iff.1 hj).1
      rw [List.length_take] at this
      omega
    rw [List.getElem?_take_of_lt hjk] at hj
    have := (hx.apart j k e y hjk hj h).1
    simpa using this
  constructor
  · unfold numGood
    have : x.entries.find? (fun o => o.number == e.number) = some e := by
      rw [List.find?_eq_some_iff_getElem]
      obtain ⟨hk, he⟩ := List.getElem?_eq_some_iff.1 h
      refine ⟨by simp, k, hk, he, fun j hj => ?_⟩
      have h1 : (x.entries[j]) ∈ x.entries.take k := by
        rw [List.mem_iff_getElem?]
        exact ⟨j, by rw [List.getElem?_take_of_lt hj]; exact List.getElem?_eq_getElem _⟩
      rw [hno _ h1]; rfl
    rw [this]; rfl
  · unfold hasN
    rw [List.any_eq_false]
    intro y hy
    simpa using hno y hy
theorem nextK_yes {r : Rack} {l : List Issue} {q : Issue → Bool} {n : Int} {i : Nat} {x : Issue} {k : Nat} {e : Entry} (hx : IssueOk r x) (hi : l[i]? = some x) (h : x.entries[k]? = some e) (hn : e.number = n) (hq : q x = true) :
    nextK l q n i x (k + 1) = nextK l q n i x k + 1 ∧ (meantL n (bk l q l.length))[nextK l q n i x k]? = some ((i : Int), e.good) := by
  subst hn
  obtain ⟨h1, h2⟩ := numGood_first hx h
  have e1 : nextK l q e.number i x k = nextN l q e.number i := by simp [nextK, h2]
  have e2 : nextK l q e.number i x (k + 1) = nextN l q e.number i + 1 := by simp [nextK, has_step h, hq]
  rw [e1, e2]
  exact ⟨rfl, meant_at hi hq h1⟩
/- the fewer days' meanings are among them -/
def amongB (l : List (Int × Int)) (p : Int × Int) (k : Nat) : Bool := (l.take k).any fun y => y == p
theorem among_step {l : List (Int × Int)} {p y : Int × Int} {k : Nat} (h : l[k]? = some y) : amongB l p (k + 1) = (amongB l p k || y == p) := by
  unfold amongB
  rw [List.take_add_one, List.any_append, h]
  simp
theorem among_all {l : List (Int × Int)} {p : Int × Int} : amongB l p l.length = true ↔ p ∈ l := by
  unfold amongB
  rw [List.take_length, List.any_eq_true]
  constructor
  · rintro ⟨y, hy, h⟩
    rw [beq_iff_eq] at h
    exact h ▸ hy
  · exact fun h => ⟨p, h, by simp⟩
theorem meant_fewer {n : Int} {l : List Issue} {q q' : Issue → Bool} (hqq : ∀ x, q' x = true → q x = true) {p : Int × Int} (h : p ∈ meantL n (bk l q' l.length)) : p ∈ meantL n (bk l q l.length) := by
  obtain ⟨i, x, h1, h2, h3, h4⟩ := meant_mem.1 h
  exact meant_mem.2 ⟨i, x, h1, hqq x h2, h3, h4⟩
theorem inUse_fewer {a b c d : Int} (h1 : a ≤ c) (h2 : d ≤ b) (x : Issue) (h : inUseQ c d x = true) : inUseQ a b x = true := by
  simp only [inUseQ, meetB, Bool.and_eq_true, decide_eq_true_eq] at h ⊢
  omega
theorem lot_range {a b n : Int} (h : a ≤ b) : a ≤ lotI a b n ∧ lotI a b n ≤ b := by
  unfold lotI
  split
  · omega
  · have := spin_range n (b - a + 1) (by omega)
    omega
end Go.Proofs.YtpcajmkmmkmekaaGreatDoor

