/- What Number answers of a valid rack: plain mathematics. -/
import Derived.Test.YtpcajmkmmkmekaaGreatDoorGq
import Derived.Test.YtpcajmkmmkmekaaGreatDoorGe
set_option linter.unusedVariables false
set_option linter.unusedSimpArgs false
namespace Go.Proofs.YtpcajmkmmkmekaaGreatDoor
open Go Go.RowKit
theorem find_at {α : Type} {p : α → Bool} {l : List α} {k : Nat} {e : α} (he : l[k]? = some e) (hp : p e = true) (hu : ∀ (i : Nat) (o : α), i < k → l[i]? = some o → p o = false) : l.find? p = some e := by
  rw [List.find?_eq_some_iff_getElem]
  obtain ⟨hk, rfl⟩ := List.getElem?_eq_some_iff.1 he
  refine ⟨hp, k, hk, rfl, fun j hj => ?_⟩
  have := hu j _ hj (List.getElem?_eq_getElem (by omega))
  simp [this]
theorem find_num {r : Rack} {x : Issue} (hx : IssueOk r x) {k : Nat} {e : Entry} (he : x.entries[k]? = some e) : (x.entries.find? fun o => o.number == e.number) = some e :=
  find_at he (by simp) fun i o hi ho => by
    have := (hx.apart i k e o hi ho he).1
    simp [this]
theorem find_gd {r : Rack} {x : Issue} (hx : IssueOk r x) {k : Nat} {e : Entry} (he : x.entries[k]? = some e) : (x.entries.find? fun o => o.good == e.good) = some e :=
  find_at he (by simp) fun i o hi ho => by
    have := (hx.apart i k e o hi ho he).2
    simp [this]
theorem numO_at {r : Rack} {i j : Nat} {x z : Issue} {k : Nat} {e : Entry} (h : RackOk r) (hx : r.issues[i]? = some x) (hz : r.issues[j]? = some z) (he : x.entries[k]? = some e) :
    numO r i e.number j = (z.entries.find? fun o => o.good == e.good).map Entry.number := by
  have hxo := h.issues x (List.mem_of_getElem? hx)
  have hi : i < r.issues.length := (List.getElem?_eq_some_iff.1 hx).1
  have h1 : goodsF r.issues i e.number = some e.good := by
    unfold goodsF
    rw [if_pos (by omega)]
    simp [hx, numGood, find_num hxo he]
  rw [numO, h1]
  simp [goodE, hz]
theorem numAsk_at {r : Rack} {i j : Nat} {n : Int} (hi : i < r.issues.length) (hj : j < r.issues.length) (h1 : 1 ≤ n) (h2 : n ≤ 9999) : numAsk r i n j = true := by
  simp only [numAsk, issueB, Bool.and_eq_true, decide_eq_true_eq, limB_iff]
  simp [limLo, limHi]
  omega
/-- the last entry of a good, or none -/
def thereOf (l : List Entry) (g : Int) : Int := l.foldl (fun t e => if e.good == g then e.number else t) 0
theorem there_none {l : List Entry} {g : Int} (h : (l.find? fun o => o.good == g) = none) : thereOf l g = 0 := by
  unfold thereOf
  rw [List.find?_eq_none] at h
  have : ∀ (l : List Entry) (a : Int), (∀ x ∈ l, ¬ (x.good == g) = true) → l.foldl (fun t e => if e.good == g then e.number else t) a = a := by
    intro l
    induction l with
    | nil => intro a _; rfl
    | cons x l ih =>
      intro a hx
      rw [List.foldl_cons, if_neg (hx x (by simp))]
      exact ih a fun y hy => hx y (List.mem_cons_of_mem _ hy)
  exact this l 0 h
theorem there_some {r : Rack} {z : Issue} (hz : IssueOk r z) {g : Int} {o : Entry} (h : (z.entries.find? fun o => o.good == g) = some o) : thereOf z.entries g = o.number := by
  have ho := List.mem_of_find?_eq_some h
  have hg : o.good = g := by have := List.find?_some h; simpa using this
  have huniq : ∀ e ∈ z.entries, e.good = g → e = o := by
    intro e he hge
    obtain ⟨i, hi⟩ := List.getElem?_of_mem he
    obtain ⟨j, hj⟩ := List.getElem?_of_mem ho
    rcases Nat.lt_trichotomy i j with h1 | h1 | h1
    · exact absurd (hge.trans hg.symm) (hz.apart i j o e h1 hi hj).2
    · subst h1; rw [hi] at hj; exact Option.some.inj hj
    · exact absurd (hg.trans hge.symm) (hz.apart j i e o h1 hj hi).2
  have : ∀ (l : List Entry) (a : Int), (∀ e ∈ l, e.good = g → e = o) → ((∃ e ∈ l, e.good = g) ∨ a = o.number) → l.foldl (fun t e => if e.good == g then e.number else t) a = o.number := by
    intro l
    induction l with
    | nil => intro a _ h; rcases h with ⟨e, he, _⟩ | h; · cases he
             · exact h
    | cons x l ih =>
      intro a hx h
      rw [List.foldl_cons]
      refine ih _ (fun e he => hx e (List.mem_cons_of_mem _ he)) ?_
      by_cases hxg : x.good = g
      · right
        rw [if_pos (by simpa using hxg), hx x (by simp) hxg]
      · rw [if_neg (by simpa using hxg)]
        rcases h with ⟨e, he, heg⟩ | h
        · rcases List.mem_cons.1 he with rfl | he
          · exact absurd heg hxg
          · exact .inl ⟨e, he, heg⟩
        · exact .inr h
  exact this _ 0 huniq (.inl ⟨o, ho, hg⟩)
theorem there_step {l : List Entry} {g : Int} {k : Nat} {e : Entry} (h : l[k]? = some e) : thereOf (l.take (k + 1)) g = if e.good == g then e.number else thereOf (l.take k) g := by
  obtain ⟨hk, rfl⟩ := List.getElem?_eq_some_iff.1 h
  rw [thereOf, List.take_succ_eq_append_getElem hk, List.foldl_append]
  rfl
end Go.Proofs.YtpcajmkmmkmekaaGreatDoor

