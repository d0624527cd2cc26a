/- What some chooses, what printed says, what Price answers: plain mathematics. -/
import Derived.Test.YtpcajmkmmkmekaaGreatDoorXK7
import Derived.Test.YtpcajmkmmkmekaaGreatDoorGh
set_option linter.unusedVariables false
set_option linter.unusedSimpArgs false
namespace Go.Proofs.YtpcajmkmmkmekaaGreatDoor
open Go Go.RowKit
/- an item that numbers choose -/
def someI (r : Rack) (n0 : Int) : Nat := (spinI n0 r.issues.length).toNat
def someE (x : Issue) (n1 : Int) : Nat := (spinI n1 x.entries.length).toNat
def someZ (y : Entry) (n2 : Int) : Nat := (spinI n2 y.sizes.length).toNat
def someT (r : Rack) (n0 n1 n2 n3 : Int) : Item :=
  match r.issues[someI r n0]? with
  | some x => (match x.entries[someE x n1]? with
    | some y => (match y.sizes[someZ y n2]? with
      | some z => ⟨y.good, z.size, spinI n3 4⟩
      | none => ⟨y.good, 1, spinI n3 4⟩)
    | none => ⟨spinI n1 r.goods, 1 + spinI n2 99, spinI n3 4⟩)
  | none => ⟨0, 1, 0⟩
theorem spin_nat (n : Int) {m : Nat} (h : 1 ≤ m) : ∃ k : Nat, spinI n m = (k : Int) ∧ k < m ∧ (spinI n m).toNat = k := by
  obtain ⟨h0, h1⟩ := spin_range n m (by omega)
  obtain ⟨k, hk⟩ := Int.eq_ofNat_of_zero_le h0
  refine ⟨k, hk, ?_, ?_⟩
  · omega
  · omega
theorem some_at {r : Rack} (h : RackOk r) (n0 : Int) : ∃ (k : Nat) (x : Issue), spinI n0 r.issues.length = (k : Int) ∧ someI r n0 = k ∧ k < r.issues.length ∧ r.issues[k]? = some x := by
  obtain ⟨k, h1, h2, h3⟩ := spin_nat n0 h.n1
  exact ⟨k, r.issues[k], h1, h3, h2, List.getElem?_eq_getElem h2⟩
theorem someT_bare {r : Rack} {n0 n1 n2 n3 : Int} {k : Nat} {x : Issue} (hk : someI r n0 = k) (hx : r.issues[k]? = some x) (he : x.entries.length = 0) :
    someT r n0 n1 n2 n3 = ⟨spinI n1 r.goods, 1 + spinI n2 99, spinI n3 4⟩ := by
  have h : x.entries = [] := List.eq_nil_of_length_eq_zero he
  simp [someT, hk, hx, h]
theorem someT_of {r : Rack} {n0 n1 n2 n3 : Int} {k j m : Nat} {x : Issue} {y : Entry} {z : Fit} (hk : someI r n0 = k) (hx : r.issues[k]? = some x) (hj : someE x n1 = j) (hy : x.entries[j]? = some y) (hm : someZ y n2 = m) (hz : y.sizes[m]? = some z) :
    someT r n0 n1 n2 n3 = ⟨y.good, z.size, spinI n3 4⟩ := by
  simp [someT, hk, hx, hj, hy, hm, hz]
theorem someT_ok {r : Rack} (h : RackOk r) (n0 n1 n2 n3 : Int) : itemB r (someT r n0 n1 n2 n3) = true := by
  obtain ⟨k, x, h1, h2, h3, h4⟩ := some_at h n0
  have c := spin_range n3 4 (by omega)
  by_cases he : x.entries.length = 0
  · rw [someT_bare h2 h4 he]
    have a := spin_range n1 r.goods h.g1
    have b := spin_range n2 99 (by omega)
    simp [itemB, goodB, limB, limLo, limHi]
    omega
  · obtain ⟨j, e1, e2, e3⟩ := spin_nat n1 (m := x.entries.length) (by omega)
    have hy : x.entries[j]? = some x.entries[j] := List.getElem?_eq_getElem e2
    have hyo := (h.issues x (List.mem_of_getElem? h4)).entries _ (List.mem_of_getElem? hy)
    obtain ⟨m, f1, f2, f3⟩ := spin_nat n2 (m := x.entries[j].sizes.length) hyo.z1
    have hz : x.entries[j].sizes[m]? = some x.entries[j].sizes[m] := List.getElem?_eq_getElem f2
    have hzo := hyo.fits _ (List.mem_of_getElem? hz)
    rw [someT_of h2 h4 e3 hy f3 hz]
    have a1 := hyo.g1
    have a2 := hyo.g2
    have b1 := hzo.s1
    have b2 := hzo.s2
    simp [itemB, goodB, limB, limLo, limHi]
    omega
/- what a book says an item costs -/
def printedF (x : Issue) (it : Item) : Int := (offerO x it).getD 0
/-- an entry says nothing of the item -/
def muteB (it : Item) (e : Entry) : Bool := !(e.good == it.good && hasColour e.colours it.colour) || (sizeO e.sizes it.size).isNone
theorem printed_none {x : Issue} {it : Item} (h : ∀ e ∈ x.entries, muteB it e = true) : printedF x it = 0 := by
  unfold printedF offerO
  cases hf : x.entries.find? fun e => e.good == it.good with
  | none => rfl
  | some e =>
    have h1 := h e (List.mem_of_find?_eq_some hf)
    have h2 := List.find?_some hf
    simp only [muteB] at h1
    simp only at h2 ⊢
    split
    · rename_i hc
      simp only [h2, hc, Bool.and_self, Bool.not_true, Bool.false_or] at h1
      simp only [Option.isNone_iff_eq_none] at h1
      rw [h1]; rfl
    · rfl
theorem printed_some {r : Rack} {x : Issue} {it : Item} (hx : IssueOk r x) {k : Nat} {e : Entry} {p : Int} (he : x.entries[k]? = some e) (hg : e.good = it.good) (hc : hasColour e.colours it.colour = true) (hp : sizeO e.sizes it.size = some p) :
    printedF x it = p := by
  have hf : x.entries.find? (fun o => o.good == it.good) = some e := by
    obtain ⟨hk, rfl⟩ := List.getElem?_eq_some_iff.1 he
    rw [List.find?_eq_some_iff_getElem]
    refine ⟨by simp [hg], k, hk, rfl, fun j hj => ?_⟩
    have := (hx.apart j k _ _ hj (List.getElem?_eq_getElem (by omega)) he).2
    rw [hg] at this
    simpa using this
  simp [printedF, offerO, hf, hc, hp]
theorem offer_pos {r : Rack} {x : Issue} {it : Item} (hx : IssueOk r x) {p : Int} (h : offerO x it = some p) : 1 ≤ p ∧ p ≤ 100000 := by
  unfold offerO at h
  split at h
  · rename_i e hf
    split at h
    · unfold sizeO at h
      cases hz : e.sizes.find? fun f => f.size == it.size with
      | none => rw [hz] at h; cases h
      | some f =>
        rw [hz] at h
        simp only [Option.map_some, Option.some.injEq] at h
        subst h
        have := (hx.entries e (List.mem_of_find?_eq_some hf)).fits f (List.mem_of_find?_eq_some hz)
        exact ⟨this.p1, this.p2⟩
    · cases h
  · cases h
theorem printed_pos {r : Rack} {x : Issue} {it : Item} (hx : IssueOk r x) : 0 ≤ printedF x it ∧ printedF x it ≤ 100000 ∧ (printedF x it = 0 ↔ offerO x it = none) ∧ ∀ p, offerO x it = some p → printedF x it = p := by
  unfold printedF
  cases h : offerO x it with
  | none => simp
  | some p =>
    have := offer_pos hx h
    simp
    omega
/- what Price answers -/
theorem offers_mem {it : Item} {l : List Issue} {q : Issue → Bool} {x : Issue} {p : Int} : (x, p) ∈ offersL it (bk l q l.length) ↔ ∃ i : Nat, l[i]? = some x ∧ q x = true ∧ offerO x it = some p := by
  unfold offersL
  rw [List.mem_filterMap]
  constructor
  · rintro ⟨⟨i, y⟩, hm, h⟩
    obtain ⟨h1, h2⟩ := bk_mem.1 hm
    cases ho : offerO y it with
    | none => rw [ho] at h; cases h
    | some g =>
      rw [ho] at h
      simp only [Option.map_some, Option.some.injEq, Prod.mk.injEq] at h
      obtain ⟨rfl, rfl⟩ := h
      exact ⟨i, h1, h2, ho⟩
  · rintro ⟨i, h1, h2, h3⟩
    exact ⟨(i, x), bk_mem.2 ⟨h1, h2⟩, by simp [h3]⟩
theorem priceF_is (d : Int) : ∀ (l : List (Issue × Int)) (acc : Option Int), (∀ o ∈ l, holdsQ d d o.1 = true) →
    match l.foldl (priceS d) acc with
    | none => acc = none ∧ l = []
    | some p => (acc = some p ∨ ∃ o ∈ l, o.2 = p) ∧ (∀ a, acc = some a → p ≤ a) ∧ ∀ o ∈ l, p ≤ o.2
  | [], acc, _ => by
    cases acc with
    | none => simp
    | some a => simp
  | o :: l, acc, h => by
    have ho := h o (by simp)
    have hS : priceS d acc o = some (match acc with | none => o.2 | some p => min p o.2) := by
      unfold priceS; rw [if_pos ho]; cases acc <;> rfl
    have ih := priceF_is d l (priceS d acc o) (fun o ho => h o (List.mem_cons_of_mem _ ho))
    rw [List.foldl_cons]
    cases hf : l.foldl (priceS d) (priceS d acc o) with
    | none =>
      rw [hf, hS] at ih
      exact absurd ih.1 (by simp)
    | some p =>
      rw [hf, hS] at ih
      obtain ⟨i1, i2, i3⟩ := ih
      have i2 := i2 _ rfl
      refine ⟨?_, fun a ha => ?_, fun y hy => ?_⟩
      · rcases i1 with i1 | ⟨y, hy, rfl⟩
        · simp only [Option.some.injEq] at i1
          cases acc with
          | none => exact .inr ⟨o, by simp, i1⟩
          | some a =>
            simp only at i1
            by_cases hao : a ≤ o.2
            · left; rw [← i1]; congr 1; omega
            · right; exact ⟨o, by simp, by omega⟩
        · exact .inr ⟨y, List.mem_cons_of_mem _ hy, rfl⟩
      · subst ha; simp only at i2; omega
      · rcases List.mem_cons.1 hy with rfl | hy
        · cases acc with
          | none => exact i2
          | some a => simp only at i2; omega
        · exact i3 y hy
theorem priceO_is (r : Rack) (d : Int) (it : Item) : match priceO r d it with
    | none => ∀ (i : Nat) (x : Issue), r.issues[i]? = some x → holdsQ d d x = true → offerO x it = none
    | some p => (∃ (i : Nat) (x : Issue), r.issues[i]? = some x ∧ holdsQ d d x = true ∧ offerO x it = some p) ∧ ∀ (i : Nat) (x : Issue) (q : Int), r.issues[i]? = some x → holdsQ d d x = true → offerO x it = some q → p ≤ q := by
  have h := priceF_is d (offersOn r d d it) none (fun o ho => by
    obtain ⟨i, _, h2, _⟩ := offers_mem.1 (show (o.1, o.2) ∈ _ from ho)
    exact h2)
  unfold priceO priceF
  cases hf : (offersOn r d d it).foldl (priceS d) none with
  | none =>
    rw [hf] at h
    intro i x h1 h2
    cases ho : offerO x it with
    | none => rfl
    | some p =>
      have : (x, p) ∈ offersOn r d d it := offers_mem.2 ⟨i, h1, h2, ho⟩
      rw [h.2] at this
      cases this
  | some p =>
    rw [hf] at h
    obtain ⟨h1, _, h3⟩ := h
    refine ⟨?_, fun i x q e1 e2 e3 => h3 _ (offers_mem.2 ⟨i, e1, e2, e3⟩)⟩
    rcases h1 with h1 | ⟨⟨x, q⟩, hm, rfl⟩
    · cases h1
    · obtain ⟨i, e1, e2, e3⟩ := offers_mem.1 hm
      exact ⟨i, x, e1, e2, e3⟩
theorem price_ask {r : Rack} (hv : validB r = true) {d : Int} {it : Item} (h0 : 0 ≤ d) (h1 : d ≤ 20000) (hi : itemB r it = true) : priceErr r d it = (if (priceO r d it).isSome then 0 else 4) ∧ priceV r d it = (priceO r d it).getD 0 := by
  have h4 : limB 3 d = true := by rw [limB_iff]; simp [limLo, limHi]; omega
  simp [priceErr, priceV, priceAsk, hv, h4, hi]
/- the books up to one say a price -/
def saidB (l : List Issue) (it : Item) (d p : Int) (k : Nat) : Bool := (l.take k).any fun x => decide (0 < printedF x it) && (decide (x.lo ≤ d) && decide (d ≤ x.held)) && (printedF x it == p)
theorem said_step {l : List Issue} {it : Item} {d p : Int} {k : Nat} {x : Issue} (h : l[k]? = some x) : saidB l it d p (k + 1) = (saidB l it d p k || (decide (0 < printedF x it) && (decide (x.lo ≤ d) && decide (d ≤ x.held)) && (printedF x it == p))) := by
  unfold saidB
  rw [List.take_add_one, List.any_append, h]
  simp
theorem holds_one {x : Issue} {d : Int} : holdsQ d d x = true ↔ x.lo ≤ d ∧ d ≤ x.held := by simp [holdsQ, meetB]
theorem said_all {r : Rack} (h : RackOk r) {d : Int} {it : Item} : saidB r.issues it d ((priceO r d it).getD 0) r.issues.length = (priceO r d it).isSome := by
  have hp := priceO_is r d it
  unfold saidB
  rw [List.take_length]
  cases ho : priceO r d it with
  | none =>
    rw [ho] at hp
    simp only [Option.isSome_none, List.any_eq_false]
    intro x hx
    obtain ⟨i, hi⟩ := List.getElem?_of_mem hx
    by_cases hh : x.lo ≤ d ∧ d ≤ x.held
    · have := (printed_pos (it := it) (h.issues x hx)).2.2.1.2 (hp i x hi (holds_one.2 hh))
      simp [this]
    · simp only [Bool.and_eq_true, decide_eq_true_eq]
      intro hc
      exact hh hc.1.2
  | some p =>
    rw [ho] at hp
    obtain ⟨⟨i, x, h1, h2, h3⟩, _⟩ := hp
    simp only [Option.isSome_some, List.any_eq_true]
    have hx := List.mem_of_getElem? h1
    refine ⟨x, hx, ?_⟩
    have a := (printed_pos (it := it) (h.issues x hx)).2.2.2 p h3
    have b := offer_pos (h.issues x hx) h3
    have c := holds_one.1 h2
    simp [a, c]
    omega
/-- a book that says a price then leaves an answer that is no higher -/
theorem price_le {r : Rack} (h : RackOk r) {d : Int} {it : Item} {i : Nat} {x : Issue} (hx : r.issues[i]? = some x) (hn : 0 < printedF x it) (h1 : x.lo ≤ d) (h2 : d ≤ x.held) : (priceO r d it).isSome = true ∧ (priceO r d it).getD 0 ≤ printedF x it := by
  have hp := priceO_is r d it
  have hpx := printed_pos (it := it) (h.issues x (List.mem_of_getElem? hx))
  cases hof : offerO x it with
  | none => have := hpx.2.2.1.2 hof; omega
  | some q =>
    have hq := hpx.2.2.2 q hof
    cases ho : priceO r d it with
    | none =>
      rw [ho] at hp
      have := hp i x hx (holds_one.2 ⟨h1, h2⟩)
      rw [hof] at this; cases this
    | some p =>
      rw [ho] at hp
      have := hp.2 i x q hx (holds_one.2 ⟨h1, h2⟩) hof
      simp
      omega
end Go.Proofs.YtpcajmkmmkmekaaGreatDoor

