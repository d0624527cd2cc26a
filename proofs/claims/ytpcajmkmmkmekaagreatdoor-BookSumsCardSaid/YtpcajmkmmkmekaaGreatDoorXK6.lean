/- What Twins and Means answer of a valid rack: plain mathematics. -/
import Derived.Test.YtpcajmkmmkmekaaGreatDoorXK5
import Derived.Test.YtpcajmkmmkmekaaGreatDoorGn
import Derived.Test.YtpcajmkmmkmekaaGreatDoorGq
set_option linter.unusedVariables false
set_option linter.unusedSimpArgs false
namespace Go.Proofs.YtpcajmkmmkmekaaGreatDoor
open Go Go.RowKit
section
open Go.Lib
theorem cu_mem (d : Array Int) (m : Nat) (x : Int) : x ∈ compactUpTo d m ↔ ∃ j, j < m ∧ d[j]! = x := by
  constructor
  · intro h
    obtain ⟨j, hj, rfl⟩ := List.mem_map.1 h
    exact ⟨j, List.mem_range.1 (List.mem_filter.1 hj).1, rfl⟩
  · rintro ⟨j, hj, rfl⟩
    induction j using Nat.strongRecOn with
    | _ j ih =>
      by_cases hk : keeps d j = true
      · exact List.mem_map.2 ⟨j, List.mem_filter.2 ⟨List.mem_range.2 hj, hk⟩, rfl⟩
      · have h1 : ¬ (j = 0 ∨ d[j]! ≠ d[j - 1]!) := by simpa [keeps] using hk
        have h2 : d[j]! = d[j - 1]! := by
          by_cases e : d[j]! = d[j - 1]!
          · exact e
          · exact absurd (.inr e) h1
        have h3 : j ≠ 0 := fun e => h1 (.inl e)
        rw [h2]
        exact ih (j - 1) (by omega) (by omega)
theorem cu_lt (d : Array Int) (hs : ∀ i j, i ≤ j → j < d.size → d[i]! ≤ d[j]!) (m : Nat) (hm : m ≤ d.size) : (compactUpTo d m).Pairwise (· < ·) := by
  induction m with
  | zero => simp [compactUpTo]
  | succ m ih =>
    rw [compactUpTo_succ, List.pairwise_append]
    refine ⟨ih (by omega), by split <;> simp, fun a ha b hb => ?_⟩
    split at hb
    · rename_i hk
      obtain rfl : b = d[m]! := by simpa using hb
      obtain ⟨j, hj, rfl⟩ := (cu_mem d m a).1 ha
      have h1 : m = 0 ∨ d[m]! ≠ d[m - 1]! := by simpa [keeps] using hk
      have h2 : d[m]! ≠ d[m - 1]! := h1.resolve_left (by omega)
      have h3 := hs j (m - 1) (by omega) (by omega)
      have h4 := hs (m - 1) m (by omega) (by omega)
      omega
    · cases hb
theorem compact_mem (l : List Int) (x : Int) : x ∈ compact l ↔ x ∈ l := by
  unfold compact
  rw [cu_mem]
  constructor
  · rintro ⟨j, hj, rfl⟩
    have : l.toArray[j]! = l[j] := by simp [hj]
    rw [this]
    exact List.getElem_mem _
  · intro h
    obtain ⟨j, hj, rfl⟩ := List.getElem_of_mem h
    exact ⟨j, hj, by simp [hj]⟩
theorem compact_up {l : List Int} (h : l.Pairwise (· ≤ ·)) : (compact l).Pairwise (· < ·) := by
  unfold compact
  refine cu_lt _ (fun i j hij hj => ?_) _ (by simp)
  have hj' : j < l.length := by simpa using hj
  rcases Nat.lt_or_eq_of_le hij with h1 | rfl
  · have := (List.pairwise_iff_getElem.1 h) i j (by omega) hj' h1
    simpa [hj', show i < l.length by omega] using this
  · exact Int.le_refl _
end
theorem sorted_mem (l : List Int) (x : Int) : x ∈ sorted l ↔ x ∈ l := List.mem_mergeSort
theorem sorted_le (l : List Int) : (sorted l).Pairwise (· ≤ ·) := by
  have := List.pairwise_mergeSort (le := fun x y : Int => decide (x ≤ y)) (fun a b c h1 h2 => by simp only [decide_eq_true_eq] at *; omega) (fun a b => by simp only [Bool.or_eq_true, decide_eq_true_eq]; omega) l
  exact this.imp fun h => by simpa using h
theorem climbs_of {n : Int} : ∀ (l : List Int) (b : Int), (∀ x ∈ l, b < x ∧ x < n) → l.Pairwise (· < ·) → climbsB n b l = true
  | [], _, _, _ => rfl
  | x :: r, b, h, hp => by
    rw [climbsB]
    have h1 := h x (by simp)
    rw [List.pairwise_cons] at hp
    have h2 := climbs_of r x (fun y hy => ⟨hp.1 y hy, (h y (List.mem_cons_of_mem _ hy)).2⟩) hp.2
    simp [h1.1, h1.2, h2]
/- who is in use -/
theorem bk_mem {l : List Issue} {q : Issue → Bool} {i : Nat} {x : Issue} : (i, x) ∈ bk l q l.length ↔ l[i]? = some x ∧ q x = true := by
  unfold bk
  rw [List.mem_filterMap]
  constructor
  · rintro ⟨j, _, h⟩
    split at h
    · rename_i y hy
      split at h
      · rename_i hq
        cases h
        exact ⟨hy, hq⟩
      · cases h
    · cases h
  · rintro ⟨h1, h2⟩
    exact ⟨i, List.mem_range.2 (List.getElem?_eq_some_iff.1 h1).1, by simp [h1, h2]⟩
theorem meant_mem {n : Int} {l : List Issue} {q : Issue → Bool} {p : Int × Int} : p ∈ meantL n (bk l q l.length) ↔ ∃ (i : Nat) (x : Issue), l[i]? = some x ∧ q x = true ∧ p.1 = (i : Int) ∧ numGood x n = some p.2 := by
  unfold meantL
  rw [List.mem_filterMap]
  constructor
  · rintro ⟨⟨i, x⟩, hm, h⟩
    obtain ⟨h1, h2⟩ := bk_mem.1 hm
    cases hg : numGood x n with
    | none => rw [hg] at h; cases h
    | some g =>
      rw [hg] at h
      simp only [Option.map_some, Option.some.injEq] at h
      subst h
      exact ⟨i, x, h1, h2, rfl, hg⟩
  · rintro ⟨i, x, h1, h2, h3, h4⟩
    refine ⟨(i, x), bk_mem.2 ⟨h1, h2⟩, ?_⟩
    rw [h4]
    obtain ⟨p1, p2⟩ := p
    simp only at h3
    simp [h3]
theorem places_mem {l : List Issue} {q : Issue → Bool} {p : Int × Int} : p ∈ placesL (bk l q l.length) ↔ ∃ (i : Nat) (x : Issue) (e : Entry), l[i]? = some x ∧ q x = true ∧ e ∈ x.entries ∧ p = ((i : Int), e.number) := by
  unfold placesL
  rw [List.mem_flatMap]
  constructor
  · rintro ⟨⟨i, x⟩, hm, h⟩
    obtain ⟨h1, h2⟩ := bk_mem.1 hm
    obtain ⟨e, he, rfl⟩ := List.mem_map.1 h
    exact ⟨i, x, e, h1, h2, he, rfl⟩
  · rintro ⟨i, x, e, h1, h2, h3, rfl⟩
    exact ⟨(i, x), bk_mem.2 ⟨h1, h2⟩, List.mem_map.2 ⟨e, h3, rfl⟩⟩
theorem twins_mem {l : List Issue} {hs ts : List (Int × Int)} {n : Int} : n ∈ twinsN l hs ts ↔ ∃ h ∈ hs, ∃ t ∈ ts, clashB l h t = true ∧ h.2 = n := by
  unfold twinsN clashN
  simp only [List.mem_flatMap, List.mem_map, List.mem_filter]
  constructor
  · rintro ⟨h, hh, t, ⟨ht, hc⟩, rfl⟩
    exact ⟨h, hh, t, ht, hc, rfl⟩
  · rintro ⟨h, hh, t, ht, hc, rfl⟩
    exact ⟨h, hh, t, ⟨ht, hc⟩, rfl⟩
theorem goodOf_at {l : List Issue} {i : Nat} {x : Issue} (h : l[i]? = some x) (n : Int) : goodOf l ((i : Int), n) = (numGood x n).getD 0 := by
  unfold goodOf
  rw [goodsF_at h]
theorem numGood_of {x : Issue} {e : Entry} (he : e ∈ x.entries) : ∃ g, numGood x e.number = some g := by
  unfold numGood
  cases h : x.entries.find? fun o => o.number == e.number with
  | none =>
    rw [List.find?_eq_none] at h
    exact absurd (by simp) (h e he)
  | some o => exact ⟨o.good, rfl⟩
theorem numGood_entry {x : Issue} {n g : Int} (h : numGood x n = some g) : ∃ e ∈ x.entries, e.number = n := by
  unfold numGood at h
  cases hf : x.entries.find? fun o => o.number == n with
  | none => rw [hf] at h; cases h
  | some o => exact ⟨o, List.mem_of_find?_eq_some hf, by have := List.find?_some hf; simpa using this⟩
/-- a number is told just if two of its goods differ -/
theorem twinsOn_iff {r : Rack} {d n : Int} : n ∈ twinsOn r d ↔ ∃ p ∈ meantL n (bk r.issues (inUseQ d d) r.issues.length), ∃ q ∈ meantL n (bk r.issues (inUseQ d d) r.issues.length), p.2 ≠ q.2 := by
  unfold twinsOn placesOn
  rw [compact_mem, sorted_mem, twins_mem]
  constructor
  · rintro ⟨h, hh, t, ht, hc, rfl⟩
    obtain ⟨i, x, e, hx, hq, he, rfl⟩ := places_mem.1 hh
    obtain ⟨j, y, o, hy, hr, ho, rfl⟩ := places_mem.1 ht
    simp only [clashB, Bool.and_eq_true, Bool.not_eq_true', beq_eq_false_iff_ne, beq_iff_eq] at hc
    obtain ⟨_, h2, h3⟩ := hc
    rw [h2] at h3
    rw [goodOf_at hx, goodOf_at hy] at h3
    obtain ⟨g, hg⟩ := numGood_of he
    obtain ⟨g', hg'⟩ := numGood_of ho
    rw [h2] at hg'
    rw [hg, hg'] at h3
    exact ⟨((j : Int), g'), meant_mem.2 ⟨j, y, hy, hr, rfl, hg'⟩, ((i : Int), g), meant_mem.2 ⟨i, x, hx, hq, rfl, hg⟩, by simpa using h3⟩
  · rintro ⟨p, hp, q, hq, hne⟩
    obtain ⟨j, y, hy, hr, hp1, hp2⟩ := meant_mem.1 hp
    obtain ⟨i, x, hx, hs, hq1, hq2⟩ := meant_mem.1 hq
    obtain ⟨e, he, hen⟩ := numGood_entry hq2
    obtain ⟨o, ho, hon⟩ := numGood_entry hp2
    refine ⟨((i : Int), n), places_mem.2 ⟨i, x, e, hx, hs, he, by rw [hen]⟩, ((j : Int), n), places_mem.2 ⟨j, y, o, hy, hr, ho, by rw [hon]⟩, ?_, rfl⟩
    simp only [clashB, Bool.and_eq_true, Bool.not_eq_true', beq_eq_false_iff_ne, beq_iff_eq]
    refine ⟨fun e' => ?_, trivial, ?_⟩
    · have h1 : (j : Int) = i := (Prod.mk.inj e').1
      have h2 : j = i := by omega
      subst h2
      rw [hx] at hy
      cases hy
      rw [hp2] at hq2
      exact hne (Option.some.inj hq2)
    · rw [goodOf_at hx, goodOf_at hy, hp2, hq2]
      simpa using hne
theorem twins_bounds {r : Rack} (hok : RackOk r) {d n : Int} (h : n ∈ twinsOn r d) : 1 ≤ n ∧ n ≤ 9999 := by
  obtain ⟨p, hp, _⟩ := twinsOn_iff.1 h
  obtain ⟨i, x, hx, _, _, hg⟩ := meant_mem.1 hp
  obtain ⟨e, he, rfl⟩ := numGood_entry hg
  have := (hok.issues x (List.mem_of_getElem? hx)).entries e he
  exact ⟨this.n1, this.n2⟩
theorem twins_climb {r : Rack} (hok : RackOk r) (d : Int) : climbsB 10000 (-1) (twinsOn r d) = true :=
  climbs_of _ _ (fun x hx => by have := twins_bounds hok hx; omega) (compact_up (sorted_le _))
theorem two_of {l : List (Int × Int)} {p q : Int × Int} (hp : p ∈ l) (hq : q ∈ l) (h : p.2 ≠ q.2) : 2 ≤ l.length := by
  match l, hp, hq with
  | [x], hp, hq =>
    obtain rfl : p = x := by simpa using hp
    obtain rfl : q = p := by simpa using hq
    exact absurd rfl h
  | _ :: _ :: _, _, _ => simp
def diffB (l : List (Int × Int)) (k : Nat) : Bool := (l.take k).any fun p => p.2 != (l.headD (0, 0)).2
theorem diff_iff {l : List (Int × Int)} : diffB l l.length = true ↔ ∃ p ∈ l, ∃ q ∈ l, p.2 ≠ q.2 := by
  unfold diffB
  rw [List.take_length, List.any_eq_true]
  constructor
  · rintro ⟨p, hp, h⟩
    cases l with
    | nil => cases hp
    | cons x l => exact ⟨p, hp, x, by simp, by simpa using h⟩
  · rintro ⟨p, hp, q, hq, h⟩
    cases l with
    | nil => cases hp
    | cons x l =>
      by_cases h1 : p.2 = x.2
      · exact ⟨q, hq, by simp only [List.headD_cons, bne_iff_ne]; rw [← h1]; exact fun e => h e.symm⟩
      · exact ⟨p, hp, by simpa using h1⟩
theorem diff_step {l : List (Int × Int)} {k : Nat} {p : Int × Int} (h : l[k]? = some p) : diffB l (k + 1) = (diffB l k || p.2 != (l.headD (0, 0)).2) := by
  obtain ⟨hk, rfl⟩ := List.getElem?_eq_some_iff.1 h
  unfold diffB
  rw [List.take_succ_eq_append_getElem hk, List.any_append]
  simp
theorem place_iff {l : List Int} {n : Int} : (placeF l n ≥ 0) ↔ n ∈ l := by
  unfold placeF
  cases h : l.findIdx? fun e => e == n with
  | none =>
    rw [List.findIdx?_eq_none_iff] at h
    constructor
    · intro h2; simp at h2
    · intro hn; have := h n hn; simp at this
  | some k =>
    rw [List.findIdx?_eq_some_iff_getElem] at h
    obtain ⟨hk, hp, _⟩ := h
    constructor
    · intro _; have : l[k] = n := by simpa using hp
      rw [← this]; exact List.getElem_mem _
    · intro _; simp
end Go.Proofs.YtpcajmkmmkmekaaGreatDoor

