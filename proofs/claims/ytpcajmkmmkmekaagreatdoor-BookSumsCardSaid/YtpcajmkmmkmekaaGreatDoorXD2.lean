/- What the specification's sorted, clash, Twins, Means and Number answer: plain mathematics. -/
import Derived.Test.YtpcajmkmmkmekaaGreatDoorXD1
set_option linter.unusedVariables false
set_option linter.unusedSimpArgs false
namespace Go.Proofs.YtpcajmkmmkmekaaGreatDoor
open Go Go.RowKit
/- the least number that is not there yet -/
def leastS (out : List Int) (acc n : Int) : Int := if n ∉ out ∧ (acc < 0 ∨ n < acc) then n else acc
theorem fold_least {out : List Int} : ∀ (l : List Int) (acc : Int), (∀ n ∈ l, 0 ≤ n) → -1 ≤ acc →
    -1 ≤ l.foldl (leastS out) acc ∧ (l.foldl (leastS out) acc = acc ∨ (l.foldl (leastS out) acc ∈ l ∧ l.foldl (leastS out) acc ∉ out)) ∧ (0 ≤ acc → l.foldl (leastS out) acc ≤ acc ∧ 0 ≤ l.foldl (leastS out) acc) ∧ ∀ n ∈ l, n ∉ out → 0 ≤ l.foldl (leastS out) acc ∧ l.foldl (leastS out) acc ≤ n
  | [], acc, _, h => by simp [h]
  | n :: l, acc, hl, h => by
    rw [List.foldl_cons]
    have hn := hl n (by simp)
    have hs : (-1 ≤ leastS out acc n ∧ (0 ≤ acc → leastS out acc n ≤ acc ∧ 0 ≤ leastS out acc n)) ∧ (leastS out acc n = acc ∨ (leastS out acc n = n ∧ n ∉ out)) ∧ (n ∉ out → 0 ≤ leastS out acc n ∧ leastS out acc n ≤ n) := by
      unfold leastS
      split
      · rename_i hc
        exact ⟨⟨by omega, fun _ => by omega⟩, .inr ⟨rfl, hc.1⟩, fun _ => by omega⟩
      · rename_i hc
        refine ⟨⟨by omega, fun _ => by omega⟩, .inl rfl, fun hno => ?_⟩
        have : ¬ (acc < 0 ∨ n < acc) := fun h1 => hc ⟨hno, h1⟩
        omega
    obtain ⟨⟨s1, s2⟩, s3, s4⟩ := hs
    obtain ⟨i1, i2, i3, i4⟩ := fold_least l (leastS out acc n) (fun m hm => hl m (List.mem_cons_of_mem _ hm)) s1
    generalize l.foldl (leastS out) (leastS out acc n) = v at *
    refine ⟨i1, ?_, fun ha => ?_, fun m hm hno => ?_⟩
    · rcases i2 with i2 | ⟨i2, i5⟩
      · rcases s3 with s3 | ⟨s3, s5⟩
        · exact .inl (i2.trans s3)
        · exact .inr ⟨by rw [i2, s3]; simp, by rw [i2, s3]; exact s5⟩
      · exact .inr ⟨List.mem_cons_of_mem _ i2, i5⟩
    · have := s2 ha; have := i3 this.2; omega
    · rcases List.mem_cons.1 hm with rfl | hm
      · have := s4 hno; have := i3 this.1; omega
      · exact i4 m hm hno
theorem least_next {l : List Int} (hl : ∀ n ∈ l, 0 ≤ n) (hd : l.Nodup) {k : Nat} {x : Int} (hx : (sorted l)[k]? = some x) : l.foldl (leastS ((sorted l).take k)) (-1) = x := by
  have hs := sorted_lt hd
  obtain ⟨hk, rfl⟩ := List.getElem?_eq_some_iff.1 hx
  have hS := List.pairwise_iff_getElem.1 hs
  have hno : (sorted l)[k] ∉ (sorted l).take k := by
    intro hm
    rw [List.mem_take_iff_getElem] at hm
    obtain ⟨j, hj, he⟩ := hm
    have := hS j k (by omega) hk (by omega)
    omega
  have hmem : (sorted l)[k] ∈ l := (sorted_mem _ _).1 (List.getElem_mem hk)
  obtain ⟨i1, i2, _, i4⟩ := fold_least (out := (sorted l).take k) l (-1) hl (Int.le_refl _)
  have h4 := i4 _ hmem hno
  rcases i2 with i2 | ⟨i2, i5⟩
  · omega
  · rw [← sorted_mem] at i2
    obtain ⟨j, hj, he⟩ := List.getElem_of_mem i2
    by_cases hjk : j < k
    · exact absurd (by rw [List.mem_take_iff_getElem]; exact ⟨j, by omega, he⟩) i5
    · rcases Nat.lt_or_eq_of_le (Nat.le_of_not_lt hjk) with h1 | rfl
      · have := hS k j hk hj h1
        omega
      · exact he.symm
/- numbers that two books have for different goods -/
def clashS (y : Issue) (met : List Int) (e : Entry) : List Int := if ((numGood y e.number).isSome ∧ numGood y e.number ≠ some e.good) ∧ e.number ∉ met then met ++ [e.number] else met
def clashF (x y : Issue) (met : List Int) : List Int := x.entries.foldl (clashS y) met
def twinS (d : Int) (x : Issue) (met : List Int) (y : Issue) : List Int := if inUseQ d d x && inUseQ d d y then clashF x y met else met
def twinRow (l : List Issue) (d : Int) (met : List Int) (i : Nat) : List Int := match l[i]? with | some x => (l.take i).foldl (twinS d x) met | none => met
def twinAll (l : List Issue) (d : Int) (k : Nat) : List Int := (List.range k).foldl (twinRow l d) []
theorem twinAll_succ {l : List Issue} {d : Int} {k : Nat} {x : Issue} (h : l[k]? = some x) : twinAll l d (k + 1) = (l.take k).foldl (twinS d x) (twinAll l d k) := by
  unfold twinAll
  rw [List.range_succ, List.foldl_append]
  simp [twinRow, h]
theorem clashS_mem {y : Issue} {met : List Int} {e : Entry} {n : Int} : n ∈ clashS y met e ↔ n ∈ met ∨ (n = e.number ∧ (numGood y e.number).isSome ∧ numGood y e.number ≠ some e.good) := by
  unfold clashS
  split
  · rename_i h
    rw [List.mem_append, List.mem_singleton]
    constructor
    · rintro (h1 | rfl)
      · exact .inl h1
      · exact .inr ⟨rfl, h.1⟩
    · rintro (h1 | ⟨rfl, _⟩)
      · exact .inl h1
      · exact .inr rfl
  · rename_i h
    constructor
    · exact .inl
    · rintro (h1 | ⟨rfl, h2⟩)
      · exact h1
      · exact Classical.byContradiction fun hn => h ⟨h2, hn⟩
theorem clashS_nodup {y : Issue} {met : List Int} {e : Entry} (h : met.Nodup) : (clashS y met e).Nodup := by
  unfold clashS
  split
  · rename_i hc
    rw [List.nodup_append]
    refine ⟨h, by simp, fun x hx y hy => ?_⟩
    rw [List.mem_singleton] at hy
    subst hy
    rintro rfl
    exact hc.2 hx
  · exact h
theorem clashF_is (y : Issue) {n : Int} : ∀ (l : List Entry) (met : List Int), met.Nodup → (l.foldl (clashS y) met).Nodup ∧ (n ∈ l.foldl (clashS y) met ↔ n ∈ met ∨ ∃ e ∈ l, n = e.number ∧ (numGood y e.number).isSome ∧ numGood y e.number ≠ some e.good)
  | [], met, h => by simp [h]
  | e :: l, met, h => by
    rw [List.foldl_cons]
    obtain ⟨h1, h2⟩ := clashF_is y (n := n) l (clashS y met e) (clashS_nodup h)
    refine ⟨h1, ?_⟩
    rw [h2, clashS_mem]
    simp only [List.mem_cons, exists_eq_or_imp, or_assoc]
theorem clashS_len (y : Issue) (met : List Int) (e : Entry) : met.length ≤ (clashS y met e).length ∧ (clashS y met e).length ≤ met.length + 1 := by
  unfold clashS
  split <;> simp
theorem clashF_len (y : Issue) : ∀ (l : List Entry) (met : List Int), met.length ≤ (l.foldl (clashS y) met).length ∧ (l.foldl (clashS y) met).length ≤ met.length + l.length
  | [], met => by simp
  | e :: l, met => by
    rw [List.foldl_cons]
    have h1 := clashF_len y l (clashS y met e)
    have h2 := clashS_len y met e
    rw [List.length_cons]
    omega
theorem twinS_len {d : Int} {x y : Issue} {met : List Int} {m : Nat} (hx : x.entries.length ≤ m) : (twinS d x met y).length ≤ met.length + m := by
  unfold twinS
  split
  · have := (clashF_len y x.entries met).2
    unfold clashF
    omega
  · omega
theorem twinF_len {d : Int} {x : Issue} {m : Nat} (hx : x.entries.length ≤ m) : ∀ (l : List Issue) (met : List Int), (l.foldl (twinS d x) met).length ≤ met.length + l.length * m
  | [], met => by simp
  | y :: l, met => by
    rw [List.foldl_cons]
    have h1 := twinF_len (d := d) hx l (twinS d x met y)
    have h2 := twinS_len (d := d) (y := y) (met := met) hx
    rw [List.length_cons, Nat.add_mul]
    omega
theorem twinAll_len {l : List Issue} {d : Int} (h4 : l.length ≤ 4) (h : ∀ x ∈ l, x.entries.length ≤ 24) : ∀ k, k ≤ l.length → (twinAll l d k).length ≤ k * 96
  | 0, _ => by simp [twinAll]
  | k + 1, hk => by
    obtain ⟨x, hx⟩ : ∃ x, l[k]? = some x := ⟨_, List.getElem?_eq_getElem (by omega)⟩
    rw [twinAll_succ hx]
    have h1 := twinAll_len (d := d) h4 h k (by omega)
    have h2 := twinF_len (d := d) (h x (List.mem_of_getElem? hx)) (l.take k) (twinAll l d k)
    rw [List.length_take] at h2
    have h3 : min k l.length * 24 ≤ 4 * 24 := Nat.mul_le_mul_right _ (by omega)
    rw [Nat.add_mul]
    omega
theorem twinF_is {d n : Int} {x : Issue} : ∀ (l : List Issue) (met : List Int), met.Nodup → (l.foldl (twinS d x) met).Nodup ∧ (n ∈ l.foldl (twinS d x) met ↔ n ∈ met ∨ ∃ y ∈ l, inUseQ d d x = true ∧ inUseQ d d y = true ∧ ∃ e ∈ x.entries, n = e.number ∧ (numGood y e.number).isSome ∧ numGood y e.number ≠ some e.good)
  | [], met, h => by simp [h]
  | y :: l, met, h => by
    rw [List.foldl_cons]
    have hs : (twinS d x met y).Nodup ∧ (n ∈ twinS d x met y ↔ n ∈ met ∨ (inUseQ d d x = true ∧ inUseQ d d y = true ∧ ∃ e ∈ x.entries, n = e.number ∧ (numGood y e.number).isSome ∧ numGood y e.number ≠ some e.good)) := by
      unfold twinS
      split
      · rename_i hc
        rw [Bool.and_eq_true] at hc
        have := clashF_is y (n := n) x.entries met h
        unfold clashF
        refine ⟨this.1, ?_⟩
        rw [this.2]
        simp [hc.1, hc.2]
      · rename_i hc
        rw [Bool.and_eq_true] at hc
        refine ⟨h, ?_⟩
        constructor
        · exact .inl
        · rintro (h1 | ⟨h1, h2, _⟩)
          · exact h1
          · exact absurd ⟨h1, h2⟩ hc
    obtain ⟨h1, h2⟩ := twinF_is (d := d) (n := n) (x := x) l (twinS d x met y) hs.1
    refine ⟨h1, ?_⟩
    rw [h2, hs.2]
    simp only [List.mem_cons, exists_eq_or_imp, or_assoc]
theorem twinAll_is {l : List Issue} {d n : Int} : ∀ k, k ≤ l.length → (twinAll l d k).Nodup ∧ (n ∈ twinAll l d k ↔ ∃ (i j : Nat) (x y : Issue), j < i ∧ i < k ∧ l[i]? = some x ∧ l[j]? = some y ∧ inUseQ d d x = true ∧ inUseQ d d y = true ∧ ∃ e ∈ x.entries, n = e.number ∧ (numGood y e.number).isSome ∧ numGood y e.number ≠ some e.good)
  | 0, _ => by simp [twinAll]
  | k + 1, hk => by
    obtain ⟨x, hx⟩ : ∃ x, l[k]? = some x := ⟨_, List.getElem?_eq_getElem (by omega)⟩
    rw [twinAll_succ hx]
    obtain ⟨i1, i2⟩ := twinAll_is (l := l) (d := d) (n := n) k (by omega)
    obtain ⟨h1, h2⟩ := twinF_is (d := d) (n := n) (x := x) (l.take k) _ i1
    refine ⟨h1, ?_⟩
    rw [h2, i2]
    constructor
    · rintro (⟨i, j, a, b, g1, g2, g3⟩ | ⟨y, hy, g1⟩)
      · exact ⟨i, j, a, b, g1, by omega, g3⟩
      · rw [List.mem_take_iff_getElem] at hy
        obtain ⟨j, hj, rfl⟩ := hy
        exact ⟨k, j, x, l[j], by omega, by omega, hx, List.getElem?_eq_getElem (by omega), g1⟩
    · rintro ⟨i, j, a, b, g1, g2, g3, g4, g5⟩
      by_cases hi : i = k
      · subst hi
        rw [hx] at g3
        cases g3
        obtain ⟨hj, rfl⟩ := List.getElem?_eq_some_iff.1 g4
        exact .inr ⟨l[j], by rw [List.mem_take_iff_getElem]; exact ⟨j, by omega, rfl⟩, g5⟩
      · exact .inl ⟨i, j, a, b, g1, by omega, g3, g4, g5⟩
theorem numGood_self {r : Rack} {x : Issue} (hx : IssueOk r x) {e : Entry} (he : e ∈ x.entries) : numGood x e.number = some e.good := by
  obtain ⟨k, hk⟩ := List.getElem?_of_mem he
  unfold numGood
  rw [find_num hx hk]
  rfl
theorem twins_turns {r : Rack} (h : RackOk r) (d : Int) : sorted (twinAll r.issues d r.issues.length) = twinsOn r d := by
  have hnd := (twinAll_is (l := r.issues) (d := d) (n := 0) r.issues.length (Nat.le_refl _)).1
  refine climb_ext _ _ (sorted_lt hnd) (compact_up (sorted_le _)) fun n => ?_
  change n ∈ sorted (twinAll r.issues d r.issues.length) ↔ n ∈ twinsOn r d
  rw [sorted_mem, (twinAll_is (l := r.issues) (d := d) (n := n) r.issues.length (Nat.le_refl _)).2, twinsOn_iff]
  constructor
  · rintro ⟨i, j, x, y, g1, g2, g3, g4, g5, g6, e, he, rfl, g7, g8⟩
    obtain ⟨g, hg⟩ := Option.isSome_iff_exists.1 g7
    refine ⟨((i : Int), e.good), meant_mem.2 ⟨i, x, g3, g5, rfl, numGood_self (h.issues x (List.mem_of_getElem? g3)) he⟩, ((j : Int), g), meant_mem.2 ⟨j, y, g4, g6, rfl, hg⟩, ?_⟩
    intro hc
    simp only at hc
    rw [hg, hc] at g8
    exact g8 rfl
  · rintro ⟨p, hp, q, hq, hne⟩
    obtain ⟨i, x, hx, hxu, _, hp2⟩ := meant_mem.1 hp
    obtain ⟨j, y, hy, hyu, _, hq2⟩ := meant_mem.1 hq
    have hi := (List.getElem?_eq_some_iff.1 hx).1
    have hj := (List.getElem?_eq_some_iff.1 hy).1
    rcases Nat.lt_trichotomy i j with hij | hij | hij
    · obtain ⟨e, he, hen⟩ := numGood_entry hq2
      have hs := numGood_self (h.issues y (List.mem_of_getElem? hy)) he
      refine ⟨j, i, y, x, hij, hj, hy, hx, hyu, hxu, e, he, hen.symm, by rw [hen, hp2]; rfl, ?_⟩
      rw [hen] at hs ⊢
      rw [hs] at hq2
      rw [hp2]
      exact fun hc => hne (Option.some.inj (hc.trans hq2))
    · subst hij
      rw [hx] at hy
      cases hy
      rw [hp2] at hq2
      exact absurd (Option.some.inj hq2) hne
    · obtain ⟨e, he, hen⟩ := numGood_entry hp2
      have hs := numGood_self (h.issues x (List.mem_of_getElem? hx)) he
      refine ⟨i, j, x, y, hij, hi, hx, hy, hxu, hyu, e, he, hen.symm, by rw [hen, hq2]; rfl, ?_⟩
      rw [hen] at hs ⊢
      rw [hs] at hp2
      rw [hq2]
      exact fun hc => hne (Option.some.inj (hc.trans hp2)).symm
theorem twinAll_pos {r : Rack} (h : RackOk r) {d n : Int} {k : Nat} (hk : k ≤ r.issues.length) (hn : n ∈ twinAll r.issues d k) : 0 ≤ n := by
  obtain ⟨i, j, x, y, _, _, hx, _, _, _, e, he, rfl, _⟩ := (twinAll_is k hk).2.1 hn
  have := ((h.issues x (List.mem_of_getElem? hx)).entries e he).n1
  omega
end Go.Proofs.YtpcajmkmmkmekaaGreatDoor

