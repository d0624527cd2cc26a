/- What Fits and Sure answer of an entry of a valid rack: plain mathematics. -/
import Derived.Test.YtpcajmkmmkmekaaGreatDoorXK8
set_option linter.unusedVariables false
set_option linter.unusedSimpArgs false
namespace Go.Proofs.YtpcajmkmmkmekaaGreatDoor
open Go Go.RowKit
theorem climb_far {l : List Fit} (h : ∀ (k : Nat) (f g : Fit), l[k]? = some f → l[k + 1]? = some g → f.size < g.size) : ∀ (d i : Nat) (f g : Fit), l[i]? = some f → l[i + d + 1]? = some g → f.size < g.size
  | 0, i, f, g, hf, hg => h i f g hf hg
  | d + 1, i, f, g, hf, hg => by
    have hlt : i + d + 1 < l.length := by have := (List.getElem?_eq_some_iff.1 hg).1; omega
    have h1 := climb_far h d i f l[i + d + 1] hf (List.getElem?_eq_getElem hlt)
    have h2 := h (i + d + 1) l[i + d + 1] g (List.getElem?_eq_getElem hlt) hg
    omega
theorem size_one {r : Rack} {y : Entry} (h : EntryOk r y) {f g : Fit} (hf : f ∈ y.sizes) (hg : g ∈ y.sizes) (he : f.size = g.size) : f = g := by
  obtain ⟨i, hi⟩ := List.getElem?_of_mem hf
  obtain ⟨k, hk⟩ := List.getElem?_of_mem hg
  rcases Nat.lt_trichotomy i k with hik | hik | hik
  · obtain ⟨d, rfl⟩ : ∃ d, k = i + d + 1 := ⟨k - i - 1, by omega⟩
    have := climb_far h.climb d i f g hi hk
    omega
  · subst hik
    exact Option.some.inj (hi.symm.trans hk)
  · obtain ⟨d, rfl⟩ : ∃ d, i = k + d + 1 := ⟨i - k - 1, by omega⟩
    have := climb_far h.climb d k g f hk hi
    omega
theorem sizes_in {r : Rack} {y : Entry} (h : EntryOk r y) {p : Fit → Bool} {z : Fit} (hz : z ∈ y.sizes) : z.size ∈ sizesV p y.sizes ↔ p z = true := by
  unfold sizesV
  rw [List.mem_map]
  constructor
  · rintro ⟨f, hf, he⟩
    rw [List.mem_filter] at hf
    have := size_one h hf.1 hz he
    subst this
    exact hf.2
  · exact fun hp => ⟨z, List.mem_filter.2 ⟨hz, hp⟩, rfl⟩
theorem place_in (l : List Int) (n : Int) : (n ∈ l → 0 ≤ placeF l n) ∧ (n ∉ l → placeF l n = -1) := by
  unfold placeF
  constructor
  · intro h
    cases hf : l.findIdx? fun e => e == n with
    | none =>
      rw [List.findIdx?_eq_none_iff] at hf
      have := hf n h
      simp at this
    | some k => simp
  · intro h
    have : (l.findIdx? fun e => e == n) = none := by
      rw [List.findIdx?_eq_none_iff]
      intro x hx
      simp only [beq_eq_false_iff_ne]
      intro he
      exact h (he ▸ hx)
    rw [this]
theorem look_entry {r : Rack} (hv : validB r = true) (h : RackOk r) {k : Nat} {x : Issue} {j : Nat} {y : Entry} {a b : Int} (hx : r.issues[k]? = some x) (hy : x.entries[j]? = some y) (h1 : 1 ≤ a) (h2 : a ≤ b) (h3 : b ≤ 400) (p : Fit → Bool) :
    lookErr r k y.number a b = 0 ∧ lookL p r k y.number a b = sizesV p y.sizes := by
  have hxo := h.issues x (List.mem_of_getElem? hx)
  have hyo := hxo.entries y (List.mem_of_getElem? hy)
  have hk := (List.getElem?_eq_some_iff.1 hx).1
  have n1 := hyo.n1
  have n2 := hyo.n2
  have hf : lookF r k y.number = some y := by
    obtain ⟨hj, he⟩ := List.getElem?_eq_some_iff.1 hy
    simp only [lookF, Int.toNat_natCast, hx]
    rw [List.find?_eq_some_iff_getElem]
    refine ⟨by simp, j, hj, he, fun i hi => ?_⟩
    have := (hxo.apart i j _ _ hi (List.getElem?_eq_getElem (by omega)) hy).1
    simpa using this
  have ha : askB r k y.number a b = true := by
    simp [askB, issueB, limB, limS, limLo, limHi]
    omega
  simp [lookErr, lookL, hv, ha, hf, sizesO]
theorem look_bare {r : Rack} (hv : validB r = true) {k : Nat} {x : Issue} {a b : Int} (hx : r.issues[k]? = some x) (he : x.entries.length = 0) (h1 : 1 ≤ a) (h2 : a ≤ b) (h3 : b ≤ 400) : lookErr r k 1 a b = 4 := by
  have hk := (List.getElem?_eq_some_iff.1 hx).1
  have h0 : x.entries = [] := List.eq_nil_of_length_eq_zero he
  have ha : askB r k 1 a b = true := by
    simp [askB, issueB, limB, limS, limLo, limHi]
    omega
  simp [lookErr, hv, ha, lookF, hx, h0]
/- the one that is sure -/
def firstO (a b : Int) (l : List Fit) : Option Fit := l.find? (sureP a b)
theorem sizes_head (p : Fit → Bool) (l : List Fit) : (sizesV p l).isEmpty = (l.find? p).isNone ∧ (sizesV p l).headD 0 = ((l.find? p).map Fit.size).getD 0 := by
  unfold sizesV
  induction l with
  | nil => simp
  | cons f l ih =>
    by_cases hp : p f = true
    · simp [hp]
    · simp only [List.find?_cons, List.filter_cons, hp, Bool.false_eq_true, if_false]
      simpa using ih
theorem sure_entry {r : Rack} (hv : validB r = true) (h : RackOk r) {k : Nat} {x : Issue} {j : Nat} {y : Entry} {a b : Int} (hx : r.issues[k]? = some x) (hy : x.entries[j]? = some y) (h1 : 1 ≤ a) (h2 : a ≤ b) (h3 : b ≤ 400) :
    sureErr r k y.number a b = (if (firstO a b y.sizes).isSome then 0 else 4) ∧ sureV r k y.number a b = ((firstO a b y.sizes).map Fit.size).getD 0 := by
  obtain ⟨e1, e2⟩ := look_entry hv h hx hy h1 h2 h3 (sureP a b)
  obtain ⟨e3, e4⟩ := sizes_head (sureP a b) y.sizes
  unfold sureErr sureV
  rw [e1, if_pos rfl, if_pos rfl, e2, e3, e4]
  unfold firstO
  cases y.sizes.find? (sureP a b) <;> simp
/-- one of the sizes up to one is the sure one -/
def surelyB (l : List Fit) (s a b : Int) (k : Nat) : Bool := (l.take k).any fun z => (z.size == s) && sureP a b z
theorem surely_step {l : List Fit} {s a b : Int} {k : Nat} {z : Fit} (h : l[k]? = some z) : surelyB l s a b (k + 1) = (surelyB l s a b k || ((z.size == s) && sureP a b z)) := by
  unfold surelyB
  rw [List.take_add_one, List.any_append, h]
  simp
theorem surely_all {r : Rack} {y : Entry} (h : EntryOk r y) {a b : Int} : surelyB y.sizes (((firstO a b y.sizes).map Fit.size).getD 0) a b y.sizes.length = (firstO a b y.sizes).isSome := by
  unfold surelyB
  rw [List.take_length]
  cases hf : firstO a b y.sizes with
  | none =>
    have hn := List.find?_eq_none.1 hf
    simp only [Option.isSome_none, List.any_eq_false]
    intro z hz
    have := hn z hz
    simp only [Bool.not_eq_true] at this
    simp [this]
  | some z =>
    simp only [Option.isSome_some, List.any_eq_true]
    exact ⟨z, List.mem_of_find?_eq_some hf, by simpa using List.find?_some hf⟩
theorem first_fewer {a b c d : Int} {l : List Fit} (h1 : a ≤ c) (h2 : d ≤ b) (h : (firstO a b l).isSome = true) : (firstO c d l).isSome = true := by
  unfold firstO at *
  rw [List.find?_isSome] at *
  obtain ⟨z, hz, hp⟩ := h
  refine ⟨z, hz, ?_⟩
  simp only [sureP, coverB, Bool.and_eq_true, decide_eq_true_eq] at *
  omega
theorem sizes_short (p : Fit → Bool) (l : List Fit) : (sizesV p l).length ≤ l.length := by
  unfold sizesV
  rw [List.length_map]
  exact List.length_filter_le _ _
end Go.Proofs.YtpcajmkmmkmekaaGreatDoor

