/- What sums of lines are: plain mathematics. -/
import Derived.Test.YtpcajmkmmkmekaaGreatDoorXK14
set_option linter.unusedVariables false
set_option linter.unusedSimpArgs false
namespace Go.Proofs.YtpcajmkmmkmekaaGreatDoor
open Go Go.RowKit
def paidI (m : Int) : Int := m - m.tdiv 12
def costI (r : Rack) (d : Int) (l : Line) : Int := (priceO r d l.item).getD 0 * paidI l.many
def addI (r : Rack) (d : Int) (ls : List Line) (k : Nat) : Int := ((ls.take k).map (costI r d)).sum
def addB (r : Rack) (d : Int) (ls : List Line) (k : Nat) : Bool := (ls.take k).all fun l => (priceO r d l.item).isSome
theorem paid_range {m : Int} (h0 : 1 ≤ m) (h1 : m ≤ 1000) : 1 ≤ paidI m ∧ paidI m ≤ 1000 := by
  unfold paidI
  rw [Int.tdiv_eq_ediv_of_nonneg (by omega)]
  omega
theorem cost_range {r : Rack} (h : RackOk r) {d : Int} {l : Line} (h0 : 1 ≤ l.many) (h1 : l.many ≤ 1000) : 0 ≤ costI r d l ∧ costI r d l ≤ 100000000 := by
  obtain ⟨p0, p1⟩ := paid_range h0 h1
  unfold costI
  cases hp : priceO r d l.item with
  | none => simp
  | some p =>
    obtain ⟨q0, q1⟩ := price_pos h hp
    simp only [Option.getD_some]
    have a := Int.mul_nonneg (a := p) (b := paidI l.many) (by omega) (by omega)
    have b := Int.mul_le_mul (a := p) (b := paidI l.many) (c := 100000) (d := 1000) q1 p1 (by omega) (by omega)
    omega
theorem fold_none (d : Int) : ∀ l : List (List (Issue × Int) × Int), l.foldl (sumKS d) none = none
  | [] => rfl
  | _ :: l => by rw [List.foldl_cons]; exact fold_none d l
theorem fold_sum {r : Rack} (h : RackOk r) {d : Int} : ∀ (ls : List Line) (s : Int), (∀ l ∈ ls, 1 ≤ l.many ∧ l.many ≤ 1000) → 0 ≤ s → s + 100000000 * (ls.length : Int) ≤ 9000000000000000000 →
    (ls.map (quoteOf r d d)).foldl (sumKS d) (some s) = if (ls.all fun l => (priceO r d l.item).isSome) then some (s + (ls.map (costI r d)).sum) else none
  | [], s, _, _, _ => by simp
  | l :: ls, s, hl, h0, h1 => by
    obtain ⟨m0, m1⟩ := hl l (by simp)
    obtain ⟨c0, c1⟩ := cost_range h (d := d) m0 m1
    simp only [List.length_cons, Int.natCast_add, Int.natCast_one] at h1
    rw [List.map_cons, List.foldl_cons, List.all_cons, List.map_cons, List.sum_cons]
    have e1 : priceF (quoteOf r d d l).1 d = priceO r d l.item := rfl
    have e2 : (quoteOf r d d l).2 = paidI l.many := rfl
    cases hp : priceO r d l.item with
    | none =>
      have : sumKS d (some s) (quoteOf r d d l) = none := by simp only [sumKS, e1, hp]
      rw [this, fold_none]
      simp
    | some p =>
      have hc : costI r d l = p * paidI l.many := by simp [costI, hp]
      have : sumKS d (some s) (quoteOf r d d l) = some (s + costI r d l) := by
        simp only [sumKS, e1, e2, hp]
        rw [← hc, IntWalk.wrap64_in (costI r d l) ⟨by omega, by omega⟩, IntWalk.wrap64_in _ ⟨by omega, by omega⟩]
      rw [this, fold_sum h ls _ (fun x hx => hl x (List.mem_cons_of_mem _ hx)) (by omega) (by omega)]
      simp only [Option.isSome_some, Bool.true_and]
      rw [Int.add_assoc]
theorem sumO_is {r : Rack} (h : RackOk r) {d : Int} {ls : List Line} (hl : ∀ l ∈ ls, 1 ≤ l.many ∧ l.many ≤ 1000) (hn : ls.length ≤ 20) :
    sumO r d ls = if addB r d ls ls.length then some (addI r d ls ls.length) else none := by
  have := fold_sum h (d := d) ls 0 hl (by omega) (by omega)
  unfold sumO sumK
  rw [this]
  simp [addB, addI, List.take_length]
theorem sum_one {r : Rack} (h : RackOk r) {d : Int} {l : Line} (h0 : 1 ≤ l.many) (h1 : l.many ≤ 1000) :
    sumO r d [l] = (priceO r d l.item).map fun p => p * paidI l.many := by
  rw [sumO_is h (by intro x hx; rw [List.mem_singleton] at hx; subst hx; exact ⟨h0, h1⟩) (by simp)]
  cases hp : priceO r d l.item <;> simp [addB, addI, costI, hp]
theorem add_step {r : Rack} {d : Int} {ls : List Line} {k : Nat} {l : Line} (hx : ls[k]? = some l) :
    addI r d ls (k + 1) = addI r d ls k + costI r d l ∧ addB r d ls (k + 1) = (addB r d ls k && (priceO r d l.item).isSome) := by
  unfold addI addB
  rw [List.take_add_one, hx]
  simp
theorem add_range {r : Rack} (h : RackOk r) {d : Int} {ls : List Line} (hl : ∀ l ∈ ls, 1 ≤ l.many ∧ l.many ≤ 1000) : ∀ k : Nat, 0 ≤ addI r d ls k ∧ addI r d ls k ≤ 100000000 * (k : Int)
  | 0 => by simp [addI]
  | k + 1 => by
    have ih := add_range h (d := d) hl k
    cases hx : ls[k]? with
    | none =>
      have : addI r d ls (k + 1) = addI r d ls k := by unfold addI; rw [List.take_add_one, hx]; simp
      rw [this]; omega
    | some l =>
      have := hl l (List.mem_of_getElem? hx)
      have := cost_range h (d := d) this.1 this.2
      rw [(add_step hx).1]
      omega
theorem paid_more {m : Int} (h0 : 1 ≤ m) (h1 : m ≤ 999) : paidI (m + 1) = if (m + 1).tmod 12 = 0 then paidI m else paidI m + 1 := by
  unfold paidI
  rw [Int.tdiv_eq_ediv_of_nonneg (by omega), Int.tdiv_eq_ediv_of_nonneg (by omega), Int.tmod_eq_emod_of_nonneg (by omega)]
  split <;> omega
/-- what the law asks of a line -/
theorem line_ask {r : Rack} (hv : validB r = true) (h : RackOk r) {d : Int} {l : Line} (h0 : 0 ≤ d) (h1 : d ≤ 20000) (hl : itemB r l.item = true) (m0 : 1 ≤ l.many) (m1 : l.many ≤ 40) :
    (sumErr r d [l] = (if (priceO r d l.item).isSome then 0 else 4) ∧ sumV r d [l] = costI r d l) ∧
    (sumErr r d [⟨l.item, l.many + 1⟩] = (if (priceO r d l.item).isSome then 0 else 4) ∧ sumV r d [⟨l.item, l.many + 1⟩] = if (l.many + 1).tmod 12 = 0 then costI r d l else costI r d l + (priceO r d l.item).getD 0) := by
  have g1 : linesB r [l] = true := by
    simp [linesB, lineB, hl, limB, limLo, limHi]
    omega
  have g2 : linesB r [⟨l.item, l.many + 1⟩] = true := by
    simp [linesB, lineB, hl, limB, limLo, limHi]
    omega
  obtain ⟨a1, a2⟩ := sum_ask hv h0 h1 g1
  obtain ⟨b1, b2⟩ := sum_ask hv h0 h1 g2
  rw [a1, a2, b1, b2, sum_one h (by omega) (by omega), sum_one h (l := ⟨l.item, l.many + 1⟩) (by simp only; omega) (by simp only; omega)]
  simp only
  rw [paid_more m0 (by omega)]
  cases hp : priceO r d l.item with
  | none => simp [costI, hp]
  | some p =>
    refine ⟨⟨by simp, by simp [costI, hp]⟩, by simp, ?_⟩
    simp only [costI, hp, Option.map_some, Option.getD_some]
    split
    · rfl
    · rw [Int.mul_add, Int.mul_one]
end Go.Proofs.YtpcajmkmmkmekaaGreatDoor

