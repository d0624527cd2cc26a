/- Later Untils, and the least one that is enough; the chapter's answers. -/
import Derived.Test.YtomgnpfpaodpiaaDoorH35
import Derived.Test.YtomgnpfpaodpiaaDoorH31
set_option linter.unusedVariables false
set_option linter.unusedSimpArgs false
namespace Go.Proofs.YtomgnpfpaodpiaaDoor
open Go Go.RowKit
theorem PM.inT_mono {sec till sec' till' : Nat → Int} (hs : ∀ s, sec' s ≤ sec s) (ht : ∀ s, till s ≤ till' s) : ∀ (l : List Nat) (t t' : Int), t' ≤ t → PM.inT sec till t l → PM.inT sec' till' t' l
  | [], _, _, _, _ => trivial
  | s :: l, t, t', h, k => by
    have h1 := hs s
    have h2 := ht s
    have h3 := k.1
    exact ⟨by omega, PM.inT_mono hs ht l _ _ (by omega) k.2⟩
theorem PM.fit_mono {sec till sec' till' : Nat → Int} (hs : ∀ s, sec' s ≤ sec s) (ht : ∀ s, till s ≤ till' s) : ∀ (p m : Nat), PM.Fit sec till p m → PM.Fit sec' till' p m
  | 0, _, h => h
  | p + 1, m, ⟨l, h1, h2, h3, h4⟩ => ⟨l, h1, h2, PM.inT_mono hs ht l 0 0 (Int.le_refl _) h3, PM.fit_mono hs ht p _ h4⟩
theorem till_len (f : Floor) (k : Nat) (u : Int) : (tillF f k u).slips.length = f.slips.length := by simp [withF]
theorem sec_till (f : Floor) (k : Nat) (u : Int) (s : Nat) : secF (tillF f k u) s = secF f s := by
  have e : secsL (tillF f k u) = secsL f := by
    unfold secsL
    apply List.ext_getElem?
    intro i
    rw [List.getElem?_map, List.getElem?_map]
    have e1 : (tillF f k u).slips[i]? = (f.slips[i]?).map (fun s => if k = i then { s with till := u } else s) := by
      show (f.slips.modify k fun s => { s with till := u })[i]? = _
      rw [List.getElem?_modify]
      cases f.slips[i]? with
      | none => rfl
      | some x => by_cases h : k = i <;> simp [h]
    rw [e1]
    cases f.slips[i]? with
    | none => rfl
    | some s =>
      show some (takesF (tillF f k u) (if k = i then { s with till := u } else s)).2 = some (takesF f s).2
      rw [takes_at]
      by_cases h : k = i
      · rw [if_pos h]; rfl
      · rw [if_neg h]
  rw [secF, secF, e]
theorem due_till (f : Floor) (k : Nat) (u : Int) (s : Nat) : dueF (tillF f k u) s = if s = k ∧ s < f.slips.length then u else dueF f s := by
  have e1 : (tillF f k u).slips[s]? = (f.slips[s]?).map (fun x => if k = s then { x with till := u } else x) := by
    show (f.slips.modify k fun s => { s with till := u })[s]? = _
    rw [List.getElem?_modify]
    cases f.slips[s]? with
    | none => rfl
    | some x => by_cases h : k = s <;> simp [h]
  unfold dueF keyF
  rw [Int.toNat_natCast, e1]
  by_cases hs : s < f.slips.length
  · rw [List.getElem?_eq_getElem hs]
    by_cases h : k = s
    · subst h; simp [hs]
    · have h2 : ¬ s = k := fun e => h e.symm
      simp [h, h2]
  · rw [List.getElem?_eq_none (by omega)]
    simp [hs]
theorem all_till (f : Floor) (k : Nat) (u : Int) : allF (tillF f k u) = allF f := by rw [allF, allF, till_len]
theorem all_in (f : Floor) (i : Nat) (h : (allF f).testBit i = true) : i < f.slips.length := by rwa [all_bit, decide_eq_true_eq] at h
theorem enough_fit {f : Floor} (hv : validB f = true) (k p : Nat) {u : Int} (h0 : 0 ≤ u) (h1 : u ≤ 100000) : enoughF f k p u = true ↔ PM.Fit (secF f) (dueF (tillF f k u)) p (allF f) := by
  rw [enoughF, can_fit (valid_till hv none 0 k h0 h1) p (allF f) (fun i hi => by rw [till_len]; exact all_in f i hi), FitF]
  have : secF (tillF f k u) = secF f := funext (sec_till f k u)
  rw [this]
theorem enough_mono {f : Floor} (hv : validB f = true) (k p : Nat) {u v : Int} (h0 : 0 ≤ u) (huv : u ≤ v) (h1 : v ≤ 100000) (h : enoughF f k p u = true) : enoughF f k p v = true := by
  rw [enough_fit hv k p h0 (by omega)] at h
  rw [enough_fit hv k p (by omega) h1]
  refine PM.fit_mono (fun _ => Int.le_refl _) (fun s => ?_) p _ h
  rw [due_till, due_till]
  split <;> omega
theorem spare_is {f : Floor} (hv : validB f = true) {k p t r q : Nat} (ht : t ≤ 100000) (h : IsSpare f k p t r) (hq : q ≤ t) (h1 : ∀ j : Nat, q = j + 1 → enoughF f k p j = false) (h2 : enoughF f k p q = true) : r = q := by
  apply Classical.byContradiction
  intro hne
  by_cases hlt : r < q
  · obtain ⟨j, rfl⟩ : ∃ j, q = j + 1 := ⟨q - 1, by omega⟩
    have := enough_mono hv k p (u := r) (v := j) (by omega) (by omega) (by omega) (h.enough (by omega))
    rw [h1 j rfl] at this
    cases this
  · obtain ⟨j, rfl⟩ : ∃ j, r = j + 1 := ⟨r - 1, by omega⟩
    have := enough_mono hv k p (u := q) (v := j) (by omega) (by omega) (by have := h.le; omega) h2
    rw [h.under j rfl] at this
    cases this
section
variable (a0 a1 a2 a3 a4 a5 a6 : Option Addr)
theorem ch_valid : validB (chap a0 a1 a2 a3 a4 a5 a6) = true := by kernel_rfl
theorem ch_steps : StepsV (chap a0 a1 a2 a3 a4 a5 a6) 3 = 160 ∧ checkSlipV (chap a0 a1 a2 a3 a4 a5 a6) 3 = 0 := ⟨by kernel_rfl, by kernel_rfl⟩
theorem ch_takes : TakesV (chap a0 a1 a2 a3 a4 a5 a6) 0 = (140, 252) ∧ checkSlipV (chap a0 a1 a2 a3 a4 a5 a6) 0 = 0 := ⟨by kernel_rfl, by kernel_rfl⟩
theorem ch_tours : ToursV (chap a0 a1 a2 a3 a4 a5 a6) 2 = [[⟨0, 1⟩]] ∧ checkSlipV (chap a0 a1 a2 a3 a4 a5 a6) 2 = 0 := ⟨by kernel_rfl, by kernel_rfl⟩
theorem ch_is (t0 t1 : Option Addr) : isToursV (chap a0 a1 a2 a3 a4 a5 a6) 0 [⟨t0, 2, [⟨0, 1⟩, ⟨2, 3⟩]⟩, ⟨t1, 1, [⟨0, 1⟩]⟩] = true := by kernel_rfl
theorem ch_done (t0 t1 : Option Addr) : DoneV (chap a0 a1 a2 a3 a4 a5 a6) [⟨t0, 2, [2, 1]⟩, ⟨t1, 2, [0, 3]⟩] = ([(140, 252), (95, 188), (25, 48), (365, 654)], 0) := by kernel_rfl
theorem ch_few : fewF (chap a0 a1 a2 a3 a4 a5 a6) = some 2 := by kernel_rfl
theorem ch_roster : (RosterV (chap a0 a1 a2 a3 a4 a5 a6)).1.length = 2 ∧ (RosterV (chap a0 a1 a2 a3 a4 a5 a6)).2 = 0 := ⟨by kernel_rfl, by kernel_rfl⟩
theorem ch_late : LateV (chap a0 a1 a2 a3 a4 a5 a6) 1 = ([0], 0) := by kernel_rfl
theorem ch_enough : enoughF (chap a0 a1 a2 a3 a4 a5 a6) 3 2 541 = false ∧ enoughF (chap a0 a1 a2 a3 a4 a5 a6) 3 2 542 = true := ⟨by kernel_rfl, by kernel_rfl⟩
theorem ch_spare {v c : Int} (h : SpareA (chap a0 a1 a2 a3 a4 a5 a6) 3 v c) : v = 542 ∧ c = 0 := by
  rcases h with ⟨h1, _, _⟩ | ⟨_, h1, _, _⟩ | ⟨_, hc, k, p, t, r, s, hk, hs, ht, hp, hv, hi⟩
  · exact absurd (ch_steps a0 a1 a2 a3 a4 a5 a6).2 h1
  · rw [ch_few] at h1; cases h1
  · obtain rfl : k = 3 := by omega
    rw [ch_few] at hp
    cases hp
    have hs2 : (chap a0 a1 a2 a3 a4 a5 a6).slips[3]? = some ⟨a5, 2, [⟨1, 1⟩, ⟨2, 6⟩], 900⟩ := rfl
    rw [hs2] at hs
    cases hs
    obtain rfl : t = 900 := by simp at ht; omega
    have := spare_is (ch_valid a0 a1 a2 a3 a4 a5 a6) (by omega) hi (q := 542) (by omega) (fun j hj => by
      obtain rfl : j = 541 := by omega
      exact (ch_enough a0 a1 a2 a3 a4 a5 a6).1) (ch_enough a0 a1 a2 a3 a4 a5 a6).2
    exact ⟨by omega, hc⟩
end
end Go.Proofs.YtomgnpfpaodpiaaDoor

