/- Easier floors: which changes of a floor make it easier. Plain mathematics. -/
import Derived.Test.YtomgnpfpaodpiaaDoorJ16
import Derived.Test.YtomgnpfpaodpiaaDoorJ05
import Derived.Test.YtomgnpfpaodpiaaDoorJ14
import Derived.Test.YtomgnpfpaodpiaaDoorJ11
import Derived.Test.YtomgnpfpaodpiaaDoorJ13
import Derived.Deep.CutRange
import Derived.Deep.CutBlock
import Derived.Lib.MinMax
set_option linter.unusedVariables false
set_option linter.unusedSimpArgs false
namespace Go.Proofs.YtomgnpfpaodpiaaDoor
open Go Go.RowKit
theorem far_climbs {f : Floor} (hv : validB f = true) : ∀ (k : Nat) (x : Int), f.far[k]? = some x → climbsAt f.far k x = true := fun k x hx => by
  have hk := (List.getElem?_eq_some_iff.1 hx).1
  have hF := fine hv
  have hl := hF.picksl
  have hq : f.picks[k]? = some f.picks[k] := List.getElem?_eq_getElem (by omega)
  unfold validB shelvesB at hv
  simp only [Bool.and_eq_true, List.all_eq_true, List.mem_range] at hv
  have h1 := hv.1.1.1.1.2 k hk
  rw [goodShelf_of hx hq, Bool.and_eq_true, Bool.and_eq_true] at h1
  exact h1.1.2
theorem of_fine {f : Floor} (h : Fine f) (hcl : ∀ (k : Nat) (x : Int), f.far[k]? = some x → climbsAt f.far k x = true) : validB f = true := by
  unfold validB shelvesB
  simp only [Bool.and_eq_true, decide_eq_true_eq, hasB_iff, withinB, List.all_eq_true, List.mem_range]
  obtain ⟨f1, f12, fr, pl, pk, st, c1, c20, s9, sl⟩ := h
  refine ⟨⟨⟨⟨⟨⟨by omega, by omega⟩, fun k hk => ?_⟩, by omega⟩, by omega⟩, by omega⟩, fun k hk => ?_⟩
  · have hx : f.far[k]? = some f.far[k] := List.getElem?_eq_getElem hk
    have hq : f.picks[k]? = some f.picks[k] := List.getElem?_eq_getElem (by omega)
    have h1 := fr _ (List.mem_of_getElem? hx)
    have h2 := pk _ (List.mem_of_getElem? hq)
    rw [goodShelf_of hx hq]
    have h3 := hcl k _ hx
    unfold withinB
    simp only [Bool.and_eq_true, decide_eq_true_eq, hasB_iff]
    exact ⟨⟨by omega, h3⟩, by omega, by omega, by omega⟩
  · have hx : f.slips[k]? = some f.slips[k] := List.getElem?_eq_getElem hk
    have h1 := sl _ (List.mem_of_getElem? hx)
    unfold goodSlip
    rw [hx]
    simp only [Bool.and_eq_true, hasB_iff]
    exact ⟨by omega, h1.2.2⟩
theorem Easier.of {f x : Floor} (hv : validB f = true) (hx : validB x = true) (hlen : x.slips.length ≤ f.slips.length) (hc : f.carry ≤ x.carry) (hfar : ∀ i : Nat, (x.far[i]?).getD 0 ≤ (f.far[i]?).getD 0) (hi : x.shi ≤ f.shi) (hp : ∀ i : Nat, ((x.picks[i]?).getD (0, 0)).2 ≤ ((f.picks[i]?).getD (0, 0)).2)
    (hs : ∀ (k : Nat) (s' : SSlip), x.slips[k]? = some s' → ∃ s, f.slips[k]? = some s ∧ s'.lines = s.lines ∧ s.till ≤ s'.till) : Easier f x := by
  refine ⟨hv, hx, hlen, fun k hk => ?_, fun k hk => ?_⟩
  · have h1 := List.getElem?_eq_getElem hk
    obtain ⟨s, g1, g2, g3⟩ := hs k _ h1
    rw [secF_at h1, secF_at g1]
    exact takes_easier hv hx g1 h1 g2 hc (fun y _ => hfar _) hi (fun y _ => hp _)
  · have h1 := List.getElem?_eq_getElem hk
    obtain ⟨s, g1, g2, g3⟩ := hs k _ h1
    rw [dueF_at h1, dueF_at g1]
    exact g3
/-- a later Until -/
theorem easier_till {f : Floor} (hv : validB f = true) {k : Nat} {s : SSlip} (hk : f.slips[k]? = some s) {u : Int} (h1 : s.till ≤ u) (h2 : u ≤ 100000) (A : Option Addr) (C : Nat) : Easier f (withF f A C k u) := by
  have hF := fine hv
  have hget : ∀ (j : Nat) (s' : SSlip), (withF f A C k u).slips[j]? = some s' → ∃ s0, f.slips[j]? = some s0 ∧ s'.lines = s0.lines ∧ s0.till ≤ s'.till ∧ s'.till ≤ 100000 ∧ 0 ≤ s'.till := fun j s' hj => by
    simp only [withF, List.getElem?_modify] at hj
    cases hg : f.slips[j]? with
    | none => rw [hg] at hj; cases hj
    | some s0 =>
      rw [hg] at hj
      have hb := hF.slips s0 (List.mem_of_getElem? hg)
      have hj' : (if k = j then { s0 with till := u } else s0) = s' := Option.some.inj hj
      clear hj
      refine ⟨s0, rfl, ?_⟩
      subst hj'
      by_cases e : k = j
      · subst e
        rw [hk] at hg
        cases hg
        simp only [if_true]
        exact ⟨trivial, h1, h2, by omega⟩
      · simp only [e, if_false]
        exact ⟨trivial, Int.le_refl _, by omega, by omega⟩
  have hlen : (withF f A C k u).slips.length = f.slips.length := by simp [withF]
  have hx : validB (withF f A C k u) = true := by
    refine of_fine ⟨hF.far1, hF.far12, hF.fars, hF.picksl, hF.picks, hF.step, hF.carry1, hF.carry20, by rw [hlen]; exact hF.slips9, fun s' hs' => ?_⟩ (fun k x hk => far_climbs (f := f) hv k x hk)
    obtain ⟨j, hj⟩ := List.mem_iff_getElem?.1 hs'
    obtain ⟨s0, g1, g2, g3, g4, g5⟩ := hget j s' hj
    rw [g2]
    exact ⟨g5, g4, (hF.slips s0 (List.mem_of_getElem? g1)).2.2⟩
  refine Easier.of hv hx (by omega) (Int.le_refl _) (fun _ => Int.le_refl _) (Int.le_refl _) (fun _ => Int.le_refl _) fun j s' hj => ?_
  obtain ⟨s0, g1, g2, g3, -, -⟩ := hget j s' hj
  exact ⟨s0, g1, g2, g3⟩
theorem set_getD_le {α : Type} (l : List α) (j : Nat) (v z : α) (q : α → Int) (h : ∀ y, l[j]? = some y → q v ≤ q y) : ∀ i : Nat, q (((l.set j v)[i]?).getD z) ≤ q ((l[i]?).getD z) := fun i => by
  rw [List.getElem?_set]
  by_cases e : j = i
  · subst e
    rw [if_pos rfl]
    by_cases hl : j < l.length
    · rw [if_pos hl, List.getElem?_eq_getElem hl]
      exact h _ (List.getElem?_eq_getElem hl)
    · rw [if_neg hl, List.getElem?_eq_none (by omega)]
      exact Int.le_refl _
  · rw [if_neg e]
    exact Int.le_refl _
/-- a nearer first shelf -/
def nearF (f : Floor) (A : Option Addr) (C : Nat) (n : Int) : Floor := { f with fA := A, fC := C, far := f.far.set 0 n }
theorem easier_near {f : Floor} (hv : validB f = true) {d n : Int} (hd : f.far[0]? = some d) (h0 : 0 ≤ n) (h1 : n ≤ d) (A : Option Addr) (C : Nat) : Easier f (nearF f A C n) := by
  have hF := fine hv
  have hlen : (nearF f A C n).far.length = f.far.length := by simp [nearF]
  have hdr := hF.fars d (List.mem_of_getElem? hd)
  have hx : validB (nearF f A C n) = true := by
    refine of_fine ⟨by rw [hlen]; exact hF.far1, by rw [hlen]; exact hF.far12, fun x hx => ?_, by rw [hlen]; exact hF.picksl, hF.picks, hF.step, hF.carry1, hF.carry20, hF.slips9, by rw [hlen]; exact hF.slips⟩ (fun k x hk => ?_)
    · rcases List.mem_or_eq_of_mem_set hx with hx | rfl
      · exact hF.fars x hx
      · omega
    · have hc := far_climbs hv
      have hk' : (f.far.set 0 n)[k]? = some x := hk
      show climbsAt (f.far.set 0 n) k x = true
      rw [List.getElem?_set] at hk'
      rcases k with _ | i
      · rfl
      · rw [if_neg (by omega)] at hk'
        have h3 := hc (i + 1) x hk'
        unfold climbsAt at h3 ⊢
        simp only at h3 ⊢
        rw [List.getElem?_set]
        rcases i with _ | i
        · rw [if_pos rfl]
          rw [hd] at h3
          have : 0 < f.far.length := hF.far1
          rw [if_pos this]
          simp only [decide_eq_true_eq] at h3 ⊢
          omega
        · rw [if_neg (by omega)]
          exact h3
  refine Easier.of hv hx (Nat.le_refl _) (Int.le_refl _) (set_getD_le f.far 0 n 0 id fun y hy => ?_) (Int.le_refl _) (fun _ => Int.le_refl _) fun j s' hj => ⟨s', hj, rfl, Int.le_refl _⟩
  rw [hd] at hy
  cases hy
  exact h1
/-- a quicker Step -/
def stepF (f : Floor) (a b : Int) : Floor := { f with slo := a, shi := b }
theorem easier_step {f : Floor} (hv : validB f = true) {a b : Int} (h0 : 1 ≤ a) (hab : a ≤ b) (h1 : b ≤ f.shi) : Easier f (stepF f a b) := by
  have hF := fine hv
  have hs := hF.step
  have hx : validB (stepF f a b) = true := of_fine ⟨hF.far1, hF.far12, hF.fars, hF.picksl, hF.picks, ⟨hab, h0, by show b ≤ 10; omega⟩, hF.carry1, hF.carry20, hF.slips9, hF.slips⟩ (fun k x hk => far_climbs (f := f) hv k x hk)
  exact Easier.of hv hx (Nat.le_refl _) (Int.le_refl _) (fun _ => Int.le_refl _) h1 (fun _ => Int.le_refl _) fun j s' hj => ⟨s', hj, rfl, Int.le_refl _⟩
/-- a quicker Pick -/
def quickF (f : Floor) (A : Option Addr) (C : Nat) (j : Nat) (p : Int × Int) : Floor := { f with pA := A, pC := C, picks := f.picks.set j p }
theorem easier_pick {f : Floor} (hv : validB f = true) {j : Nat} {q p : Int × Int} (hq : f.picks[j]? = some q) (h0 : 0 ≤ p.1) (hab : p.1 ≤ p.2) (h1 : p.2 ≤ q.2) (A : Option Addr) (C : Nat) : Easier f (quickF f A C j p) := by
  have hF := fine hv
  have hqr := hF.picks q (List.mem_of_getElem? hq)
  have hx : validB (quickF f A C j p) = true := by
    refine of_fine ⟨hF.far1, hF.far12, hF.fars, by show (f.picks.set j p).length = _; rw [List.length_set]; exact hF.picksl, fun x hx => ?_, hF.step, hF.carry1, hF.carry20, hF.slips9, hF.slips⟩ (fun k x hk => far_climbs (f := f) hv k x hk)
    rcases List.mem_or_eq_of_mem_set hx with hx | rfl
    · exact hF.picks x hx
    · omega
  refine Easier.of hv hx (Nat.le_refl _) (Int.le_refl _) (fun _ => Int.le_refl _) (Int.le_refl _) (set_getD_le f.picks j p (0, 0) Prod.snd fun y hy => ?_) fun j s' hj => ⟨s', hj, rfl, Int.le_refl _⟩
  rw [hq] at hy
  cases hy
  exact h1
/-- a greater Carry -/
def carryF (f : Floor) (c : Int) : Floor := { f with carry := c }
theorem easier_carry {f : Floor} (hv : validB f = true) {c : Int} (h0 : f.carry ≤ c) (h1 : c ≤ 20) : Easier f (carryF f c) := by
  have hF := fine hv
  have hc1 := hF.carry1
  have hx : validB (carryF f c) = true := of_fine ⟨hF.far1, hF.far12, hF.fars, hF.picksl, hF.picks, hF.step, by show 1 ≤ c; omega, h1, hF.slips9, hF.slips⟩ (fun k x hk => far_climbs (f := f) hv k x hk)
  exact Easier.of hv hx (Nat.le_refl _) h0 (fun _ => Int.le_refl _) (Int.le_refl _) (fun _ => Int.le_refl _) fun j s' hj => ⟨s', hj, rfl, Int.le_refl _⟩
/-- the last slip less -/
def preF (f : Floor) (m : Nat) : Floor := { f with slips := f.slips.take m }
theorem easier_pre {f : Floor} (hv : validB f = true) (m : Nat) : Easier f (preF f m) := by
  have hF := fine hv
  have hl : (preF f m).slips.length ≤ f.slips.length := by simp [preF]; omega
  have h9 := hF.slips9
  have hx : validB (preF f m) = true := of_fine ⟨hF.far1, hF.far12, hF.fars, hF.picksl, hF.picks, hF.step, hF.carry1, hF.carry20, by omega, fun s hs => hF.slips s (List.mem_of_mem_take hs)⟩ (fun k x hk => far_climbs (f := f) hv k x hk)
  refine Easier.of hv hx hl (Int.le_refl _) (fun _ => Int.le_refl _) (Int.le_refl _) (fun _ => Int.le_refl _) fun j s' hj => ⟨s', ?_, rfl, Int.le_refl _⟩
  simp only [preF, List.getElem?_take] at hj
  split at hj
  · exact hj
  · cases hj
end Go.Proofs.YtomgnpfpaodpiaaDoor

/- A floor without some slips: plain mathematics. -/
namespace Go.Proofs.YtomgnpfpaodpiaaDoor
open Go Go.RowKit
set_option maxHeartbeats 2000000
/-- which of the first slips are not in a list -/
def idxK (L : List Int) : Nat → List Nat
  | 0 => []
  | k + 1 => idxK L k ++ (if (k : Int) ∈ L then [] else [k])
def keepK (f : Floor) (L : List Int) (k : Nat) : List SSlip := (idxK L k).filterMap fun i => f.slips[i]?
def leaveF (f : Floor) (L : List Int) (A : Option Addr) (C : Nat) : Floor := { f with sA := A, sC := C, slips := keepK f L f.slips.length }
theorem idxK_mem (L : List Int) (t : Nat) : ∀ k : Nat, t ∈ idxK L k ↔ t < k ∧ (t : Int) ∉ L
  | 0 => by simp [idxK]
  | k + 1 => by
    rw [idxK, List.mem_append, idxK_mem L t k]
    by_cases h : (k : Int) ∈ L
    · rw [if_pos h]
      constructor
      · rintro (⟨h1, h2⟩ | h1)
        · exact ⟨by omega, h2⟩
        · cases h1
      · rintro ⟨h1, h2⟩
        by_cases e : t = k
        · subst e; exact absurd h h2
        · exact .inl ⟨by omega, h2⟩
    · rw [if_neg h, List.mem_singleton]
      constructor
      · rintro (⟨h1, h2⟩ | rfl)
        · exact ⟨by omega, h2⟩
        · exact ⟨by omega, h⟩
      · rintro ⟨h1, h2⟩
        by_cases e : t = k
        · exact .inr e
        · exact .inl ⟨by omega, h2⟩
theorem idxK_lt (L : List Int) : ∀ k : Nat, (idxK L k).Pairwise (· < ·)
  | 0 => by simp [idxK]
  | k + 1 => by
    rw [idxK, List.pairwise_append]
    refine ⟨idxK_lt L k, by split <;> simp, fun a ha b hb => ?_⟩
    have h1 := ((idxK_mem L a k).1 ha).1
    split at hb <;> simp at hb
    omega
theorem idxK_len (L : List Int) : ∀ k : Nat, (idxK L k).length ≤ k
  | 0 => by simp [idxK]
  | k + 1 => by
    have := idxK_len L k
    rw [idxK, List.length_append]
    split <;> simp <;> omega
theorem filterMap_some {α β : Type} (g : α → Option β) : ∀ (l : List α), (∀ a ∈ l, (g a).isSome = true) → ∀ j : Nat, (l.filterMap g)[j]? = (l[j]?).bind g
  | [], _, j => by simp
  | a :: l, h, j => by
    obtain ⟨b, hb⟩ := Option.isSome_iff_exists.1 (h a (by simp))
    rw [List.filterMap_cons_some hb]
    cases j with
    | zero => simp [hb]
    | succ j => simpa using filterMap_some g l (fun x hx => h x (by simp [hx])) j
theorem keepK_at {f : Floor} {L : List Int} {k : Nat} (hk : k ≤ f.slips.length) (j : Nat) : (keepK f L k)[j]? = ((idxK L k)[j]?).bind fun i => f.slips[i]? :=
  filterMap_some _ _ (fun a ha => by
    have := ((idxK_mem L a k).1 ha).1
    rw [List.getElem?_eq_getElem (by omega)]
    rfl) j
theorem keepK_len {f : Floor} {L : List Int} {k : Nat} (hk : k ≤ f.slips.length) : (keepK f L k).length = (idxK L k).length := by
  apply Nat.le_antisymm
  · exact List.length_filterMap_le _ _
  · apply Classical.byContradiction
    intro hn
    have h1 := keepK_at hk (L := L) (keepK f L k).length
    rw [List.getElem?_eq_none (Nat.le_refl _), List.getElem?_eq_getElem (by omega)] at h1
    have := ((idxK_mem L _ k).1 (List.getElem_mem (show (keepK f L k).length < (idxK L k).length by omega))).1
    simp only [Option.bind_some] at h1
    rw [List.getElem?_eq_getElem (by omega)] at h1
    cases h1
theorem keepK_succ {f : Floor} {L : List Int} {k : Nat} {s : SSlip} (hs : f.slips[k]? = some s) : keepK f L (k + 1) = keepK f L k ++ (if (k : Int) ∈ L then [] else [s]) := by
  unfold keepK
  rw [idxK, List.filterMap_append]
  congr 1
  split
  · rfl
  · simp [hs]
theorem keepK_mem {f : Floor} {L : List Int} {k : Nat} {s : SSlip} (h : s ∈ keepK f L k) : s ∈ f.slips := by
  unfold keepK at h
  obtain ⟨i, _, hi⟩ := List.mem_filterMap.1 h
  exact List.mem_of_getElem? hi
theorem place_neg (L : List Int) (n : Int) : placeF L n < 0 ↔ n ∉ L := by
  unfold placeF
  cases h : L.findIdx? fun e => e == n with
  | none =>
    rw [List.findIdx?_eq_none_iff] at h
    simp only
    constructor
    · intro _ hm
      have := h n hm
      simp at this
    · intro _; omega
  | some k =>
    simp only
    constructor
    · intro hk; omega
    · intro hm
      exfalso
      obtain ⟨hk, hp, _⟩ := List.findIdx?_eq_some_iff_getElem.1 h
      exact hm (by have : L[k] = n := by simpa using hp
                   rw [← this]; exact List.getElem_mem hk)
/- the same numbers -/
theorem without_valid {f : Floor} (hv : validB f = true) (L : List Int) (A : Option Addr) (C : Nat) : validB (leaveF f L A C) = true := by
  have hp := valid_parts hv
  unfold validB at hv ⊢
  simp only [Bool.and_eq_true] at hv ⊢
  obtain ⟨⟨⟨⟨v1, v2⟩, v3⟩, v4⟩, v5⟩ := hv
  refine ⟨⟨⟨⟨v1, v2⟩, v3⟩, ?_⟩, ?_⟩
  · rw [hasB_iff] at v4 ⊢
    have h1 : (leaveF f L A C).slips.length ≤ f.slips.length := by
      show (keepK f L f.slips.length).length ≤ _
      rw [keepK_len (Nat.le_refl _)]
      exact idxK_len L _
    omega
  · rw [List.all_eq_true] at v5 ⊢
    intro j hj
    rw [List.mem_range] at hj
    obtain ⟨s, hs⟩ : ∃ s, (leaveF f L A C).slips[j]? = some s := ⟨_, List.getElem?_eq_getElem hj⟩
    rw [goodSlip_of hs]
    obtain ⟨i, hi, his⟩ := List.mem_iff_getElem.1 (keepK_mem (List.mem_of_getElem? hs))
    have := v5 i (List.mem_range.2 hi)
    rw [goodSlip_of (List.getElem?_eq_getElem hi), his] at this
    exact this
theorem leave_hi (f : Floor) (L : List Int) (A : Option Addr) (C : Nat) (l : List SLine) (st : Int) : ∀ n, secsKHi (leaveF f L A C) l st n = secsKHi f l st n
  | 0 => rfl
  | n + 1 => by rw [secsKHi, secsKHi, leave_hi f L A C l st n]; rfl
theorem leave_takes (f : Floor) (L : List Int) (A : Option Addr) (C : Nat) (s : SSlip) : (takesF (leaveF f L A C) s).2 = (takesF f s).2 := by
  have e : stepsF (leaveF f L A C) s = stepsF f s := by unfold stepsF; rfl
  show secsKHi _ _ _ _ = secsKHi _ _ _ _
  rw [e, leave_hi]
theorem get_inj {l : List Nat} (h : l.Pairwise (· < ·)) {i j : Nat} (hi : i < l.length) (hj : j < l.length) (e : l[i] = l[j]) : i = j := by
  rw [List.pairwise_iff_getElem] at h
  rcases Nat.lt_trichotomy i j with k | k | k
  · have := h i j hi hj k; omega
  · exact k
  · have := h j i hj hi k; omega
theorem without_sec {f : Floor} {L : List Int} {A : Option Addr} {C : Nat} {s i : Nat} (hi : (idxK L f.slips.length)[s]? = some i) : secF (leaveF f L A C) s = secF f i ∧ dueF (leaveF f L A C) s = dueF f i := by
  have hil : i < f.slips.length := ((idxK_mem L i _).1 (List.mem_of_getElem? hi)).1
  have hs : f.slips[i]? = some f.slips[i] := List.getElem?_eq_getElem hil
  have hx : (leaveF f L A C).slips[s]? = some f.slips[i] := by
    show (keepK f L f.slips.length)[s]? = _
    rw [keepK_at (Nat.le_refl _), hi]
    exact hs
  rw [secF_at hs, secF_at hx, dueF_at hs, dueF_at hx]
  exact ⟨leave_takes f L A C _, rfl⟩
/-- the others can without those that are left out, just if the floor that is left can -/
theorem without_can {f : Floor} (hv : validB f = true) {L : List Int} (hL : ∀ x ∈ L, 0 ≤ x) (A : Option Addr) (C p : Nat) : canF (leaveF f L A C) p (allF (leaveF f L A C)) = canLess f p L := by
  have hvx := without_valid hv L A C
  have hlen : (leaveF f L A C).slips.length = (idxK L f.slips.length).length := keepK_len (Nat.le_refl _)
  have hin : ∀ i, (lessF (allF f) (setF (L.map Int.toNat))).testBit i = true ↔ i ∈ idxK L f.slips.length := fun i => by
    rw [less_late, idxK_mem]
    refine and_congr_right fun _ => not_congr ?_
    rw [List.mem_map]
    constructor
    · rintro ⟨x, hx, rfl⟩
      have := hL x hx
      rw [show ((x.toNat : Nat) : Int) = x by omega]; exact hx
    · intro h
      exact ⟨_, h, by simp⟩
  have hbx : ∀ s, (allF (leaveF f L A C)).testBit s = true ↔ s < (idxK L f.slips.length).length := fun s => by rw [all_bit, hlen, decide_eq_true_eq]
  have hnd : (idxK L f.slips.length).Nodup := (idxK_lt L _).imp (fun h => by omega)
  unfold canLess
  rw [Bool.eq_iff_iff, can_fit hvx p _ (all_in _), can_fit hv p _ (fun i hi => ((idxK_mem L i _).1 ((hin i).1 hi)).1)]
  unfold FitF
  have key : ∀ s, s < (idxK L f.slips.length).length → (idxK L f.slips.length)[s]? = some ((idxK L f.slips.length)[s]?.getD 0) := fun s hs => by
    rw [List.getElem?_eq_getElem hs]; rfl
  constructor
  · refine PM.fit_image (φ := fun s => (idxK L f.slips.length)[s]?.getD 0) (fun s t hs ht e => ?_) (fun s hs => ?_) (fun t => ?_)
    · rw [hbx] at hs ht
      simp only [List.getElem?_eq_getElem hs, List.getElem?_eq_getElem ht, Option.getD_some] at e
      exact get_inj (idxK_lt L _) hs ht e
    · rw [hbx] at hs
      obtain ⟨e1, e2⟩ := without_sec (A := A) (C := C) (key s hs)
      rw [e1, e2]
      exact ⟨Int.le_refl _, Int.le_refl _⟩
    · rw [hin]
      constructor
      · intro ht
        obtain ⟨s, hs, e⟩ := List.mem_iff_getElem.1 ht
        exact ⟨s, (hbx s).2 hs, by (try simp only); rw [List.getElem?_eq_getElem hs]; exact e⟩
      · rintro ⟨s, hs, rfl⟩
        rw [hbx] at hs
        try simp only
        rw [List.getElem?_eq_getElem hs]
        exact List.getElem_mem hs
  · have fi : ∀ t, t ∈ idxK L f.slips.length → (idxK L f.slips.length)[(idxK L f.slips.length).idxOf t]? = some t ∧ (idxK L f.slips.length).idxOf t < (idxK L f.slips.length).length := fun t ht => by
      have hl := List.idxOf_lt_length_of_mem ht
      refine ⟨?_, hl⟩
      rw [List.getElem?_eq_getElem hl, List.getElem_idxOf hl]
    refine PM.fit_image (φ := fun t => (idxK L f.slips.length).idxOf t) (fun s t hs ht e => ?_) (fun t ht => ?_) (fun s => ?_)
    · rw [hin] at hs ht
      have h1 := (fi s hs).1
      have h2 := (fi t ht).1
      try simp only at e
      rw [e, h2] at h1
      exact (Option.some.inj h1).symm
    · rw [hin] at ht
      obtain ⟨e1, e2⟩ := without_sec (A := A) (C := C) (fi t ht).1
      try simp only
      rw [e1, e2]
      exact ⟨Int.le_refl _, Int.le_refl _⟩
    · rw [hbx]
      constructor
      · intro hs
        refine ⟨(idxK L f.slips.length)[s], (hin _).2 (List.getElem_mem hs), ?_⟩
        try simp only
        exact List.Nodup.idxOf_getElem hnd _ hs
      · rintro ⟨t, ht, rfl⟩
        exact (fi t ((hin t).1 ht)).2
/-- nobody is late just if all can -/
theorem late_nil (f : Floor) (p : Nat) : (lateF f p).length = 0 ↔ canF f p (allF f) = true := by
  have e : canLess f p [] = canF f p (allF f) := by
    unfold canLess
    rw [List.map_nil, show setF [] = 0 from rfl, PM.less_zero]
  constructor
  · intro h
    rw [← e, ← List.length_eq_zero_iff.1 h]
    exact (late_top p).ok
  · intro h
    have := late_least (f := f) (p := p) (y := []) (List.nil_sublist _) (by rw [e]; exact h)
    simpa using this
end Go.Proofs.YtomgnpfpaodpiaaDoor

/- Who must be late: what is said of the others. Plain mathematics. -/
namespace Go.Proofs.YtomgnpfpaodpiaaDoor
open Go Go.RowKit
set_option maxHeartbeats 2000000
theorem climbs_of (n : Int) : ∀ (l : List Int) (b : Int), l.Pairwise (· < ·) → (∀ x ∈ l, b < x ∧ x < n) → climbsB n b l = true
  | [], _, _, _ => rfl
  | x :: l, b, hp, h => by
    obtain ⟨h1, h2⟩ := List.pairwise_cons.1 hp
    have hx := h x (by simp)
    unfold climbsB
    simp only [Bool.and_eq_true, decide_eq_true_eq]
    first
      | exact ⟨⟨hx.1, hx.2⟩, climbs_of n l x h2 fun y hy => ⟨h1 y hy, (h y (by simp [hy])).2⟩⟩
      | exact ⟨hx.1, hx.2, climbs_of n l x h2 fun y hy => ⟨h1 y hy, (h y (by simp [hy])).2⟩⟩
theorem late_climbs (f : Floor) (p : Nat) : climbsB f.slips.length (-1) (lateF f p) = true := by
  obtain ⟨h1, _, _⟩ := late_top (f := f) p
  refine climbs_of _ _ _ ((slips_lt f).sublist h1) fun x hx => ?_
  have := (slips_mem f x).1 (h1.subset hx)
  omega
theorem late_pos (f : Floor) (p : Nat) : ∀ x ∈ lateF f p, 0 ≤ x := fun x hx => ((slips_mem f x).1 ((late_top (f := f) p).in_.subset hx)).1
theorem late_left {f : Floor} (hv : validB f = true) (p : Nat) (B : Option Addr) (C : Nat) : (lateF (leaveF f (lateF f p) B C) p).length = 0 := by
  rw [late_nil, without_can hv (late_pos f p)]
  exact (late_top p).ok
theorem late_few (f : Floor) {p : Nat} (hv : validB f = true) (h1 : 1 ≤ p) (h5 : p ≤ 5) : (lateF f p).length = 0 ↔ ∃ q, fewF f = some q ∧ q ≤ p := by
  rw [late_nil]
  constructor
  · intro h
    cases hq : fewF f with
    | none =>
      have := few_no hq p h1 h5
      rw [h] at this; cases this
    | some q =>
      refine ⟨q, rfl, ?_⟩
      apply Classical.byContradiction
      intro hn
      have := few_below hq p h1 (by omega)
      rw [h] at this; cases this
  · rintro ⟨q, hq, hle⟩
    exact can_up hv (all_in f) hle (few_can hq).2.2
theorem late_others {f : Floor} (hv : validB f = true) {p : Nat} {m : Nat} (hp : PM.prefB (lateM f m) (lateF f p) = true) (B : Option Addr) (C : Nat) : 0 < (lateF (leaveF f (lateM f m) B C) p).length := by
  have hpos : ∀ x ∈ lateM f m, 0 ≤ x := fun x hx => ((slips_mem f x).1 (late_in.subset hx)).1
  apply Classical.byContradiction
  intro hn
  have h0 : (lateF (leaveF f (lateM f m) B C) p).length = 0 := by omega
  rw [late_nil, without_can hv hpos] at h0
  have := (late_top (f := f) p).first _ late_in h0
  rw [hp] at this
  cases this
theorem lateV_is {f : Floor} (hv : validB f = true) {p : Nat} (h1 : 1 ≤ p) (h5 : p ≤ 5) : LateV f p = (lateF f p, 0) := by
  unfold LateV checkV
  rw [if_pos hv, if_pos rfl, if_pos (hasB_iff.2 ⟨by omega, by omega⟩), Int.toNat_natCast]
end Go.Proofs.YtomgnpfpaodpiaaDoor

/- Contract of the law's until, and where the list that it makes lies. -/
namespace Go.Proofs.YtomgnpfpaodpiaaDoor
open Go Go.RowKit
set_option maxHeartbeats 4000000
set_option maxRecDepth 100000 in
theorem until_fresh (f : Floor) (k : Nat) (s : SSlip) (hs : f.slips[k]? = some s) (h9 : f.slips.length ≤ 9) (u : Int) (w : World) (h : FloorAt w w.heap.size f) :
    Calls Tryd.prog 48 #[f.val, vi k, vi u] w fun e w' => ∃ g c rest, e = .returned (.agg #[.slice f.fA f.far.length f.fC, vi f.slo, vi f.shi, .slice f.pA f.picks.length f.pC, vi f.carry, .slice (some ⟨g, 0, none⟩) f.slips.length c]) ∧ CellsBox w' g 52 (flatSl (f.slips.modify k fun s => { s with till := u }) ++ rest) ∧ (f.slips.length ≤ c ∧ c ≤ maxLen) ∧ w.heap.size ≤ g ∧ Below w.heap.size w w' := by
  obtain ⟨i0, hi, hy0, hy1, hy2⟩ := info_parts info_slip
  have hk := (List.getElem?_eq_some_iff.1 hs).1
  have HF := Lib.hid h
  have hat := flatSl_at f.slips k s hs
  have HAT := Lib.hid hat
  have HSET := Lib.hid (flatSl_set f.slips k u hk)
  have HLEN := Lib.hid (flatSl_len f.slips)
  obtain ⟨sb, so, hsA, hsb, s0, s1⟩ := row2 h.slips.row hs rfl
  have HS0 := Lib.hid s0
  have hkI : (k : Int) < f.slips.length := by omega
  have h0k : (0 : Int) ≤ k := by omega
  have hle := h.slips.lens
  have hnews := row_cells (b := sb) (off := so) (by have := h.slips.row; rwa [hsA] at this) (slips_two f.slips) (by omega) (by simp; omega)
  have HN := Lib.hid hnews
  have hfl : (f.slips.map SSlip.cells).flatten.length = f.slips.length * 2 := by rw [flat_len _ (slips_two f.slips)]; simp
  have HFL := Lib.hid hfl
  obtain ⟨SL, hSL⟩ : ∃ SL, SL = flatSl (f.slips.modify k fun s => { s with till := u }) := ⟨_, rfl⟩
  rw [← hSL] at HSET ⊢
  clear h hs hat hnews hfl s0 s1 hSL
  obtain ⟨sa, sc, sl, st⟩ := s
  obtain ⟨fA, fC, ff, slo, shi, pA, pC, fp, fc, sA, sC, fs⟩ := f
  simp only at hsA
  subst hsA
  simp only [SSlip.slice] at HAT HS0
  simp only at HF HAT HSET HLEN HN HFL h9 hk hkI hle ⊢
  have hb0 := below1 w (.cells #[.slice fA ff.length fC, vi slo, vi shi, .slice pA fp.length pC, vi fc, .slice (some ⟨sb, so, none⟩) fs.length sC] 28)
  have X0 := CellsBox.new w 28 [.slice fA ff.length fC, vi slo, vi shi, .slice pA fp.length pC, vi fc, .slice (some ⟨sb, so, none⟩) fs.length sC]
  have hb1 := hb0.alloc hb0.size (.cells #[.slice none 0 0, vi 0, vi 0, .slice none 0 0, vi 0, .slice none 0 0] 28)
  have X1 := X0.alloc (.cells #[.slice none 0 0, vi 0, vi 0, .slice none 0 0, vi 0, .slice none 0 0] 28)
  have R1 := CellsBox.new (w.alloc (.cells #[.slice fA ff.length fC, vi slo, vi shi, .slice pA fp.length pC, vi fc, .slice (some ⟨sb, so, none⟩) fs.length sC] 28)) 28 [.slice none 0 0, vi 0, vi 0, .slice none 0 0, vi 0, .slice none 0 0]
  have hb2 := hb1.alloc hb1.size (.cells #[.slice fA ff.length fC, vi slo, vi shi, .slice pA fp.length pC, vi fc, .slice (some ⟨sb, so, none⟩) fs.length sC] 28)
  have X2 := X1.alloc (.cells #[.slice fA ff.length fC, vi slo, vi shi, .slice pA fp.length pC, vi fc, .slice (some ⟨sb, so, none⟩) fs.length sC] 28)
  have R2 := R1.alloc (.cells #[.slice fA ff.length fC, vi slo, vi shi, .slice pA fp.length pC, vi fc, .slice (some ⟨sb, so, none⟩) fs.length sC] 28)
  have Y2 := CellsBox.new ((w.alloc (.cells #[.slice fA ff.length fC, vi slo, vi shi, .slice pA fp.length pC, vi fc, .slice (some ⟨sb, so, none⟩) fs.length sC] 28)).alloc (.cells #[.slice none 0 0, vi 0, vi 0, .slice none 0 0, vi 0, .slice none 0 0] 28)) 28 [.slice fA ff.length fC, vi slo, vi shi, .slice pA fp.length pC, vi fc, .slice (some ⟨sb, so, none⟩) fs.length sC]
  show Calls Tryd.prog 48 #[.agg #[.slice fA ff.length fC, vi slo, vi shi, .slice pA fp.length pC, vi fc, .slice (some ⟨sb, so, none⟩) fs.length sC], vi k, vi u] w _
  go_enter Tryd.func48, Tryd.ntmps48
  go_upto_region 2 with fail
  refine (?_ : ∀ W3 : World, CellsBox W3 w.heap.size 28 [.slice fA ff.length fC, vi slo, vi shi, .slice pA fp.length pC, vi fc, .slice (some ⟨sb, so, none⟩) fs.length sC] → CellsBox W3 (w.heap.size + 1) 28 [.slice none 0 0, vi 0, vi 0, .slice none 0 0, vi 0, .slice none 0 0] → CellsBox W3 (w.heap.size + 1 + 1) 28 [.slice fA ff.length fC, vi slo, vi shi, .slice pA fp.length pC, vi fc, .slice (some ⟨sb, so, none⟩) fs.length sC] → Below w.heap.size w W3 → Code.wp _ _ _ _ W3) _ X2 (by simpa using R2) (by simpa using Y2) hb2
  clear hb0 hb1 hb2 X0 X1 X2 R1 R2 Y2
  intro W3 X R Y HB
  have a5 := X.cell (j := 5) rfl
  have za := X.lt
  have hz := HB.size
  have z2 := Y.lt
  have HX := Lib.hid X
  have HR := Lib.hid R
  have HY := Lib.hid Y
  have HN3 := Lib.hid (fun j u hj => HB.cell (p := (⟨sb, so, none⟩ : Addr).add j) (by unfold Addr.add; split <;> exact hsb) |>.trans (HN.out j u hj))
  have y0 := Y.frozen 5
  have hn0 : 0 < fs.length := by omega
  clear X R Y
  go_wp2_with (at_builtin; go_loud (refine wpList_append_own _ rfl _ _ 26 rfl W3.heap.size 52 i0 (.agg #[.slice none 0 0, vi 0]) 2 32 Tryd.underlying26 hi hy0 hy1 hy2 rfl (by decide) _ _ _ rfl (own_empty W3 _ _) ⟨sb, so, none⟩ fs.length sC (fs.map SSlip.cells).flatten rfl HFL.out (fun j u hj => cell_alloc (HN3.out j u hj) _) (by intro u hu; simp only [List.mem_flatten, List.mem_map] at hu; obtain ⟨r, ⟨s, _, rfl⟩, hu⟩ := hu; simp only [SSlip.cells, List.mem_cons, List.mem_nil_iff, or_false] at hu; rcases hu with rfl | rfl <;> rfl) (by unfold maxLen; omega) (by omega) (by simp) ?_; intro v5 w5 hown5 hgrow5 _; have HB5 : Below W3.heap.size W3 w5 := Below.grown ((Below.refl W3.heap.size W3).alloc (Nat.le_refl _) _) hgrow5 (by simp) (fun k e => by (have e2 : some W3.heap.size = some k := e; cases e2; exact Nat.le_refl _)); rw [Nat.zero_add, List.nil_append] at hown5; obtain ⟨g, c, cur, rfl, g1, g2, g3, g4, g5, g6⟩ := own_some hown5 hn0; have Y5 := HY.out.keep HB5; have c5 := Y5.cell (j := 5) rfl; have f5 := Y5.frozen 5; have z5 := Y5.lt))
  have XG : CellsBox w5 g 52 (flatSl fs ++ cur.toList.drop (fs.length * 2)) := by
    unfold CellsBox
    rw [g2]
    have e : flatSl fs ++ cur.toList.drop (fs.length * 2) = cur.toList := by
      have : flatSl fs = cur.toList.take (fs.length * 2) := by rw [g6, flatSl, List.flatMap_def]
      rw [this, List.take_append_drop]
    rw [e]
  obtain ⟨rest, hrest⟩ : ∃ rest, rest = cur.toList.drop (fs.length * 2) := ⟨_, rfl⟩
  rw [← hrest] at XG
  have ng0 : g ≠ w.heap.size := by omega
  have ng1 : g ≠ w.heap.size + 1 := by omega
  have ng2 : g ≠ w.heap.size + 1 + 1 := by omega
  have PX := ((HX.out.keep HB5).apart ⟨w.heap.size + 1 + 1, 5, none⟩ (.slice (some ⟨g, 0, none⟩) fs.length c) (by simp only; omega))
  have PR := ((HR.out.keep HB5).apart ⟨w.heap.size + 1 + 1, 5, none⟩ (.slice (some ⟨g, 0, none⟩) fs.length c) (by simp only; omega))
  have PY := (Y5.store 5 (.slice (some ⟨g, 0, none⟩) fs.length c))
  have PG := (XG.apart ⟨w.heap.size + 1 + 1, 5, none⟩ (.slice (some ⟨g, 0, none⟩) fs.length c) (by simp only; omega))
  have PB := ((HB.trans (HB5.mono hz)).setCell (p := ⟨w.heap.size + 1 + 1, 5, none⟩) (by simp only; omega) (.slice (some ⟨g, 0, none⟩) fs.length c))
  have hwg : w.heap.size ≤ g := by omega
  clear hown5 hgrow5 c5 f5 z5 Y5 XG g1 g2 g5 g6 hrest HX HR HY HN3 HB HB5 a5 za y0 z2 HN HFL
  refine (?_ : ∀ W6 : World, CellsBox W6 w.heap.size 28 [.slice fA ff.length fC, vi slo, vi shi, .slice pA fp.length pC, vi fc, .slice (some ⟨sb, so, none⟩) fs.length sC] → CellsBox W6 (w.heap.size + 1) 28 [.slice none 0 0, vi 0, vi 0, .slice none 0 0, vi 0, .slice none 0 0] → CellsBox W6 (w.heap.size + 1 + 1) 28 [.slice fA ff.length fC, vi slo, vi shi, .slice pA fp.length pC, vi fc, .slice (some ⟨g, 0, none⟩) fs.length c] → CellsBox W6 g 52 (flatSl fs ++ rest) → Below w.heap.size w W6 → Code.wp _ _ _ _ W6) _ PX PR PY PG PB
  clear PX PR PY PG PB
  intro W6 X R Y G HB
  have a5 := X.cell (j := 5) rfl
  have za := X.lt
  have y5 := Y.cell (j := 5) rfl
  have zy := Y.lt
  have s0 : W6.cell? ⟨sb, so + k * 2, none⟩ = some (.slice sa sl.length sc) := (HB.cell hsb).trans HS0.out
  have zs := cell_lt s0
  have g0 : W6.cell? ⟨g, 0 + k * 2, none⟩ = some (.slice sa sl.length sc) := by rw [Nat.zero_add]; exact G.cell (by rw [List.getElem?_append_left (by rw [HLEN.out]; omega)]; exact HAT.out.1)
  have g1 : W6.cell? ⟨g, 0 + (k * 2 + 1), none⟩ = some (vi st) := by rw [Nat.zero_add]; exact G.cell (by rw [List.getElem?_append_left (by rw [HLEN.out]; omega)]; exact HAT.out.2)
  rw [Nat.zero_add] at g0 g1
  have q0 := G.frozen (k * 2)
  have q1 := G.frozen (k * 2 + 1)
  have zg := G.lt
  have NX := (X.apart ⟨g, k * 2, none⟩ (.slice sa sl.length sc) (by simp only; omega)).apart ⟨g, k * 2 + 1, none⟩ (vi u) (by simp only; omega)
  have NR := (R.apart ⟨g, k * 2, none⟩ (.slice sa sl.length sc) (by simp only; omega)).apart ⟨g, k * 2 + 1, none⟩ (vi u) (by simp only; omega)
  have NY := (Y.apart ⟨g, k * 2, none⟩ (.slice sa sl.length sc) (by simp only; omega)).apart ⟨g, k * 2 + 1, none⟩ (vi u) (by simp only; omega)
  have NG := (G.store (k * 2) (.slice sa sl.length sc)).store (k * 2 + 1) (vi u)
  have NB := (HB.setCell (p := ⟨g, k * 2, none⟩) hwg (.slice sa sl.length sc)).setCell (p := ⟨g, k * 2 + 1, none⟩) hwg (vi u)
  have HNN := Lib.hid (And.intro NR (And.intro NY (And.intro NG NB)))
  clear NX NR NY NG NB X R Y G HB
  go_region_with fail
  all_goals
    refine (?_ : ∀ W9 : World, CellsBox W9 (w.heap.size + 1) 28 [.slice none 0 0, vi 0, vi 0, .slice none 0 0, vi 0, .slice none 0 0] → CellsBox W9 (w.heap.size + 1 + 1) 28 [.slice fA ff.length fC, vi slo, vi shi, .slice pA fp.length pC, vi fc, .slice (some ⟨g, 0, none⟩) fs.length c] → CellsBox W9 g 52 (((flatSl fs ++ rest).set (k * 2) (.slice sa sl.length sc)).set (k * 2 + 1) (vi u)) → Below w.heap.size w W9 → Exit.then _ _ _ _ W9) _ HNN.out.1 HNN.out.2.1 HNN.out.2.2.1 (by first | exact HNN.out.2.2.2 | exact HNN.out.2.2.2.drew)
    clear HNN s0 zs g0 g1 q0 q1 zg a5 za y5 zy
    intro W9 R Y G HB
    have r0 := R.cell (j := 0) rfl
    have r1 := R.cell (j := 1) rfl
    have r2 := R.cell (j := 2) rfl
    have r3 := R.cell (j := 3) rfl
    have r4 := R.cell (j := 4) rfl
    have r5 := R.cell (j := 5) rfl
    have q0 := R.frozen 0
    have q1 := R.frozen 1
    have q2 := R.frozen 2
    have q3 := R.frozen 3
    have q4 := R.frozen 4
    have q5 := R.frozen 5
    have zr := R.lt
    have y0 := Y.cell (j := 0) rfl
    have y1 := Y.cell (j := 1) rfl
    have y2 := Y.cell (j := 2) rfl
    have y3 := Y.cell (j := 3) rfl
    have y4 := Y.cell (j := 4) rfl
    have y5 := Y.cell (j := 5) rfl
    have zy := Y.lt
    have NG := Lib.hid ((((((G.apart ⟨w.heap.size + 1, 0, none⟩ (.slice fA ff.length fC) (by simp only; omega)).apart ⟨w.heap.size + 1, 1, none⟩ (vi slo) (by simp only; omega)).apart ⟨w.heap.size + 1, 2, none⟩ (vi shi) (by simp only; omega)).apart ⟨w.heap.size + 1, 3, none⟩ (.slice pA fp.length pC) (by simp only; omega)).apart ⟨w.heap.size + 1, 4, none⟩ (vi fc) (by simp only; omega)).apart ⟨w.heap.size + 1, 5, none⟩ (.slice (some ⟨g, 0, none⟩) fs.length c) (by simp only; omega))
    have NR := Lib.hid ((((((R.store 0 (.slice fA ff.length fC)).store 1 (vi slo)).store 2 (vi shi)).store 3 (.slice pA fp.length pC)).store 4 (vi fc)).store 5 (.slice (some ⟨g, 0, none⟩) fs.length c))
    have NB := Lib.hid ((((((HB.setCell (p := ⟨w.heap.size + 1, 0, none⟩) (by simp only; omega) (.slice fA ff.length fC)).setCell (p := ⟨w.heap.size + 1, 1, none⟩) (by simp only; omega) (vi slo)).setCell (p := ⟨w.heap.size + 1, 2, none⟩) (by simp only; omega) (vi shi)).setCell (p := ⟨w.heap.size + 1, 3, none⟩) (by simp only; omega) (.slice pA fp.length pC)).setCell (p := ⟨w.heap.size + 1, 4, none⟩) (by simp only; omega) (vi fc)).setCell (p := ⟨w.heap.size + 1, 5, none⟩) (by simp only; omega) (.slice (some ⟨g, 0, none⟩) fs.length c))
    clear R Y G HB
    go_wp2_with fail
    refine (?_ : ∀ Z : World, CellsBox Z g 52 (((flatSl fs ++ rest).set (k * 2) (.slice sa sl.length sc)).set (k * 2 + 1) (vi u)) → CellsBox Z (w.heap.size + 1) 28 [.slice fA ff.length fC, vi slo, vi shi, .slice pA fp.length pC, vi fc, .slice (some ⟨g, 0, none⟩) fs.length c] → Below w.heap.size w Z → bodyPost _ _ _ _ _ Z) _ NG.out NR.out NB.out
    clear r0 r1 r2 r3 r4 r5 q0 q1 q2 q3 q4 q5 zr y0 y1 y2 y3 y4 y5 zy NG NR NB
    intro Z ZX ZR ZB
    have r0 := ZR.cell (j := 0) rfl
    have r1 := ZR.cell (j := 1) rfl
    have r2 := ZR.cell (j := 2) rfl
    have r3 := ZR.cell (j := 3) rfl
    have r4 := ZR.cell (j := 4) rfl
    have r5 := ZR.cell (j := 5) rfl
    refine bodyPost_ret (v := .agg #[.slice fA ff.length fC, vi slo, vi shi, .slice pA fp.length pC, vi fc, .slice (some ⟨g, 0, none⟩) fs.length c]) (by simp [results, Tryd.results48, go_sem, r0, r1, r2, r3, r4, r5]) rfl ⟨g, c, rest, rfl, ?_, ⟨g3, g4⟩, hwg, ZB⟩
    · have hl := HLEN.out
      have h1 : (flatSl fs).set (k * 2) (.slice sa sl.length sc) = flatSl fs := by
        apply List.ext_getElem?
        intro i
        rw [List.getElem?_set]
        split
        · rename_i hi2
          subst hi2
          rw [HAT.out.1, if_pos (by omega)]
        · rfl
      rw [List.set_append_left _ _ (by omega), h1, List.set_append_left _ _ (by omega)] at ZX
      rw [HSET.out]
      exact ZX
end Go.Proofs.YtomgnpfpaodpiaaDoor

/- The law SlipEasier holds of every floor and four numbers. -/
namespace Go.Proofs.YtomgnpfpaodpiaaDoor
open Go Go.RowKit
set_option maxHeartbeats 8000000
theorem one_five (n : Int) (hn : -9223372036854775808 ≤ n ∧ n ≤ 9223372036854775807) : ∃ (p : Nat) (q : Int), 1 ≤ p ∧ p ≤ 5 ∧ wrap64 (1 + q) = p ∧ IntKind.wrap .i64 (1 + q) = p ∧ ∀ W : World, Calls Tryd.prog 36 #[vi n, vi 5] W fun e w' => e = .returned (vi q) ∧ W = w' := by
  have h := spin_range n 5 (by omega)
  refine ⟨(1 + spinI n 5).toNat, spinI n 5, by omega, by omega, ?_, ?_, fun W => spin_any n 5 W hn.1 hn.2 (by omega)⟩
  · rw [IntWalk.wrap64_in _ ⟨by omega, by omega⟩]; omega
  · rw [wrapI (by omega) (by omega)]; omega
theorem late_call {x : Floor} (hx : validB x = true) {p : Nat} (h1 : 1 ≤ p) (h5 : p ≤ 5) (W : World) (hl : Lim W) (h : FloorAt W W.heap.size x) :
    Calls Tryd.prog 30 #[x.val, vi p] W fun e w' => ∃ A, e = .returned (.tuple #[.slice A (lateF x p).length (lateF x p).length, vi 0]) ∧ Below W.heap.size W w' := by
  have := Late_any x p W hl h
  rw [lateV_is hx h1 h5] at this
  refine this.mono ?_
  rintro e w' ⟨A, rfl, _, hB⟩
  exact ⟨A, rfl, hB⟩
theorem roster_call {x : Floor} {m : Nat} {e : Int} (hm : (RosterV x).1.length = m) (he : (RosterV x).2 = e) (W : World) (hl : Lim W) (h : FloorAt W W.heap.size x) :
    Calls Tryd.prog 28 #[x.val] W fun o w' => ∃ A : Option Addr, o = .returned (.tuple #[.slice A m m, vi e]) ∧ Below W.heap.size W w' := by
  refine (Roster_any x W hl h).mono ?_
  rintro o w' ⟨A, ts, rfl, g1, g2, g3⟩
  have := congrArg List.length g2
  rw [List.length_map, List.length_map, hm] at this
  rw [this, he]
  exact ⟨A, rfl, g3⟩
theorem rosterV_two {x : Floor} (hx : validB x = true) : (fewF x = none ∧ RosterV x = ([], 4)) ∨ ∃ p, fewF x = some p ∧ (RosterV x).1.length = p ∧ (RosterV x).2 = 0 := by
  have hc : checkV x = 0 := by unfold checkV; rw [if_pos hx]
  cases hq : fewF x with
  | none => left; exact ⟨rfl, by unfold RosterV; rw [if_pos hc, hq]⟩
  | some p =>
    right
    have e : RosterV x = (rosterF x p (allF x), 0) := by unfold RosterV; rw [if_pos hc, hq]
    exact ⟨p, rfl, by rw [e]; exact roster_len x p _, by rw [e]⟩
/-- what the two rosters say -/
theorem rosters_easier {f x : Floor} (h : Easier f x) : ∃ (m m' : Nat) (e e' : Int), (RosterV f).1.length = m ∧ (RosterV f).2 = e ∧ (RosterV x).1.length = m' ∧ (RosterV x).2 = e' ∧ ((e = 0 ∧ e' = 0 ∧ m' ≤ m) ∨ (e = 4 ∧ (e' = 0 ∨ e' = 4))) := by
  refine ⟨_, _, _, _, rfl, rfl, rfl, rfl, ?_⟩
  rcases rosterV_two h.vf with ⟨-, k2⟩ | ⟨p, k1, k2, k3⟩
  · right
    rcases rosterV_two h.vx with ⟨-, j2⟩ | ⟨q, j1, j2, j3⟩
    · rw [k2, j2]; exact ⟨rfl, .inr rfl⟩
    · rw [k2, j3]; exact ⟨rfl, .inl rfl⟩
  · left
    rcases h.few with h1 | ⟨p', q', h1, h2, h3⟩
    · rw [k1] at h1; cases h1
    · rw [k1] at h1
      cases h1
      rcases rosterV_two h.vx with ⟨j1, -⟩ | ⟨q, j1, j2, j3⟩
      · rw [h2] at j1; cases j1
      · rw [h2] at j1
        cases j1
        exact ⟨k3, j3, by omega⟩
theorem rows_take {w : World} {B sz cap : Nat} {A : Option Addr} {rows : List (List Value)} (h : RowsAt w B sz A cap rows) (m : Nat) : RowsAt w B sz A cap (rows.take m) := by
  have hl : (rows.take m).length ≤ rows.length := by rw [List.length_take]; omega
  refine ⟨Nat.le_trans hl h.len, h.cap, Nat.le_trans hl h.few, fun h0 => ?_⟩
  obtain ⟨b, off, e1, e2, e3⟩ := h.row (by omega)
  refine ⟨b, off, e1, e2, fun i r hr => e3 i r ?_⟩
  rw [List.getElem?_take] at hr
  split at hr
  · exact hr
  · cases hr
theorem row_box {w : World} {g c sz : Nat} {t : TypeId} {m : List (List Value)} {rest : List Value} (hsz : ∀ r ∈ m, r.length = sz) (h : CellsBox w g t (m.flatten ++ rest)) (hc : m.length ≤ c) (hm : c ≤ maxLen) (hf : m.length ≤ 35184372088832) : RowsAt w w.heap.size sz (some ⟨g, 0, none⟩) c m := by
  refine ⟨hc, by have := hm; unfold maxLen at this; omega, hf, fun _ => ⟨g, 0, rfl, h.lt, fun i r hr j u hj hu => ?_⟩⟩
  have := flat_at (sz := sz) m hsz i r hr j u hj hu
  rw [Nat.zero_add]
  refine h.cell ?_
  have hlt := (List.getElem?_eq_some_iff.1 this).1
  rw [List.getElem?_append_left hlt]
  exact this
theorem flat_set0 : ∀ (l : List Int) (n : Int), 0 < l.length → ((l.set 0 n).map intC).flatten = ((l.map intC).flatten).set 0 (vi n)
  | [], _, h => by simp at h
  | a :: l, n, _ => by simp
theorem flat_spans (l : List (Int × Int)) (j : Nat) (p : Int × Int) (h : j < l.length) : ((l.set j p).map spanC).flatten = (((l.map spanC).flatten).set (j * 2) (vi p.1)).set (j * 2 + 1) (vi p.2) := by
  have := flatS_set l j p h
  simp only [flatS, List.flatMap_def] at this
  exact this
theorem span_two (l : List (Int × Int)) : ∀ r ∈ l.map spanC, r.length = 2 := fun r hr => by
  obtain ⟨s, _, rfl⟩ := List.mem_map.1 hr
  rfl
theorem min_five {p : Nat} (h1 : 1 ≤ p) (h5 : p ≤ 5) : ∃ pm : Nat, 1 ≤ pm ∧ pm ≤ 5 ∧ p ≤ pm ∧ min 5 ((p : Int) + 1) = pm := by
  obtain rfl | rfl | rfl | rfl | rfl : p = 1 ∨ p = 2 ∨ p = 3 ∨ p = 4 ∨ p = 5 := by omega
  · exact ⟨2, by omega, by omega, by omega, rfl⟩
  · exact ⟨3, by omega, by omega, by omega, rfl⟩
  · exact ⟨4, by omega, by omega, by omega, rfl⟩
  · exact ⟨5, by omega, by omega, by omega, rfl⟩
  · exact ⟨5, by omega, by omega, by omega, rfl⟩
set_option maxRecDepth 100000 in
theorem slipEasier_ok (f : Floor) (n0 n1 n2 n3 : Int) (hv : validB f = true) (b0 : -9223372036854775808 ≤ n0 ∧ n0 ≤ 9223372036854775807) (b1 : -9223372036854775808 ≤ n1 ∧ n1 ≤ 9223372036854775807) (b2 : -9223372036854775808 ≤ n2 ∧ n2 ≤ 9223372036854775807) (b3 : -9223372036854775808 ≤ n3 ∧ n3 ≤ 9223372036854775807) (w : World) (hl : Lim w) (h : FloorAt w w.heap.size f) :
    Calls Tryd.prog 12 #[f.val, .agg #[vi n0, vi n1, vi n2, vi n3]] w fun e w' => e = .returned (.bool true) ∧ Below w.heap.size w w' := by
  have HL := Lib.hid hl
  have HF := Lib.hid h
  have hFi := fine hv
  have SO := Lib.hid (fun (W : World) h1 h2 => sound_is hv W h1 h2)
  obtain ⟨p, q5, hp1, hp5, hwp, hwq, SP5⟩ := one_five n3 b3
  have SP5 := Lib.hid SP5
  obtain ⟨c0, c5⟩ := spin_range n0 6 (by omega)
  have SP6 := Lib.hid (fun W : World => spin_any n0 6 W b0.1 b0.2 (by omega))
  obtain ⟨d0, d39⟩ := spin_range n1 40 (by omega)
  have SP4 := Lib.hid (fun W : World => spin_any n1 40 W b1.1 b1.2 (by omega))
  have hf1 := hFi.far1
  have hf12 := hFi.far12
  obtain ⟨j0, j1⟩ := spin_range n2 f.far.length (by omega)
  obtain ⟨j, hj⟩ : ∃ j : Nat, spinI n2 f.far.length = j := ⟨(spinI n2 f.far.length).toNat, by omega⟩
  have hjl : j < f.far.length := by omega
  have SPJ : Hid (∀ W : World, Calls Tryd.prog 36 #[vi n2, vi f.far.length] W fun e w' => e = .returned (vi j) ∧ W = w') := fun W => by
    have := spin_any n2 f.far.length W b2.1 b2.2 (by omega)
    rwa [hj] at this
  obtain ⟨c, hc⟩ : ∃ c, spinI n0 6 = c := ⟨_, rfl⟩
  obtain ⟨d, hd⟩ : ∃ d, spinI n1 40 = d := ⟨_, rfl⟩
  simp only [hc] at SP6 c0 c5
  simp only [hd] at SP4 d0 d39
  have HV := Lib.hid hv
  have hfl := h.far.lens
  clear hl h hc hd hj j0 j1 hFi
  have h9 := (fine hv).slips9
  clear hv
  have X0 := (CellsBox.new w 28 f.cells).alloc (.cells #[vi n0, vi n1, vi n2, vi n3] 80)
  have N0 := CellsBox.new (w.alloc (.cells f.cells.toArray 28)) 80 [vi n0, vi n1, vi n2, vi n3]
  have hb0 := (below1 w (.cells f.cells.toArray 28)).alloc (below1 w (.cells f.cells.toArray 28)).size (.cells #[vi n0, vi n1, vi n2, vi n3] 80)
  rw [show (w.alloc (.cells f.cells.toArray 28)).heap.size = w.heap.size + 1 by simp] at N0
  show Calls Tryd.prog 12 #[.agg #[.slice f.fA f.far.length f.fC, vi f.slo, vi f.shi, .slice f.pA f.picks.length f.pC, vi f.carry, .slice f.sA f.slips.length f.sC], .agg #[vi n0, vi n1, vi n2, vi n3]] w _
  go_enter Tryd.func12, Tryd.ntmps12
  go_upto_region 1 with fail
  refine (?_ : ∀ V : World, CellsBox V w.heap.size 28 f.cells → CellsBox V (w.heap.size + 1) 80 [vi n0, vi n1, vi n2, vi n3] → Below w.heap.size w V → Code.wp _ _ _ _ V) _ X0 N0 hb0
  clear X0 N0 hb0
  intro V X0 N0 HB
  have HX := Lib.hid X0
  have HN := Lib.hid N0
  (have a0 := X0.cell (j := 0) rfl; have a1 := X0.cell (j := 1) rfl; have a2 := X0.cell (j := 2) rfl; have a3 := X0.cell (j := 3) rfl; have a4 := X0.cell (j := 4) rfl; have a5 := X0.cell (j := 5) rfl; have za := X0.lt)
  clear X0 N0
  go_wp2_with fail
  refine (SO.out _ (HL.out.next HB) (HF.out.to HB)).mono ?_
  rintro e W1 ⟨rfl, hb⟩
  replace HN := Lib.hid (HN.out.keep hb)
  (replace HX := Lib.hid (HX.out.keep hb); replace HB : Below w.heap.size w W1 := HB.trans (hb.mono HB.size); clear hb a0 a1 a2 a3 a4 a5 za; (have a0 := HX.out.cell (j := 0) rfl; have a1 := HX.out.cell (j := 1) rfl; have a2 := HX.out.cell (j := 2) rfl; have a3 := HX.out.cell (j := 3) rfl; have a4 := HX.out.cell (j := 4) rfl; have a5 := HX.out.cell (j := 5) rfl; have za := HX.out.lt))
  go_upto_region 4 with fail
  have hbE := below1 W1 (.cells f.cells.toArray 28)
  have E1 := CellsBox.new W1 28 f.cells
  obtain ⟨eb, heb⟩ : ∃ b, b = W1.heap.size := ⟨_, rfl⟩
  rw [← heb] at E1 ⊢
  have hwe : w.heap.size < eb := by have := HX.out.lt; omega
  have hne : (w.heap.size + 1) < eb := by have := HN.out.lt; omega
  refine (?_ : ∀ V : World, CellsBox V w.heap.size 28 f.cells → CellsBox V (w.heap.size + 1) 80 [vi n0, vi n1, vi n2, vi n3] → CellsBox V eb 28 f.cells → Below w.heap.size w V → Code.wp _ _ _ _ V) _ (HX.out.keep hbE) (HN.out.keep hbE) E1 (HB.trans (hbE.mono HB.size))
  clear hbE E1 heb HX HN HB a0 a1 a2 a3 a4 a5 za
  intro V2 X0 N0 E0 HB
  have HX := Lib.hid X0
  have HN := Lib.hid N0
  have HE := Lib.hid E0
  have a0 := X0.cell (j := 0) rfl
  have za := X0.lt
  have m0 := N0.cell (j := 0) rfl
  have m1 := N0.cell (j := 1) rfl
  have m2 := N0.cell (j := 2) rfl
  have zn := N0.lt
  clear X0 N0 E0
  (refine wp_region_grow_lit (by kernel_rfl) (by kernel_rfl) ?_; (repeat (go_big_quiet_step ((go_at_call 36; first | (with_reducible refine Calls.grow_same (SP4.out _)) | (with_reducible refine Calls.grow_same (SPJ.out _)))))); refine wpQuiet_nil ?_; intro w1 hw1; have hb1 := below_of_plus hw1; clear hw1; obtain ⟨⟨hc1, hf1, hs1⟩, hz1⟩ := after hb1; (try simp only [World.size_alloc, World.size_setCell, World.size_drew] at hz1))
  replace HX := Lib.hid (HX.out.keep hb1)
  replace HN := Lib.hid (HN.out.keep hb1)
  replace HE := Lib.hid (HE.out.keep hb1)
  replace HB := HB.trans (hb1.mono HB.size)
  clear hb1 hc1 hf1 hs1 hz1 a0 za m0 m1 m2 zn
  have m0 := HN.out.cell (j := 0) rfl
  have zn := HN.out.lt
  go_wp2_with fail
  refine (SP6.out _).mono ?_
  rintro e W0 ⟨rfl, rfl⟩
  clear m0 zn
  go_upto_block 0 with fail
  go_cut [8] from 37 to 141 (fun s8 wx => ∃ x : Floor, Easier f x ∧ CellsBox wx eb 28 x.cells ∧ FloorAt wx wx.heap.size x ∧ CellsBox wx w.heap.size 28 f.cells ∧ CellsBox wx (w.heap.size + 1) 80 [vi n0, vi n1, vi n2, vi n3] ∧ Below w.heap.size w wx)
  case first =>
    obtain ⟨g1, g2, g3, g4⟩ : 1 ≤ f.carry ∧ f.carry ≤ 20 ∧ (1 ≤ f.slo ∧ f.slo ≤ f.shi) ∧ f.shi ≤ 10 := by
      have := fine HV.out
      exact ⟨this.carry1, this.carry20, ⟨this.step.2.1, this.step.1⟩, this.step.2.2⟩
    have hxe := HX.out.lt
    have hee := HE.out.lt
    have hb := HB.size
    have FA : Hid (FloorAt w1 w1.heap.size f) := Lib.hid (HF.out.to HB)
    obtain rfl | rfl | rfl | rfl | rfl | rfl : c = 0 ∨ c = 1 ∨ c = 2 ∨ c = 3 ∨ c = 4 ∨ c = 5 := by omega
    · have a5 := HX.out.cell (j := 5) rfl
      have hls := HF.out.slips.lens
      by_cases h0 : 0 < f.slips.length
      · have hzz : decide ((0 : Int) < f.slips.length) = true := by simp; omega
        have hzn : decide (0 < f.slips.length) = true := by simp; omega
        obtain ⟨k0, k1⟩ := spin_range n2 f.slips.length (by omega)
        obtain ⟨k, hk⟩ : ∃ k : Nat, spinI n2 f.slips.length = k := ⟨(spinI n2 f.slips.length).toNat, by omega⟩
        have hkl : k < f.slips.length := by omega
        have SPK : Hid (∀ W : World, Calls Tryd.prog 36 #[vi n2, vi f.slips.length] W fun e w' => e = .returned (vi k) ∧ W = w') := fun W => by
          have := spin_any n2 f.slips.length W b2.1 b2.2 (by omega)
          rwa [hk] at this
        obtain ⟨s, hs⟩ : ∃ s, f.slips[k]? = some s := ⟨_, List.getElem?_eq_getElem hkl⟩
        have htr := (fine HV.out).slips s (List.mem_of_getElem? hs)
        obtain ⟨m, hm⟩ : ∃ m, m = min 100000 (s.till + d) := ⟨_, rfl⟩
        have hm1 : s.till ≤ m := hm ▸ Int.le_min.2 ⟨htr.2.1, by omega⟩
        have hm2 : m ≤ 100000 := hm ▸ Int.min_le_left _ _
        have HM := Lib.hid hm
        have HEA := Lib.hid (fun A C => easier_till HV.out hs hm1 hm2 A C)
        obtain ⟨bs, os, hsA, hbs, s0, s1⟩ := row2 HF.out.slips.row hs rfl
        have eV : f.val = .agg #[.slice f.fA f.far.length f.fC, vi f.slo, vi f.shi, .slice f.pA f.picks.length f.pC, vi f.carry, .slice (some ⟨bs, os, none⟩) f.slips.length f.sC] := by
          show Value.agg #[.slice f.fA f.far.length f.fC, vi f.slo, vi f.shi, .slice f.pA f.picks.length f.pC, vi f.carry, .slice f.sA f.slips.length f.sC] = _
          rw [hsA]
        have UN : Hid (∀ W : World, FloorAt W W.heap.size f → Calls Tryd.prog 48 #[.agg #[.slice f.fA f.far.length f.fC, vi f.slo, vi f.shi, .slice f.pA f.picks.length f.pC, vi f.carry, .slice (some ⟨bs, os, none⟩) f.slips.length f.sC], vi k, vi m] W fun e w' => ∃ g c rest, e = .returned (.agg #[.slice f.fA f.far.length f.fC, vi f.slo, vi f.shi, .slice f.pA f.picks.length f.pC, vi f.carry, .slice (some ⟨g, 0, none⟩) f.slips.length c]) ∧ CellsBox w' g 52 (flatSl (f.slips.modify k fun s => { s with till := m }) ++ rest) ∧ (f.slips.length ≤ c ∧ c ≤ maxLen) ∧ W.heap.size ≤ g ∧ Below W.heap.size W w') := fun W h => by
          have := until_fresh f k s hs h9 m W h
          rwa [eV] at this
        clear eV
        have HSA := Lib.hid hsA
        have HS1 := Lib.hid s1
        have m2 := HN.out.cell (j := 2) rfl
        have zn := HN.out.lt
        obtain ⟨t1, t2, t3⟩ := htr
        clear hs s0 s1 hsA hk k0 k1 hm hm1 hm2 t3
        go_wp2_with fail
        refine (SPK.out _).mono ?_
        rintro e W7 ⟨rfl, rfl⟩
        clear m2 zn
        go_upto_region 11 with fail
        have hST : Stays (fun w' => CellsBox w' w.heap.size 28 f.cells ∧ Below w.heap.size w w') := fun a b h h' => ⟨h.1.keep h', h.2.trans (h'.mono h.2.size)⟩
        refine' wp_region_box (fun w' => CellsBox w' w.heap.size 28 f.cells ∧ Below w.heap.size w w') hST [0, 1, 2, 3, 4, 5, 6, 7, 8, 9, 10] 2 229 (by kernel_rfl) (by kernel_rfl) rfl (by kernel_rfl) (by kernel_rfl) rfl (by kernel_rfl) ?hl0 ⟨HX.out, HB⟩ ?hq0 ?hr0
        case hl0 =>
          simp only [List.map_cons, List.map_nil, List.getD_cons_zero, List.getD_cons_succ]
          exact rfl
        case hq0 =>
          intro w0 K
          have a0 := K.1.cell (j := 0) rfl
          have a1 := K.1.cell (j := 1) rfl
          have a2 := K.1.cell (j := 2) rfl
          have a3 := K.1.cell (j := 3) rfl
          have a4 := K.1.cell (j := 4) rfl
          have a5 := K.1.cell (j := 5) rfl
          rw [HSA.out] at a5
          have za := K.1.lt
          have s1k : w0.cell? ⟨bs, os + k * 2 + 1, none⟩ = some (vi s.till) := (K.2.cell hbs).trans HS1.out
          have zs := cell_lt s1k
          (repeat (go_big_quiet_step (fail)))
          exact wpQuiet_nil rfl
        rw [← HM.out]
        refine wpUp_one (i := 11) (by kernel_rfl) rfl rfl (fun wa u1 u2 Ka hKa => ?_)
        go_simp
        refine (UN.out wa (HF.out.to u2.2)).mono ?_
        rintro e w3 ⟨g, cc, rest, rfl, hG, hgc, hgw, hb3⟩
        refine hKa _ _ (hST _ _ u2 hb3) ?_
        refine wpUp_one (i := 12) (by kernel_rfl) rfl rfl (fun wb v1 v2 Kb hKb => ?_)
        have hk := gr_trans (gr_trans u1 hb3) v1
        have hus := u1.size
        have XE := HE.out.keep hk
        have XN := HN.out.keep hk
        have XG := hG.keep v1
        have hge : g ≠ eb := by omega
        have e0 := XE.cell (j := 0) rfl
        have e1 := XE.cell (j := 1) rfl
        have e2 := XE.cell (j := 2) rfl
        have e3 := XE.cell (j := 3) rfl
        have e4 := XE.cell (j := 4) rfl
        have e5 := XE.cell (j := 5) rfl
        have r0 := XE.frozen 0
        have r1 := XE.frozen 1
        have r2 := XE.frozen 2
        have r3 := XE.frozen 3
        have r4 := XE.frozen 4
        have r5 := XE.frozen 5
        have ze := XE.lt
        have PE := Lib.hid ((((((XE.store 0 (.slice f.fA f.far.length f.fC)).store 1 (vi f.slo)).store 2 (vi f.shi)).store 3 (.slice f.pA f.picks.length f.pC)).store 4 (vi f.carry)).store 5 (.slice (some ⟨g, 0, none⟩) f.slips.length cc))
        have PN := Lib.hid ((((((XN.apart ⟨eb, 0, none⟩ (.slice f.fA f.far.length f.fC) (by simp only; omega)).apart ⟨eb, 1, none⟩ (vi f.slo) (by simp only; omega)).apart ⟨eb, 2, none⟩ (vi f.shi) (by simp only; omega)).apart ⟨eb, 3, none⟩ (.slice f.pA f.picks.length f.pC) (by simp only; omega)).apart ⟨eb, 4, none⟩ (vi f.carry) (by simp only; omega)).apart ⟨eb, 5, none⟩ (.slice (some ⟨g, 0, none⟩) f.slips.length cc) (by simp only; omega))
        have PG := Lib.hid ((((((XG.apart ⟨eb, 0, none⟩ (.slice f.fA f.far.length f.fC) (by simp only; omega)).apart ⟨eb, 1, none⟩ (vi f.slo) (by simp only; omega)).apart ⟨eb, 2, none⟩ (vi f.shi) (by simp only; omega)).apart ⟨eb, 3, none⟩ (.slice f.pA f.picks.length f.pC) (by simp only; omega)).apart ⟨eb, 4, none⟩ (vi f.carry) (by simp only; omega)).apart ⟨eb, 5, none⟩ (.slice (some ⟨g, 0, none⟩) f.slips.length cc) (by simp only; omega))
        have PX := Lib.hid ((((((v2.1.apart ⟨eb, 0, none⟩ (.slice f.fA f.far.length f.fC) (by simp only; omega)).apart ⟨eb, 1, none⟩ (vi f.slo) (by simp only; omega)).apart ⟨eb, 2, none⟩ (vi f.shi) (by simp only; omega)).apart ⟨eb, 3, none⟩ (.slice f.pA f.picks.length f.pC) (by simp only; omega)).apart ⟨eb, 4, none⟩ (vi f.carry) (by simp only; omega)).apart ⟨eb, 5, none⟩ (.slice (some ⟨g, 0, none⟩) f.slips.length cc) (by simp only; omega))
        have PB := Lib.hid ((((((v2.2.setCell (p := ⟨eb, 0, none⟩) (by simp only; omega) (.slice f.fA f.far.length f.fC)).setCell (p := ⟨eb, 1, none⟩) (by simp only; omega) (vi f.slo)).setCell (p := ⟨eb, 2, none⟩) (by simp only; omega) (vi f.shi)).setCell (p := ⟨eb, 3, none⟩) (by simp only; omega) (.slice f.pA f.picks.length f.pC)).setCell (p := ⟨eb, 4, none⟩) (by simp only; omega) (vi f.carry)).setCell (p := ⟨eb, 5, none⟩) (by simp only; omega) (.slice (some ⟨g, 0, none⟩) f.slips.length cc))
        clear XE XN XG hk
        go_simp
        refine hKb _ _ ⟨PX.out, PB.out⟩ (wpUp_done (by kernel_rfl) (fun W8 g1 g2 => NoPanic.normal ?_))
        go_wp2_with fail
        go_meet
        have ec : (withF f (some ⟨g, 0, none⟩) cc k m).cells = [.slice f.fA f.far.length f.fC, vi f.slo, vi f.shi, .slice f.pA f.picks.length f.pC, vi f.carry, .slice (some ⟨g, 0, none⟩) f.slips.length cc] := by
          show [Value.slice f.fA f.far.length f.fC, vi f.slo, vi f.shi, .slice f.pA f.picks.length f.pC, vi f.carry, .slice (some ⟨g, 0, none⟩) (f.slips.modify k fun s => { s with till := m }).length cc] = _
          rw [List.length_modify]
        exact ⟨withF f (some ⟨g, 0, none⟩) cc k m, HEA.out _ _, by rw [ec]; exact PE.out.keep g1, with_rows HF.out g2.2 (PG.out.keep g1) hgc.1 hgc.2 h9, g2.1, PN.out.keep g1, g2.2⟩
      · have hzz : decide ((0 : Int) < f.slips.length) = false := decide_eq_false (by omega)
        have hzn : decide (0 < f.slips.length) = false := decide_eq_false h0
        clear h0
        go_wp2_with fail
        go_meet
        exact ⟨f, Easier.refl HV.out, HE.out, FA.out, HX.out, HN.out, HB⟩
    · obtain ⟨i0, hi, hy0, hy1, hy2⟩ := info_parts info_int
      obtain ⟨x0, hx0⟩ : ∃ x, f.far[0]? = some x := ⟨_, List.getElem?_eq_getElem (by omega)⟩
      have hxr := (fine HV.out).fars x0 (List.mem_of_getElem? hx0)
      obtain ⟨n, hn⟩ : ∃ n, n = max 0 (x0 - d) := ⟨_, rfl⟩
      have hn0 : 0 ≤ n := hn ▸ Int.le_max_left _ _
      have hn1 : n ≤ x0 := hn ▸ Int.max_le.2 ⟨by omega, by omega⟩
      have HM := Lib.hid hn
      have HEA := Lib.hid (fun A C => easier_near HV.out hx0 hn0 hn1 A C)
      obtain ⟨fb, fo, hfA, hfb, fc⟩ := HF.out.far.row (by simp; omega)
      have f0 : w.cell? ⟨fb, fo, none⟩ = some (vi x0) := fc 0 [vi x0] (by rw [List.getElem?_map, hx0]; rfl) 0 (vi x0) (by omega) rfl
      have HF0 := Lib.hid f0
      clear hx0 hn hn0 hn1 fc f0
      have HNW : Hid (∀ i u, ((f.far.map intC).flatten)[i]? = some u → w.cell? ((⟨fb, fo, none⟩ : Addr).add i) = some u) := row_cells (by have := HF.out.far.row; rwa [hfA] at this) (intC_one _) (by omega) (by simp; omega)
      have HFL : Hid (((f.far.map intC).flatten).length = f.far.length * 1) := by unfold Hid; rw [flat_len _ (intC_one _)]; simp
      have HAA := Lib.hid hfA
      have a0 := HX.out.cell (j := 0) rfl
      rw [hfA] at a0
      have HN3 := Lib.hid (fun i u hi => HB.cell (p := (⟨fb, fo, none⟩ : Addr).add i) (by unfold Addr.add; split <;> exact hfb) |>.trans (HNW.out i u hi))
      have hpos : 0 < f.far.length := by omega
      clear hfA HNW
      go_wp2_with (at_builtin; go_loud (refine wpList_append_own _ rfl _ _ 22 rfl w1.heap.size 3 i0 (.int .i64 0) 1 8 Tryd.underlying22 hi hy0 hy1 hy2 rfl (by decide) _ _ _ rfl (own_empty w1 _ _) ⟨fb, fo, none⟩ f.far.length f.fC (f.far.map intC).flatten rfl HFL.out (fun j u hj => cell_alloc (HN3.out j u hj) _) (by intro u hu; simp only [List.mem_flatten, List.mem_map] at hu; obtain ⟨r, ⟨s, _, rfl⟩, hu⟩ := hu; simp only [intC, List.mem_cons, List.mem_nil_iff, or_false] at hu; first | (subst hu; rfl) | (rcases hu with rfl | rfl <;> rfl)) (by unfold maxLen; omega) (by omega) (by simp) ?_; intro v5 w5 hown5 hgrow5 _; have HB5 : Below w1.heap.size w1 w5 := Below.grown ((Below.refl w1.heap.size w1).alloc (Nat.le_refl _) _) hgrow5 (by simp) (fun k e => by (have e2 : some w1.heap.size = some k := e; cases e2; exact Nat.le_refl _)); rw [Nat.zero_add, List.nil_append] at hown5; obtain ⟨g, cc, cur, rfl, g5', g6', g7, g8, g9, g10⟩ := own_some hown5 hpos; have Y5 := HE.out.keep HB5; have c5 := Y5.cell (j := 0) rfl; have f5 := Y5.frozen 0; have z5 := Y5.lt))
      obtain ⟨rest, hrest⟩ : ∃ rest, rest = cur.toList.drop (f.far.length * 1) := ⟨_, rfl⟩
      have XG : CellsBox w5 g 3 ((f.far.map intC).flatten ++ rest) := by
        unfold CellsBox
        rw [g6', hrest]
        have e : (f.far.map intC).flatten ++ cur.toList.drop (f.far.length * 1) = cur.toList := by
          rw [← g10, List.take_append_drop]
        rw [e]
      have hge : g ≠ eb := by omega
      have hgw : w.heap.size ≤ g := by omega
      have hg0 : g ≠ w.heap.size := by omega
      have hg1 : g ≠ w.heap.size + 1 := by omega
      have PX := (HX.out.keep HB5).apart ⟨eb, 0, none⟩ (.slice (some ⟨g, 0, none⟩) f.far.length cc) (by simp only; omega)
      have PN := (HN.out.keep HB5).apart ⟨eb, 0, none⟩ (.slice (some ⟨g, 0, none⟩) f.far.length cc) (by simp only; omega)
      have PE := Y5.store 0 (.slice (some ⟨g, 0, none⟩) f.far.length cc)
      have PG := XG.apart ⟨eb, 0, none⟩ (.slice (some ⟨g, 0, none⟩) f.far.length cc) (by simp only; omega)
      have PB := (HB.trans (HB5.mono hb)).setCell (p := ⟨eb, 0, none⟩) (by simp only; omega) (.slice (some ⟨g, 0, none⟩) f.far.length cc)
      refine (?_ : ∀ W6 : World, CellsBox W6 w.heap.size 28 f.cells → CellsBox W6 (w.heap.size + 1) 80 [vi n0, vi n1, vi n2, vi n3] → CellsBox W6 eb 28 (f.cells.set 0 (.slice (some ⟨g, 0, none⟩) f.far.length cc)) → CellsBox W6 g 3 ((f.far.map intC).flatten ++ rest) → Below w.heap.size w W6 → Code.wp _ _ _ _ W6) _ PX PN PE PG PB
      clear PX PN PE PG PB XG hown5 hgrow5 c5 f5 z5 Y5 g5' g6' g9 g10 hrest HB5 HX HN HE HN3 a0 hxe hee hb FA HB
      intro W6 X6 N6 E6 G6 HB
      have HN := Lib.hid N6
      have HG := Lib.hid G6
      have hST : Stays (fun w' => CellsBox w' w.heap.size 28 f.cells ∧ CellsBox w' eb 28 (f.cells.set 0 (.slice (some ⟨g, 0, none⟩) f.far.length cc)) ∧ Below w.heap.size w w') := fun a b h h' => ⟨h.1.keep h', h.2.1.keep h', h.2.2.trans (h'.mono h.2.2.size)⟩
      go_upto_region 14 with fail
      refine' wp_region_box _ hST [0, 1, 2, 3, 4, 5, 6, 7, 8, 9] 1 229 (by kernel_rfl) (by kernel_rfl) rfl (by kernel_rfl) (by kernel_rfl) rfl (by kernel_rfl) ?hl1 ⟨X6, E6, HB⟩ ?hq1 ?hr1
      case hl1 =>
        simp only [List.map_cons, List.map_nil, List.getD_cons_zero, List.getD_cons_succ]
        exact rfl
      case hq1 =>
        intro w0 K
        have a0 := K.1.cell (j := 0) rfl
        rw [HAA.out] at a0
        have e0 := K.2.1.cell (j := 0) rfl
        have za := K.1.lt
        have ze := K.2.1.lt
        have f0 : w0.cell? ⟨fb, fo, none⟩ = some (vi x0) := (K.2.2.cell hfb).trans HF0.out
        have zf := cell_lt f0
        have hli : (0 : Int) < f.far.length := by omega
        (repeat (go_big_quiet_step (fail)))
        exact wpQuiet_nil rfl
      rw [← HM.out]
      refine wpUp_one (i := 10) (by kernel_rfl) rfl rfl (fun wb v1 v2 Kb hKb => ?_)
      have XG := G6.keep v1
      have x0 := XG.cell (j := 0) (by rw [List.getElem?_append_left (by rw [HFL.out]; omega)]; exact List.getElem?_eq_getElem (by rw [HFL.out]; omega))
      have r0 := XG.frozen 0
      have zg := XG.lt
      have PG := Lib.hid (XG.store 0 (vi n))
      have PX := Lib.hid (v2.1.apart ⟨g, 0, none⟩ (vi n) (by simp only; omega))
      have PE := Lib.hid (v2.2.1.apart ⟨g, 0, none⟩ (vi n) (by simp only; omega))
      have PN := Lib.hid ((N6.keep v1).apart ⟨g, 0, none⟩ (vi n) (by simp only; omega))
      have PB := Lib.hid (v2.2.2.setCell (p := ⟨g, 0, none⟩) (by simp only; omega) (vi n))
      clear XG HN HG
      go_simp
      refine hKb _ _ ⟨PX.out, PE.out, PB.out⟩ (wpUp_done (by kernel_rfl) (fun W8 g1 g2 => NoPanic.normal ?_))
      go_wp2_with fail
      go_meet
      have ec : (nearF f (some ⟨g, 0, none⟩) cc n).cells = f.cells.set 0 (.slice (some ⟨g, 0, none⟩) f.far.length cc) := by
        show [Value.slice (some ⟨g, 0, none⟩) (f.far.set 0 n).length cc, vi f.slo, vi f.shi, .slice f.pA f.picks.length f.pC, vi f.carry, .slice f.sA f.slips.length f.sC] = _
        rw [List.length_set]
        rfl
      have FF := HF.out.to g2.2.2
      have G9 := PG.out.keep g1
      have G9' : CellsBox W8 g 3 (((f.far.set 0 n).map intC).flatten ++ rest) := by
        rw [flat_set0 _ _ hpos, ← List.set_append_left _ _ (by rw [HFL.out]; omega)]
        exact G9
      have RA : RowsAt W8 W8.heap.size 1 (some ⟨g, 0, none⟩) cc ((f.far.set 0 n).map intC) := row_box (intC_one _) G9' (by simp; omega) g8 (by simp; omega)
      exact ⟨nearF f (some ⟨g, 0, none⟩) cc n, HEA.out _ _, by rw [ec]; exact g2.2.1, ⟨RA, FF.picks, FF.slips, FF.each⟩, g2.1, PN.out.keep g1, g2.2.2⟩
    · have a1 := HX.out.cell (j := 1) rfl
      have a2 := HX.out.cell (j := 2) rfl
      obtain ⟨u, hu⟩ : ∃ u, u = max 1 (f.slo - 1) := ⟨_, rfl⟩
      obtain ⟨v, hv⟩ : ∃ v, v = max 1 (f.shi - 1) := ⟨_, rfl⟩
      have hu1 : 1 ≤ u := hu ▸ Int.le_max_left _ _
      have huv : u ≤ v := by
        rw [hu, hv]
        exact Int.max_le.2 ⟨Int.le_max_left _ _, Int.le_trans (by omega : f.slo - 1 ≤ f.shi - 1) (Int.le_max_right _ _)⟩
      have hv1 : v ≤ f.shi := hv ▸ Int.max_le.2 ⟨by omega, by omega⟩
      have HU := Lib.hid hu
      have HVV := Lib.hid hv
      have HEA := Lib.hid (easier_step HV.out hu1 huv hv1)
      clear hu hv hu1 huv hv1
      go_wp2_with fail
      rw [← HU.out, ← HVV.out]
      refine (to_any _ _ _).mono ?_
      rintro e W7 ⟨rfl, hb7⟩
      replace HX := Lib.hid (HX.out.keep hb7)
      replace HN := Lib.hid (HN.out.keep hb7)
      replace HE := Lib.hid (HE.out.keep hb7)
      replace HB := HB.trans (hb7.mono hb)
      clear hb7 a1 a2
      have e1 := HE.out.cell (j := 1) rfl
      have e2 := HE.out.cell (j := 2) rfl
      have r1 := HE.out.frozen 1
      have r2 := HE.out.frozen 2
      have ze := HE.out.lt
      have PE := Lib.hid ((HE.out.store 1 (vi u)).store 2 (vi v))
      have PX := Lib.hid ((HX.out.apart ⟨eb, 1, none⟩ (vi u) (by simp only; omega)).apart ⟨eb, 2, none⟩ (vi v) (by simp only; omega))
      have PN := Lib.hid ((HN.out.apart ⟨eb, 1, none⟩ (vi u) (by simp only; omega)).apart ⟨eb, 2, none⟩ (vi v) (by simp only; omega))
      have PB := Lib.hid ((HB.setCell (p := ⟨eb, 1, none⟩) (by simp only; omega) (vi u)).setCell (p := ⟨eb, 2, none⟩) (by simp only; omega) (vi v))
      clear HX HN HE
      go_wp2_with fail
      go_meet
      have FF := HF.out.to PB.out
      exact ⟨stepF f u v, HEA.out, PE.out, ⟨FF.far, FF.picks, FF.slips, FF.each⟩, PX.out, PN.out, PB.out⟩
    · obtain ⟨i0, hi, hy0, hy1, hy2⟩ := info_parts info_span
      have hpl := (fine HV.out).picksl
      have hjp : j < f.picks.length := by omega
      have hp12 : f.picks.length ≤ 12 := by omega
      clear hpl
      obtain ⟨q, hq⟩ : ∃ q, f.picks[j]? = some q := ⟨_, List.getElem?_eq_getElem hjp⟩
      obtain ⟨q1, q2, q3⟩ := (fine HV.out).picks q (List.mem_of_getElem? hq)
      obtain ⟨u, hu⟩ : ∃ u, u = max 0 (q.1 - d) := ⟨_, rfl⟩
      obtain ⟨v, hv⟩ : ∃ v, v = max 0 (q.2 - d) := ⟨_, rfl⟩
      have hu0 : 0 ≤ u := hu ▸ Int.le_max_left _ _
      have huv : u ≤ v := by
        rw [hu, hv]
        exact Int.max_le.2 ⟨Int.le_max_left _ _, Int.le_trans (by omega : q.1 - d ≤ q.2 - d) (Int.le_max_right _ _)⟩
      have hv1 : v ≤ q.2 := hv ▸ Int.max_le.2 ⟨by omega, by omega⟩
      have HU := Lib.hid hu
      have HVV := Lib.hid hv
      have HEA := Lib.hid (fun A C => easier_pick (p := (u, v)) HV.out hq hu0 huv hv1 A C)
      obtain ⟨pb, po, hpA, hpb, p0, p1⟩ := row2 HF.out.picks.row hq rfl
      have HP0 := Lib.hid p0
      have HP1 := Lib.hid p1
      have hjI : (j : Int) < f.picks.length := by omega
      have h0j : (0 : Int) ≤ j := by omega
      clear hq hu hv hu0 huv hv1 p0 p1
      have HNW : Hid (∀ i u, ((f.picks.map spanC).flatten)[i]? = some u → w.cell? ((⟨pb, po, none⟩ : Addr).add i) = some u) := row_cells (by have := HF.out.picks.row; rwa [hpA] at this) (span_two _) (by omega) (by simp; omega)
      have HFL : Hid (((f.picks.map spanC).flatten).length = f.picks.length * 2) := by unfold Hid; rw [flat_len _ (span_two _)]; simp
      have HAA := Lib.hid hpA
      have a3 := HX.out.cell (j := 3) rfl
      rw [hpA] at a3
      have HN3 := Lib.hid (fun i u hi => HB.cell (p := (⟨pb, po, none⟩ : Addr).add i) (by unfold Addr.add; split <;> exact hpb) |>.trans (HNW.out i u hi))
      have hpos : 0 < f.picks.length := by omega
      clear hpA HNW
      go_wp2_with (at_builtin; go_loud (refine wpList_append_own _ rfl _ _ 25 rfl w1.heap.size 24 i0 (.agg #[vi 0, vi 0]) 2 16 Tryd.underlying25 hi hy0 hy1 hy2 rfl (by decide) _ _ _ (by rfl) (own_empty w1 _ _) ⟨pb, po, none⟩ f.picks.length f.pC (f.picks.map spanC).flatten (by rfl) HFL.out (fun j u hj => cell_alloc (HN3.out j u hj) _) (by intro u hu; simp only [List.mem_flatten, List.mem_map] at hu; obtain ⟨r, ⟨s, _, rfl⟩, hu⟩ := hu; simp only [spanC, List.mem_cons, List.mem_nil_iff, or_false] at hu; first | (subst hu; rfl) | (rcases hu with rfl | rfl <;> rfl)) (by unfold maxLen; omega) (by omega) (by simp) ?_; intro v5 w5 hown5 hgrow5 _; have HB5 : Below w1.heap.size w1 w5 := Below.grown ((Below.refl w1.heap.size w1).alloc (Nat.le_refl _) _) hgrow5 (by simp) (fun k e => by (have e2 : some w1.heap.size = some k := e; cases e2; exact Nat.le_refl _)); rw [Nat.zero_add, List.nil_append] at hown5; obtain ⟨g, cc, cur, rfl, g5', g6', g7, g8, g9, g10⟩ := own_some hown5 hpos; have Y5 := HE.out.keep HB5; have c5 := Y5.cell (j := 3) rfl; have f5 := Y5.frozen 3; have z5 := Y5.lt))
      obtain ⟨rest, hrest⟩ : ∃ rest, rest = cur.toList.drop (f.picks.length * 2) := ⟨_, rfl⟩
      have XG : CellsBox w5 g 24 ((f.picks.map spanC).flatten ++ rest) := by
        unfold CellsBox
        rw [g6', hrest]
        have e : (f.picks.map spanC).flatten ++ cur.toList.drop (f.picks.length * 2) = cur.toList := by
          rw [← g10, List.take_append_drop]
        rw [e]
      have hge : g ≠ eb := by omega
      have hgw : w.heap.size ≤ g := by omega
      have hg0 : g ≠ w.heap.size := by omega
      have hg1 : g ≠ w.heap.size + 1 := by omega
      have PX := (HX.out.keep HB5).apart ⟨eb, 3, none⟩ (.slice (some ⟨g, 0, none⟩) f.picks.length cc) (by simp only; omega)
      have PN := (HN.out.keep HB5).apart ⟨eb, 3, none⟩ (.slice (some ⟨g, 0, none⟩) f.picks.length cc) (by simp only; omega)
      have PE := Y5.store 3 (.slice (some ⟨g, 0, none⟩) f.picks.length cc)
      have PG := XG.apart ⟨eb, 3, none⟩ (.slice (some ⟨g, 0, none⟩) f.picks.length cc) (by simp only; omega)
      have PB := (HB.trans (HB5.mono hb)).setCell (p := ⟨eb, 3, none⟩) (by simp only; omega) (.slice (some ⟨g, 0, none⟩) f.picks.length cc)
      refine (?_ : ∀ W6 : World, CellsBox W6 w.heap.size 28 f.cells → CellsBox W6 (w.heap.size + 1) 80 [vi n0, vi n1, vi n2, vi n3] → CellsBox W6 eb 28 (f.cells.set 3 (.slice (some ⟨g, 0, none⟩) f.picks.length cc)) → CellsBox W6 g 24 ((f.picks.map spanC).flatten ++ rest) → Below w.heap.size w W6 → Code.wp _ _ _ _ W6) _ PX PN PE PG PB
      clear PX PN PE PG PB XG hown5 hgrow5 c5 f5 z5 Y5 g5' g6' g9 g10 hrest HB5 HX HN HE HN3 a3 hxe hee hb FA HB
      intro W6 X6 N6 E6 G6 HB
      have HN := Lib.hid N6
      have HG := Lib.hid G6
      have hST : Stays (fun w' => CellsBox w' w.heap.size 28 f.cells ∧ CellsBox w' eb 28 (f.cells.set 3 (.slice (some ⟨g, 0, none⟩) f.picks.length cc)) ∧ Below w.heap.size w w') := fun a b h h' => ⟨h.1.keep h', h.2.1.keep h', h.2.2.trans (h'.mono h.2.2.size)⟩
      go_upto_region 19 with fail
      refine' wp_region_box _ hST [0, 1, 2, 3, 4, 5, 6, 7, 8, 9, 10, 11, 12, 13, 14, 15, 16, 17, 18, 19, 20, 21, 22] 1 229 (by kernel_rfl) (by kernel_rfl) rfl (by kernel_rfl) (by kernel_rfl) rfl (by kernel_rfl) ?hl3 ⟨X6, E6, HB⟩ ?hq3 ?hr3
      case hl3 =>
        simp only [List.map_cons, List.map_nil, List.getD_cons_zero, List.getD_cons_succ]
        exact rfl
      case hq3 =>
        intro w0 K
        have a3 := K.1.cell (j := 3) rfl
        rw [HAA.out] at a3
        have e3 := K.2.1.cell (j := 3) rfl
        have za := K.1.lt
        have ze := K.2.1.lt
        have p0k : w0.cell? ⟨pb, po + j * 2, none⟩ = some (vi q.1) := (K.2.2.cell hpb).trans HP0.out
        have p1k : w0.cell? ⟨pb, po + j * 2 + 1, none⟩ = some (vi q.2) := (K.2.2.cell hpb).trans HP1.out
        have zf := cell_lt p0k
        (repeat (go_big_quiet_step ((go_at_call 44; refine Calls.grow_of (to_any _ _ _)))))
        exact wpQuiet_nil rfl
      rw [← HU.out, ← HVV.out]
      refine wpUp_one (i := 23) (by kernel_rfl) rfl rfl (fun wb v1 v2 Kb hKb => ?_)
      have XG := G6.keep v1
      have hfl2 := HFL.out
      obtain ⟨y0, x0⟩ : ∃ y, wb.cell? ⟨g, j * 2, none⟩ = some y := ⟨_, XG.cell (j := j * 2) (by rw [List.getElem?_append_left (by omega)]; exact List.getElem?_eq_getElem (by omega))⟩
      obtain ⟨y1, x1⟩ : ∃ y, wb.cell? ⟨g, j * 2 + 1, none⟩ = some y := ⟨_, XG.cell (j := j * 2 + 1) (by rw [List.getElem?_append_left (by omega)]; exact List.getElem?_eq_getElem (by omega))⟩
      have r0 := XG.frozen (j * 2)
      have r1 := XG.frozen (j * 2 + 1)
      have zg := XG.lt
      have PG := Lib.hid ((XG.store (j * 2) (vi u)).store (j * 2 + 1) (vi v))
      have PX := Lib.hid ((v2.1.apart ⟨g, j * 2, none⟩ (vi u) (by simp only; omega)).apart ⟨g, j * 2 + 1, none⟩ (vi v) (by simp only; omega))
      have PE := Lib.hid ((v2.2.1.apart ⟨g, j * 2, none⟩ (vi u) (by simp only; omega)).apart ⟨g, j * 2 + 1, none⟩ (vi v) (by simp only; omega))
      have PN := Lib.hid (((N6.keep v1).apart ⟨g, j * 2, none⟩ (vi u) (by simp only; omega)).apart ⟨g, j * 2 + 1, none⟩ (vi v) (by simp only; omega))
      have PB := Lib.hid ((v2.2.2.setCell (p := ⟨g, j * 2, none⟩) (by simp only; omega) (vi u)).setCell (p := ⟨g, j * 2 + 1, none⟩) (by simp only; omega) (vi v))
      clear XG HN HG hfl2
      go_simp
      refine hKb _ _ ⟨PX.out, PE.out, PB.out⟩ (wpUp_done (by kernel_rfl) (fun W8 g1 g2 => NoPanic.normal ?_))
      go_wp2_with fail
      go_meet
      have ec : (quickF f (some ⟨g, 0, none⟩) cc j (u, v)).cells = f.cells.set 3 (.slice (some ⟨g, 0, none⟩) f.picks.length cc) := by
        show [Value.slice f.fA f.far.length f.fC, vi f.slo, vi f.shi, .slice (some ⟨g, 0, none⟩) (f.picks.set j (u, v)).length cc, vi f.carry, .slice f.sA f.slips.length f.sC] = _
        rw [List.length_set]
        rfl
      have FF := HF.out.to g2.2.2
      have G9 := PG.out.keep g1
      have hfl2 := HFL.out
      have G9' : CellsBox W8 g 24 (((f.picks.set j (u, v)).map spanC).flatten ++ rest) := by
        rw [flat_spans _ _ _ hjp]
        rw [List.set_append_left _ _ (by omega), List.set_append_left _ _ (by rw [List.length_set]; omega)] at G9
        exact G9
      have RA : RowsAt W8 W8.heap.size 2 (some ⟨g, 0, none⟩) cc ((f.picks.set j (u, v)).map spanC) := row_box (span_two _) G9' (by simp; omega) g8 (by simp; omega)
      exact ⟨quickF f (some ⟨g, 0, none⟩) cc j (u, v), HEA.out _ _, by rw [ec]; exact g2.2.1, ⟨FF.far, RA, FF.slips, FF.each⟩, g2.1, PN.out.keep g1, g2.2.2⟩
    · have a4 := HX.out.cell (j := 4) rfl
      have e4 := HE.out.cell (j := 4) rfl
      have r4 := HE.out.frozen 4
      obtain ⟨m, hm⟩ : ∃ m, m = min 20 (f.carry + d) := ⟨_, rfl⟩
      have hm1 : f.carry ≤ m := hm ▸ Int.le_min.2 ⟨g2, by omega⟩
      have hm2 : m ≤ 20 := hm ▸ Int.min_le_left _ _
      have HM := Lib.hid hm
      have PE := Lib.hid (HE.out.store 4 (vi m))
      have PX := Lib.hid (HX.out.apart ⟨eb, 4, none⟩ (vi m) (by simp only; omega))
      have PN := Lib.hid (HN.out.apart ⟨eb, 4, none⟩ (vi m) (by simp only; omega))
      have PB : Hid (Below w.heap.size w (w1.setCell ⟨eb, 4, none⟩ (vi m))) := Lib.hid (HB.setCell (p := ⟨eb, 4, none⟩) (by simp only; omega) (vi m))
      have HEA := Lib.hid (easier_carry HV.out hm1 hm2)
      clear HX HN HE hm
      go_wp2_with fail
      rw [← HM.out]
      go_meet
      have FF := HF.out.to PB.out
      exact ⟨carryF f m, HEA.out, PE.out, ⟨FF.far, FF.picks, FF.slips, FF.each⟩, PX.out, PN.out, PB.out⟩
    · have a5 := HX.out.cell (j := 5) rfl
      have hls := HF.out.slips.lens
      by_cases h0 : 0 < f.slips.length
      · have hzz : decide ((0 : Int) < f.slips.length) = true := by simp; omega
        have hzn : decide (0 < f.slips.length) = true := by simp; omega
        obtain ⟨m, hm⟩ : ∃ m, m + 1 = f.slips.length := ⟨f.slips.length - 1, by omega⟩
        have hmi : (f.slips.length : Int) - 1 = m := by omega
        have hmc : m ≤ f.sC := by omega
        have e5 := HE.out.cell (j := 5) rfl
        have r5 := HE.out.frozen 5
        have ec : (preF f m).cells = f.cells.set 5 (.slice f.sA m f.sC) := by
          show [Value.slice f.fA f.far.length f.fC, vi f.slo, vi f.shi, .slice f.pA f.picks.length f.pC, vi f.carry, .slice f.sA (f.slips.take m).length f.sC] = _
          rw [List.length_take, Nat.min_eq_left (by omega)]
          rfl
        have PE0 := HE.out.store 5 (.slice f.sA m f.sC)
        rw [← ec] at PE0
        have PE := Lib.hid PE0
        have PX := Lib.hid (HX.out.apart ⟨eb, 5, none⟩ (.slice f.sA m f.sC) (by simp only; omega))
        have PN := Lib.hid (HN.out.apart ⟨eb, 5, none⟩ (.slice f.sA m f.sC) (by simp only; omega))
        have PB := Lib.hid (HB.setCell (p := ⟨eb, 5, none⟩) (by simp only; omega) (.slice f.sA m f.sC))
        clear ec PE0 HX HN HE
        go_wp2_with fail
        go_meet
        have FF := HF.out.to PB.out
        exact ⟨preF f m, easier_pre HV.out m, PE.out, ⟨FF.far, FF.picks, by have := rows_take FF.slips m; rwa [← List.map_take] at this, fun s hs => FF.each s (List.mem_of_mem_take hs)⟩, PX.out, PN.out, PB.out⟩
      · have hzz : decide ((0 : Int) < f.slips.length) = false := decide_eq_false (by omega)
        have hzn : decide (0 < f.slips.length) = false := decide_eq_false h0
        clear h0
        go_wp2_with fail
        go_meet
        exact ⟨f, Easier.refl HV.out, HE.out, FA.out, HX.out, HN.out, HB⟩
  obtain ⟨x, hE, E0, hFX, X0, N0, HB⟩ := hcut
  have HE := Lib.hid E0
  have HFX := Lib.hid hFX
  replace HX := Lib.hid X0
  replace HN := Lib.hid N0
  have hvx := hE.vx
  obtain ⟨mf, mx, ef, ex, g1, g2, g3, g4, hcase⟩ := rosters_easier hE
  have R1 := Lib.hid (fun W h1 h2 => roster_call g1 g2 W h1 h2)
  have R2 := Lib.hid (fun W h1 h2 => roster_call g3 g4 W h1 h2)
  have L1 := Lib.hid (fun W h1 h2 => late_call HV.out hp1 hp5 W h1 h2)
  have L2 := Lib.hid (fun W h1 h2 => late_call hvx hp1 hp5 W h1 h2)
  obtain ⟨pm, hpm1, hpm5, hppm, hmin⟩ := min_five hp1 hp5
  replace hmin := Lib.hid hmin
  have L3 := Lib.hid (fun W h1 h2 => late_call HV.out hpm1 hpm5 W h1 h2)
  have k1 := hE.late (Nat.le_refl p)
  have k2 := (Easier.refl HV.out).late hppm
  obtain ⟨l1, hl1⟩ : ∃ l, l = (lateF f p).length := ⟨_, rfl⟩
  obtain ⟨l2, hl2⟩ : ∃ l, l = (lateF x p).length := ⟨_, rfl⟩
  obtain ⟨l3, hl3⟩ : ∃ l, l = (lateF f pm).length := ⟨_, rfl⟩
  rw [← hl1] at L1 k1 k2
  rw [← hl2] at L2 k1
  rw [← hl3] at L3 k2
  clear hl1 hl2 hl3 g1 g2 g3 g4 hE hvx E0 hFX X0 N0
  have m3 := HN.out.cell (j := 3) rfl
  have zn := HN.out.lt
  go_wp2_with fail
  refine (SP5.out _).mono ?_
  rintro e W2 ⟨rfl, rfl⟩
  clear m3 zn
  (have a0 := HX.out.cell (j := 0) rfl; have a1 := HX.out.cell (j := 1) rfl; have a2 := HX.out.cell (j := 2) rfl; have a3 := HX.out.cell (j := 3) rfl; have a4 := HX.out.cell (j := 4) rfl; have a5 := HX.out.cell (j := 5) rfl; have za := HX.out.lt)
  go_wp2_with fail
  refine (R1.out _ (HL.out.next HB) (HF.out.to HB)).mono ?_
  rintro e W2 ⟨A1, rfl, hb⟩
  replace HE := Lib.hid (HE.out.keep hb)
  replace HFX := Lib.hid (HFX.out.to hb)
  (replace HX := Lib.hid (HX.out.keep hb); replace HB : Below w.heap.size w W2 := HB.trans (hb.mono HB.size); clear hb a0 a1 a2 a3 a4 a5 za; (have a0 := HX.out.cell (j := 0) rfl; have a1 := HX.out.cell (j := 1) rfl; have a2 := HX.out.cell (j := 2) rfl; have a3 := HX.out.cell (j := 3) rfl; have a4 := HX.out.cell (j := 4) rfl; have a5 := HX.out.cell (j := 5) rfl; have za := HX.out.lt))
  have e0 := HE.out.cell (j := 0) rfl
  have e1 := HE.out.cell (j := 1) rfl
  have e2 := HE.out.cell (j := 2) rfl
  have e3 := HE.out.cell (j := 3) rfl
  have e4 := HE.out.cell (j := 4) rfl
  have e5 := HE.out.cell (j := 5) rfl
  have ze := HE.out.lt
  go_wp2_with fail
  refine (R2.out _ (HL.out.next HB) HFX.out).mono ?_
  rintro e W3 ⟨A2, rfl, hb⟩
  clear e0 e1 e2 e3 e4 e5 ze
  replace HE := Lib.hid (HE.out.keep hb)
  replace HFX := Lib.hid (HFX.out.to hb)
  (replace HX := Lib.hid (HX.out.keep hb); replace HB : Below w.heap.size w W3 := HB.trans (hb.mono HB.size); clear hb a0 a1 a2 a3 a4 a5 za; (have a0 := HX.out.cell (j := 0) rfl; have a1 := HX.out.cell (j := 1) rfl; have a2 := HX.out.cell (j := 2) rfl; have a3 := HX.out.cell (j := 3) rfl; have a4 := HX.out.cell (j := 4) rfl; have a5 := HX.out.cell (j := 5) rfl; have za := HX.out.lt))
  go_wp2_with fail
  refine (L1.out _ (HL.out.next HB) (HF.out.to HB)).mono ?_
  rintro e W4 ⟨A3, rfl, hb⟩
  replace HE := Lib.hid (HE.out.keep hb)
  replace HFX := Lib.hid (HFX.out.to hb)
  (replace HX := Lib.hid (HX.out.keep hb); replace HB : Below w.heap.size w W4 := HB.trans (hb.mono HB.size); clear hb a0 a1 a2 a3 a4 a5 za; (have a0 := HX.out.cell (j := 0) rfl; have a1 := HX.out.cell (j := 1) rfl; have a2 := HX.out.cell (j := 2) rfl; have a3 := HX.out.cell (j := 3) rfl; have a4 := HX.out.cell (j := 4) rfl; have a5 := HX.out.cell (j := 5) rfl; have za := HX.out.lt))
  have e0 := HE.out.cell (j := 0) rfl
  have e1 := HE.out.cell (j := 1) rfl
  have e2 := HE.out.cell (j := 2) rfl
  have e3 := HE.out.cell (j := 3) rfl
  have e4 := HE.out.cell (j := 4) rfl
  have e5 := HE.out.cell (j := 5) rfl
  have ze := HE.out.lt
  go_wp2_with fail
  refine (L2.out _ (HL.out.next HB) HFX.out).mono ?_
  rintro e W5 ⟨A4, rfl, hb⟩
  clear e0 e1 e2 e3 e4 e5 ze
  replace HE := Lib.hid (HE.out.keep hb)
  replace HFX := Lib.hid (HFX.out.to hb)
  (replace HX := Lib.hid (HX.out.keep hb); replace HB : Below w.heap.size w W5 := HB.trans (hb.mono HB.size); clear hb a0 a1 a2 a3 a4 a5 za; (have a0 := HX.out.cell (j := 0) rfl; have a1 := HX.out.cell (j := 1) rfl; have a2 := HX.out.cell (j := 2) rfl; have a3 := HX.out.cell (j := 3) rfl; have a4 := HX.out.cell (j := 4) rfl; have a5 := HX.out.cell (j := 5) rfl; have za := HX.out.lt))
  go_wp2_with fail
  rw [hmin.out]
  refine (L3.out _ (HL.out.next HB) (HF.out.to HB)).mono ?_
  rintro e W6 ⟨A5, rfl, hb⟩
  clear a0 a1 a2 a3 a4 a5 za hwp hwq
  (replace HB : Below w.heap.size w W6 := HB.trans (hb.mono HB.size); clear hb)
  have q1 : decide ((l1 : Int) < l2) = false := by simp; omega
  have q2 : decide ((l1 : Int) < l3) = false := by simp; omega
  have q3 : decide (l1 < l2) = false := by simp; omega
  have q4 : decide (l1 < l3) = false := by simp; omega
  clear HE HFX HX hmin
  rcases hcase with ⟨rfl, rfl, hle⟩ | ⟨rfl, hex⟩
  case' inl =>
    have q5 : decide ((mx : Int) ≤ mf) = true := by simp; omega
    have q6 : decide (mx ≤ mf) = true := by simp; omega
    clear k1 k2 hle
    go_wp2_with fail
  case' inr =>
    clear k1 k2
    rcases hex with rfl | rfl
    all_goals go_wp2_with fail
  all_goals
    refine (works_any _ (HL.out.next HB)).mono ?_
    rintro e W ⟨rfl, hb⟩
    (replace HB : Below w.heap.size w W := HB.trans (hb.mono HB.size); clear hb)
    go_wp2_with fail
    go_ret
    exact ⟨rfl, HB⟩
set_option maxRecDepth 100000 in
theorem slipEasier_any (f : Floor) (n0 n1 n2 n3 : Int) (b0 : -9223372036854775808 ≤ n0 ∧ n0 ≤ 9223372036854775807) (b1 : -9223372036854775808 ≤ n1 ∧ n1 ≤ 9223372036854775807) (b2 : -9223372036854775808 ≤ n2 ∧ n2 ≤ 9223372036854775807) (b3 : -9223372036854775808 ≤ n3 ∧ n3 ≤ 9223372036854775807) (w : World) (hl : Lim w) (h : FloorAt w w.heap.size f) :
    Calls Tryd.prog 12 #[f.val, .agg #[vi n0, vi n1, vi n2, vi n3]] w fun e w' => e = .returned (.bool true) ∧ Below w.heap.size w w' := by
  cases hv : validB f with
  | true => exact slipEasier_ok f n0 n1 n2 n3 hv b0 b1 b2 b3 w hl h
  | false =>
    have HL := Lib.hid hl
    have HF := Lib.hid h
    have SO := Lib.hid (fun (W : World) h1 h2 => sound_is hv W h1 h2)
    clear hl h hv
    have X0 := (CellsBox.new w 28 f.cells).alloc (.cells #[vi n0, vi n1, vi n2, vi n3] 80)
    have hb0 := (below1 w (.cells f.cells.toArray 28)).alloc (below1 w (.cells f.cells.toArray 28)).size (.cells #[vi n0, vi n1, vi n2, vi n3] 80)
    show Calls Tryd.prog 12 #[.agg #[.slice f.fA f.far.length f.fC, vi f.slo, vi f.shi, .slice f.pA f.picks.length f.pC, vi f.carry, .slice f.sA f.slips.length f.sC], .agg #[vi n0, vi n1, vi n2, vi n3]] w _
    go_enter Tryd.func12, Tryd.ntmps12
    go_upto_region 1 with fail
    refine (?_ : ∀ V : World, CellsBox V w.heap.size 28 f.cells → Below w.heap.size w V → Code.wp _ _ _ _ V) _ X0 hb0
    clear X0 hb0
    intro V X0 HB
    (have a0 := X0.cell (j := 0) rfl; have a1 := X0.cell (j := 1) rfl; have a2 := X0.cell (j := 2) rfl; have a3 := X0.cell (j := 3) rfl; have a4 := X0.cell (j := 4) rfl; have a5 := X0.cell (j := 5) rfl; have za := X0.lt)
    clear X0
    go_wp2_with fail
    refine (SO.out _ (HL.out.next HB) (HF.out.to HB)).mono ?_
    rintro e W1 ⟨rfl, hb⟩
    clear a0 a1 a2 a3 a4 a5 za
    (replace HB : Below w.heap.size w W1 := HB.trans (hb.mono HB.size); clear hb)
    go_wp2_with fail
    refine (works_any _ (HL.out.next HB)).mono ?_
    rintro e W ⟨rfl, hb⟩
    (replace HB : Below w.heap.size w W := HB.trans (hb.mono HB.size); clear hb)
    go_wp2_with fail
    go_ret
    exact ⟨rfl, HB⟩
end Go.Proofs.YtomgnpfpaodpiaaDoor

