/- What a desk's plain forms mean: rosters of so many pickers in which all are in time. -/
import Derived.Test.YtomgnpfpaodpiaaDoorK07
import Derived.Test.YtomgnpfpaodpiaaDoorK04
import Derived.Test.YtomgnpfpaodpiaaDoorK01
import Derived.Test.YtomgnpfpaodpiaaDoorK06
import Derived.Stop.RegionWithIn
import Derived.Test.YtomgnpfpaodpiaaDoorK02
import Derived.Test.YtomgnpfpaodpiaaDoorK03
import Derived.Laws.AppendOwn
set_option linter.unusedVariables false
set_option linter.unusedSimpArgs false
namespace Go.Proofs.YtomgnpfpaodpiaaDoor
open Go Go.RowKit
/-- how long a slip takes at most, and until when it may -/
def secF (f : Floor) (s : Nat) : Int := (secsL f)[s]?.getD 0
def dueF (f : Floor) (s : Nat) : Int := keyF f s
theorem sec_nonneg {f : Floor} (hv : validB f = true) (s : Nat) : 0 ≤ secF f s := by
  unfold secF
  by_cases hs : s < f.slips.length
  · obtain ⟨n, h1, h2, _⟩ := secs_range hv hs
    rw [h1]; exact h2
  · rw [List.getElem?_eq_none (by simp [secsL]; omega)]
    exact Int.le_refl _
theorem loop_is (f : Floor) (m : Nat) : ∀ (rest : List Nat) (to : Nat) (sec : Int), loopF f m to sec rest = PM.loopG (secF f) (dueF f) m to sec rest
  | [], _, _ => rfl
  | s :: rest, to, sec => by
    rw [loopF, PM.loopG, loop_is f m rest, loop_is f m rest]
    rfl
theorem can_is (f : Floor) : ∀ (p m : Nat), canF f p m = PM.canG (secF f) (dueF f) (ordN f) p m
  | 0, _ => rfl
  | p + 1, m => by
    rw [canF, PM.canG, givenF, loop_is]
    have : (fun x => canF f p (lessF m x)) = fun x => PM.canG (secF f) (dueF f) (ordN f) p (lessF m x) := funext fun x => can_is f p _
    rw [this]
/-- which slip comes first on a desk -/
def before (f : Floor) (x y : Nat) : Bool := decide (dueF f x < dueF f y ∨ (dueF f x = dueF f y ∧ x ≤ y))
theorem before_iff (f : Floor) (x y : Nat) : before f x y = true ↔ dueF f x < dueF f y ∨ (dueF f x = dueF f y ∧ x ≤ y) := by simp [before]
theorem ord_is (f : Floor) : PM.Ord (dueF f) (before f) := by
  refine ⟨fun x y h => ?_, fun x y z h k => ?_, fun x y h k => ?_, fun x s h => ?_⟩
  · have h : ¬ before f x y = true := by rw [h]; simp
    rw [before_iff] at h ⊢
    omega
  · rw [before_iff] at h k ⊢
    omega
  · rw [before_iff] at h k
    omega
  · rw [before_iff] at h
    omega
/-- not behind, and the greater one of equal ones first -/
def downI (key : Int → Int) (a b : Int) : Prop := key b < key a ∨ (key b = key a ∧ b ≤ a)
theorem insR_sorted (key : Int → Int) (x : Int) : ∀ (l : List Int), l.Pairwise (downI key) → (∀ y ∈ l, y < x) → (insR key x l).Pairwise (downI key)
  | [], _, _ => by simp [insR]
  | z :: l, h, hx => by
    obtain ⟨h1, h2⟩ := List.pairwise_cons.1 h
    have hz := hx z (by simp)
    rw [insR]
    split
    · rename_i hk
      refine List.pairwise_cons.2 ⟨fun y hy => ?_, insR_sorted key x l h2 (fun y hy => hx y (by simp [hy]))⟩
      rcases insR_mem.1 hy with rfl | hy
      · exact .inl hk
      · exact h1 y hy
    · rename_i hk
      refine List.pairwise_cons.2 ⟨fun y hy => ?_, h⟩
      rcases List.mem_cons.1 hy with rfl | hy
      · unfold downI; omega
      · have h3 := h1 y hy
        have h4 := hx y (by simp [hy])
        unfold downI at h3 ⊢
        omega
theorem insF_perm (key : Int → Int) (x : Int) (l : List Int) : (insF key x l).Perm (x :: l) := by
  have key2 : ∀ l : List Int, (insR key x l).Perm (x :: l) := by
    intro l
    induction l with
    | nil => exact List.Perm.refl _
    | cons z l ih =>
      rw [insR]
      split
      · exact (ih.cons z).trans (List.Perm.swap x z l)
      · exact List.Perm.refl _
  rw [insF]
  exact (List.reverse_perm _).trans ((key2 l.reverse).trans ((List.reverse_perm l).cons x))
theorem isort_spec (key : Int → Int) : ∀ (l acc : List Int), l.Pairwise (· < ·) → (∀ x ∈ l, ∀ y ∈ acc, y < x) → acc.Pairwise (fun a b => downI key b a) →
    (l.foldl (fun acc x => insF key x acc) acc).Perm (acc ++ l) ∧ (l.foldl (fun acc x => insF key x acc) acc).Pairwise (fun a b => downI key b a)
  | [], acc, _, _, h => by rw [List.foldl_nil, List.append_nil]; exact ⟨List.Perm.refl _, h⟩
  | x :: l, acc, hl, hx, h => by
    obtain ⟨h1, h2⟩ := List.pairwise_cons.1 hl
    rw [List.foldl_cons]
    have hp := insF_perm key x acc
    obtain ⟨i1, i2⟩ := isort_spec key l (insF key x acc) h2 (fun z hz y hy => by
      rcases List.mem_cons.1 (hp.mem_iff.1 hy) with rfl | hy
      · exact h1 z hz
      · exact hx z (by simp [hz]) y hy) (by
      rw [insF, List.pairwise_reverse]
      exact insR_sorted key x acc.reverse (by rw [List.pairwise_reverse]; exact h) (fun y hy => hx x (by simp) y (List.mem_reverse.1 hy)))
    refine ⟨i1.trans ((hp.append_right l).trans ?_), i2⟩
    exact (List.perm_middle (a := x) (l₁ := acc) (l₂ := l)).symm
theorem desk_is {f : Floor} (h9 : f.slips.length ≤ 9) : PM.Desk (before f) f.slips.length (ordN f) := by
  have e : orderF f = isortF (keyF f) (natsC (List.range f.slips.length)) := by rw [orderF, members_all ⟨f.slips.length, by omega⟩]
  have hlt : (natsC (List.range f.slips.length)).Pairwise (· < ·) := by
    rw [natsC, List.pairwise_map]
    exact List.pairwise_lt_range.imp (fun h => by omega)
  obtain ⟨h1, h2⟩ := isort_spec (keyF f) (natsC (List.range f.slips.length)) [] hlt (by simp) (by simp)
  rw [List.nil_append] at h1
  refine ⟨?_, ?_⟩
  · rw [ordN, e, isortF]
    refine (h1.map Int.toNat).trans ?_
    rw [natsC, List.map_map]
    have : (Int.toNat ∘ fun s : Nat => (s : Int)) = id := funext fun s => by simp
    rw [this, List.map_id]
  · rw [ordN, List.pairwise_map, e, isortF]
    have hm : ∀ x ∈ (natsC (List.range f.slips.length)).foldl (fun acc x => insF (keyF f) x acc) [], 0 ≤ x := fun x hx => by
      obtain ⟨y, _, rfl⟩ := List.mem_map.1 (h1.mem_iff.1 hx)
      omega
    refine List.Pairwise.imp_of_mem (fun {a b} ha hb h => ?_) h2
    have a0 := hm a ha
    have b0 := hm b hb
    rw [before_iff, dueF, dueF, Int.toNat_of_nonneg a0, Int.toNat_of_nonneg b0]
    unfold downI at h
    omega
/-- so many lists of slips of a floor, each in time, that together have just those of a set -/
def FitF (f : Floor) (p m : Nat) : Prop := PM.Fit (secF f) (dueF f) p m
theorem can_fit {f : Floor} (hv : validB f = true) (p m : Nat) (hm : ∀ i, m.testBit i = true → i < f.slips.length) : canF f p m = true ↔ FitF f p m := by
  rw [can_is]
  exact PM.can_fit (desk_is (fine hv).slips9) (ord_is f) (sec_nonneg hv) p m hm
theorem all_bit (f : Floor) (i : Nat) : (allF f).testBit i = decide (i < f.slips.length) := by
  rw [allF, Nat.testBit_two_pow_sub_one]
end Go.Proofs.YtomgnpfpaodpiaaDoor
/- Later Untils, and the least one that is enough; the chapter's answers. -/
namespace Go.Proofs.YtomgnpfpaodpiaaDoor
open Go Go.RowKit
theorem PM.inT_mono {sec till sec' till' : Nat → Int} (hs : ∀ s, sec' s ≤ sec s) (ht : ∀ s, till s ≤ till' s) : ∀ (l : List Nat) (t t' : Int), t' ≤ t → PM.inT sec till t l → PM.inT sec' till' t' l
  | [], _, _, _, _ => trivial
  | s :: l, t, t', h, k => by
    have h1 := hs s
    have h2 := ht s
    have h3 := k.1
    exact ⟨by omega, PM.inT_mono hs ht l _ _ (by omega) k.2⟩
theorem PM.fit_mono {sec till sec' till' : Nat → Int} (hs : ∀ s, sec' s ≤ sec s) (ht : ∀ s, till s ≤ till' s) : ∀ (p m : Nat), PM.Fit sec till p m → PM.Fit sec' till' p m
  | 0, _, h => h
  | p + 1, m, ⟨l, h1, h2, h3, h4⟩ => ⟨l, h1, h2, PM.inT_mono hs ht l 0 0 (Int.le_refl _) h3, PM.fit_mono hs ht p _ h4⟩
theorem till_len (f : Floor) (k : Nat) (u : Int) : (tillF f k u).slips.length = f.slips.length := by simp [withF]
theorem sec_till (f : Floor) (k : Nat) (u : Int) (s : Nat) : secF (tillF f k u) s = secF f s := by
  have e : secsL (tillF f k u) = secsL f := by
    unfold secsL
    apply List.ext_getElem?
    intro i
    rw [List.getElem?_map, List.getElem?_map]
    have e1 : (tillF f k u).slips[i]? = (f.slips[i]?).map (fun s => if k = i then { s with till := u } else s) := by
      show (f.slips.modify k fun s => { s with till := u })[i]? = _
      rw [List.getElem?_modify]
      cases f.slips[i]? with
      | none => rfl
      | some x => by_cases h : k = i <;> simp [h]
    rw [e1]
    cases f.slips[i]? with
    | none => rfl
    | some s =>
      show some (takesF (tillF f k u) (if k = i then { s with till := u } else s)).2 = some (takesF f s).2
      rw [takes_at]
      by_cases h : k = i
      · rw [if_pos h]; rfl
      · rw [if_neg h]
  rw [secF, secF, e]
theorem due_till (f : Floor) (k : Nat) (u : Int) (s : Nat) : dueF (tillF f k u) s = if s = k ∧ s < f.slips.length then u else dueF f s := by
  have e1 : (tillF f k u).slips[s]? = (f.slips[s]?).map (fun x => if k = s then { x with till := u } else x) := by
    show (f.slips.modify k fun s => { s with till := u })[s]? = _
    rw [List.getElem?_modify]
    cases f.slips[s]? with
    | none => rfl
    | some x => by_cases h : k = s <;> simp [h]
  unfold dueF keyF
  rw [Int.toNat_natCast, e1]
  by_cases hs : s < f.slips.length
  · rw [List.getElem?_eq_getElem hs]
    by_cases h : k = s
    · subst h; simp [hs]
    · have h2 : ¬ s = k := fun e => h e.symm
      simp [h, h2]
  · rw [List.getElem?_eq_none (by omega)]
    simp [hs]
theorem all_in (f : Floor) (i : Nat) (h : (allF f).testBit i = true) : i < f.slips.length := by rwa [all_bit, decide_eq_true_eq] at h
theorem enough_fit {f : Floor} (hv : validB f = true) (k p : Nat) {u : Int} (h0 : 0 ≤ u) (h1 : u ≤ 100000) : enoughF f k p u = true ↔ PM.Fit (secF f) (dueF (tillF f k u)) p (allF f) := by
  rw [enoughF, can_fit (valid_till hv none 0 k h0 h1) p (allF f) (fun i hi => by rw [till_len]; exact all_in f i hi), FitF]
  have : secF (tillF f k u) = secF f := funext (sec_till f k u)
  rw [this]
theorem enough_mono {f : Floor} (hv : validB f = true) (k p : Nat) {u v : Int} (h0 : 0 ≤ u) (huv : u ≤ v) (h1 : v ≤ 100000) (h : enoughF f k p u = true) : enoughF f k p v = true := by
  rw [enough_fit hv k p h0 (by omega)] at h
  rw [enough_fit hv k p (by omega) h1]
  refine PM.fit_mono (fun _ => Int.le_refl _) (fun s => ?_) p _ h
  rw [due_till, due_till]
  split <;> omega
theorem spare_is {f : Floor} (hv : validB f = true) {k p t r q : Nat} (ht : t ≤ 100000) (h : IsSpare f k p t r) (hq : q ≤ t) (h1 : ∀ j : Nat, q = j + 1 → enoughF f k p j = false) (h2 : enoughF f k p q = true) : r = q := by
  apply Classical.byContradiction
  intro hne
  by_cases hlt : r < q
  · obtain ⟨j, rfl⟩ : ∃ j, q = j + 1 := ⟨q - 1, by omega⟩
    have := enough_mono hv k p (u := r) (v := j) (by omega) (by omega) (by omega) (h.enough (by omega))
    rw [h1 j rfl] at this
    cases this
  · obtain ⟨j, rfl⟩ : ∃ j, r = j + 1 := ⟨r - 1, by omega⟩
    have := enough_mono hv k p (u := q) (v := j) (by omega) (by omega) (by have := h.le; omega) h2
    rw [h.under j rfl] at this
    cases this
section
variable (a0 a1 a2 a3 a4 a5 a6 : Option Addr)
theorem ch_valid : validB (chap a0 a1 a2 a3 a4 a5 a6) = true := by kernel_rfl
theorem ch_steps : StepsV (chap a0 a1 a2 a3 a4 a5 a6) 3 = 160 ∧ checkSlipV (chap a0 a1 a2 a3 a4 a5 a6) 3 = 0 := ⟨by kernel_rfl, by kernel_rfl⟩
theorem ch_takes : TakesV (chap a0 a1 a2 a3 a4 a5 a6) 0 = (140, 252) ∧ checkSlipV (chap a0 a1 a2 a3 a4 a5 a6) 0 = 0 := ⟨by kernel_rfl, by kernel_rfl⟩
theorem ch_tours : ToursV (chap a0 a1 a2 a3 a4 a5 a6) 2 = [[⟨0, 1⟩]] ∧ checkSlipV (chap a0 a1 a2 a3 a4 a5 a6) 2 = 0 := ⟨by kernel_rfl, by kernel_rfl⟩
theorem ch_is (t0 t1 : Option Addr) : isToursV (chap a0 a1 a2 a3 a4 a5 a6) 0 [⟨t0, 2, [⟨0, 1⟩, ⟨2, 3⟩]⟩, ⟨t1, 1, [⟨0, 1⟩]⟩] = true := by kernel_rfl
theorem ch_done (t0 t1 : Option Addr) : DoneV (chap a0 a1 a2 a3 a4 a5 a6) [⟨t0, 2, [2, 1]⟩, ⟨t1, 2, [0, 3]⟩] = ([(140, 252), (95, 188), (25, 48), (365, 654)], 0) := by kernel_rfl
theorem ch_few : fewF (chap a0 a1 a2 a3 a4 a5 a6) = some 2 := by kernel_rfl
theorem ch_roster : (RosterV (chap a0 a1 a2 a3 a4 a5 a6)).1.length = 2 ∧ (RosterV (chap a0 a1 a2 a3 a4 a5 a6)).2 = 0 := ⟨by kernel_rfl, by kernel_rfl⟩
theorem ch_late : LateV (chap a0 a1 a2 a3 a4 a5 a6) 1 = ([0], 0) := by kernel_rfl
theorem ch_enough : enoughF (chap a0 a1 a2 a3 a4 a5 a6) 3 2 541 = false ∧ enoughF (chap a0 a1 a2 a3 a4 a5 a6) 3 2 542 = true := ⟨by kernel_rfl, by kernel_rfl⟩
theorem ch_spare {v c : Int} (h : SpareA (chap a0 a1 a2 a3 a4 a5 a6) 3 v c) : v = 542 ∧ c = 0 := by
  rcases h with ⟨h1, _, _⟩ | ⟨_, h1, _, _⟩ | ⟨_, hc, k, p, t, r, s, hk, hs, ht, hp, hv, hi⟩
  · exact absurd (ch_steps a0 a1 a2 a3 a4 a5 a6).2 h1
  · rw [ch_few] at h1; cases h1
  · obtain rfl : k = 3 := by omega
    rw [ch_few] at hp
    cases hp
    have hs2 : (chap a0 a1 a2 a3 a4 a5 a6).slips[3]? = some ⟨a5, 2, [⟨1, 1⟩, ⟨2, 6⟩], 900⟩ := rfl
    rw [hs2] at hs
    cases hs
    obtain rfl : t = 900 := by simp at ht; omega
    have := spare_is (ch_valid a0 a1 a2 a3 a4 a5 a6) (by omega) hi (q := 542) (by omega) (fun j hj => by
      obtain rfl : j = 541 := by omega
      exact (ch_enough a0 a1 a2 a3 a4 a5 a6).1) (ch_enough a0 a1 a2 a3 a4 a5 a6).2
    exact ⟨by omega, hc⟩
end
end Go.Proofs.YtomgnpfpaodpiaaDoor
/- Contract of the law's floor, block by block; what a store into one of several floors leaves as it was. -/
namespace Go.Proofs.YtomgnpfpaodpiaaDoor
open Go Go.RowKit
set_option maxHeartbeats 4000000
abbrev pt (b : Nat) : Option Addr := some ⟨b, 0, none⟩
abbrev chapB (b0 b1 b2 b3 b4 b5 b6 : Nat) : Floor := chap (pt b0) (pt b1) (pt b2) (pt b3) (pt b4) (pt b5) (pt b6)
abbrev chFar : List Value := [vi 10, vi 25, vi 40]
abbrev chPick : List Value := [vi 5, vi 8, vi 5, vi 10, vi 10, vi 12]
abbrev chSl (b2 b3 b4 b5 : Nat) : List Value := [.slice (pt b2) 2 2, vi 300, .slice (pt b3) 1 1, vi 200, .slice (pt b4) 1 1, vi 120, .slice (pt b5) 2 2, vi 900]
/-- a floor's blocks, between two numbers -/
structure ChapIn (lo hi b0 b1 b2 b3 b4 b5 b6 : Nat) (far pick sl : List Value) (W : World) : Prop where
  o0 : lo < b0
  o1 : b0 < b1
  o2 : b1 < b2
  o3 : b2 < b3
  o4 : b3 < b4
  o5 : b4 < b5
  o6 : b5 < b6
  o7 : b6 < hi
  x0 : CellsBox W b0 3 far
  x1 : CellsBox W b1 24 pick
  x2 : CellsBox W b2 64 [vi 0, vi 2, vi 2, vi 3]
  x3 : CellsBox W b3 64 [vi 1, vi 4]
  x4 : CellsBox W b4 64 [vi 0, vi 1]
  x5 : CellsBox W b5 64 [vi 1, vi 1, vi 2, vi 6]
  x6 : CellsBox W b6 52 sl
variable {lo hi b0 b1 b2 b3 b4 b5 b6 : Nat} {far pick sl : List Value} {W W' : World}
theorem ChapIn.keep (h : ChapIn lo hi b0 b1 b2 b3 b4 b5 b6 far pick sl W) (hb : Below W.heap.size W W') : ChapIn lo hi b0 b1 b2 b3 b4 b5 b6 far pick sl W' :=
  ⟨h.o0, h.o1, h.o2, h.o3, h.o4, h.o5, h.o6, h.o7, h.x0.keep hb, h.x1.keep hb, h.x2.keep hb, h.x3.keep hb, h.x4.keep hb, h.x5.keep hb, h.x6.keep hb⟩
theorem ChapIn.apart (h : ChapIn lo hi b0 b1 b2 b3 b4 b5 b6 far pick sl W) (p : Addr) (v : Value) (hp : p.block ≤ lo ∨ hi ≤ p.block) : ChapIn lo hi b0 b1 b2 b3 b4 b5 b6 far pick sl (W.setCell p v) := by
  obtain ⟨o0, o1, o2, o3, o4, o5, o6, o7, x0, x1, x2, x3, x4, x5, x6⟩ := h
  exact ⟨o0, o1, o2, o3, o4, o5, o6, o7, x0.apart p v (by omega), x1.apart p v (by omega), x2.apart p v (by omega), x3.apart p v (by omega), x4.apart p v (by omega), x5.apart p v (by omega), x6.apart p v (by omega)⟩
theorem ChapIn.far_ (h : ChapIn lo hi b0 b1 b2 b3 b4 b5 b6 far pick sl W) (i : Nat) (v : Value) : ChapIn lo hi b0 b1 b2 b3 b4 b5 b6 (far.set i v) pick sl (W.setCell ⟨b0, i, none⟩ v) := by
  obtain ⟨o0, o1, o2, o3, o4, o5, o6, o7, x0, x1, x2, x3, x4, x5, x6⟩ := h
  exact ⟨o0, o1, o2, o3, o4, o5, o6, o7, x0.store i v, x1.apart _ v (by simp only; omega), x2.apart _ v (by simp only; omega), x3.apart _ v (by simp only; omega), x4.apart _ v (by simp only; omega), x5.apart _ v (by simp only; omega), x6.apart _ v (by simp only; omega)⟩
theorem ChapIn.pick_ (h : ChapIn lo hi b0 b1 b2 b3 b4 b5 b6 far pick sl W) (i : Nat) (v : Value) : ChapIn lo hi b0 b1 b2 b3 b4 b5 b6 far (pick.set i v) sl (W.setCell ⟨b1, i, none⟩ v) := by
  obtain ⟨o0, o1, o2, o3, o4, o5, o6, o7, x0, x1, x2, x3, x4, x5, x6⟩ := h
  exact ⟨o0, o1, o2, o3, o4, o5, o6, o7, x0.apart _ v (by simp only; omega), x1.store i v, x2.apart _ v (by simp only; omega), x3.apart _ v (by simp only; omega), x4.apart _ v (by simp only; omega), x5.apart _ v (by simp only; omega), x6.apart _ v (by simp only; omega)⟩
theorem ChapIn.sl_ (h : ChapIn lo hi b0 b1 b2 b3 b4 b5 b6 far pick sl W) (i : Nat) (v : Value) : ChapIn lo hi b0 b1 b2 b3 b4 b5 b6 far pick (sl.set i v) (W.setCell ⟨b6, i, none⟩ v) := by
  obtain ⟨o0, o1, o2, o3, o4, o5, o6, o7, x0, x1, x2, x3, x4, x5, x6⟩ := h
  exact ⟨o0, o1, o2, o3, o4, o5, o6, o7, x0.apart _ v (by simp only; omega), x1.apart _ v (by simp only; omega), x2.apart _ v (by simp only; omega), x3.apart _ v (by simp only; omega), x4.apart _ v (by simp only; omega), x5.apart _ v (by simp only; omega), x6.store i v⟩
set_option maxRecDepth 100000 in
theorem floor_box (w : World) :
    Calls Tryd.prog 50 #[] w fun e w' => ∃ b0 b1 b2 b3 b4 b5 b6, e = .returned (chapB b0 b1 b2 b3 b4 b5 b6).val ∧ ChapIn w.heap.size w'.heap.size b0 b1 b2 b3 b4 b5 b6 chFar chPick (chSl b2 b3 b4 b5) w' ∧ Below w.heap.size w w' := by
  go_enter Tryd.func50, Tryd.ntmps50
  go_wp2_with fail
  refine (to_any _ _ _).mono ?_
  rintro e wa ⟨rfl, hba⟩
  have HB : Below w.heap.size w wa := by (repeat (first | exact Below.refl _ _ | refine Below.setCell ?_ (by first | omega | (simp; omega) | (simp; done)) _ | refine Below.alloc ?_ (by first | omega | (simp; omega) | (simp; done)) _ | refine Below.drew ?_ | refine below_drewN ?_ _ | refine Below.trans ?_ (Below.mono (by assumption) (by first | omega | (simp; omega) | (simp; done)))))
  have HR : CellsBox wa w.heap.size 28 [.slice none 0 0, vi 0, vi 0, .slice none 0 0, vi 0, .slice none 0 0] := ((CellsBox.new w 28 [.slice none 0 0, vi 0, vi 0, .slice none 0 0, vi 0, .slice none 0 0]).alloc _).keep hba
  have HI : CellsBox wa (w.heap.size + 1) 3 [vi 10, vi 25, vi 40] := by
    refine CellsBox.keep (b := w.heap.size + 1) (t := 3) (cs := [vi 10, vi 25, vi 40]) ?_ hba
    have := CellsBox.new (w.alloc (.cells #[.slice none 0 0, vi 0, vi 0, .slice none 0 0, vi 0, .slice none 0 0] 28)) 3 [vi 10, vi 25, vi 40]
    simpa using this
  have HZ0 : Hid (w.heap.size < wa.heap.size) := HR.lt
  clear hba
  go_wp2_with fail
  refine (to_any _ _ _).mono ?_
  rintro e wb ⟨rfl, hb⟩
  replace HB : Below w.heap.size w wb := HB.trans (hb.mono HB.size)
  replace HR : CellsBox wb w.heap.size 28 [.slice none 0 0, vi 0, vi 0, .slice none 0 0, vi 0, .slice none 0 0] := HR.keep hb
  replace HI : CellsBox wb (w.heap.size + 1) 3 [vi 10, vi 25, vi 40] := HI.keep hb
  clear hb
  go_wp2_with fail
  refine (to_any _ _ _).mono ?_
  rintro e wc ⟨rfl, hb⟩
  replace HB : Below w.heap.size w wc := HB.trans (hb.mono HB.size)
  replace HR : CellsBox wc w.heap.size 28 [.slice none 0 0, vi 0, vi 0, .slice none 0 0, vi 0, .slice none 0 0] := HR.keep hb
  replace HI : CellsBox wc (w.heap.size + 1) 3 [vi 10, vi 25, vi 40] := HI.keep hb
  clear hb
  go_wp2_with fail
  refine (to_any _ _ _).mono ?_
  rintro e wd ⟨rfl, hb⟩
  replace HB : Below w.heap.size w wd := HB.trans (hb.mono HB.size)
  replace HR : CellsBox wd w.heap.size 28 [.slice none 0 0, vi 0, vi 0, .slice none 0 0, vi 0, .slice none 0 0] := HR.keep hb
  replace HI : CellsBox wd (w.heap.size + 1) 3 [vi 10, vi 25, vi 40] := HI.keep hb
  have Hzd : w.heap.size < wd.heap.size := HR.lt
  have HId : w.heap.size + 1 < wd.heap.size := HI.lt
  clear hb
  go_wp2_with fail
  refine (of_is _ _ _).mono ?_
  rintro e we ⟨rfl, hb⟩
  have HS : CellsBox we wd.heap.size 24 [vi 5, vi 8, vi 5, vi 10, vi 10, vi 12] := (CellsBox.new wd 24 [vi 5, vi 8, vi 5, vi 10, vi 10, vi 12]).keep hb
  replace HB : Below w.heap.size w we := (HB.alloc HB.size _).trans (hb.mono (by have := HB.size; rw [World.size_alloc]; omega)); simp
  replace HR : CellsBox we w.heap.size 28 [.slice none 0 0, vi 0, vi 0, .slice none 0 0, vi 0, .slice none 0 0] := (HR.alloc _).keep hb
  replace HI : CellsBox we (w.heap.size + 1) 3 [vi 10, vi 25, vi 40] := (HI.alloc _).keep hb
  clear hb
  go_wp2_with fail
  refine (of_is _ _ _).mono ?_
  rintro e wf ⟨rfl, hb⟩
  replace HB : Below w.heap.size w wf := HB.trans (hb.mono HB.size)
  replace HR : CellsBox wf w.heap.size 28 [.slice none 0 0, vi 0, vi 0, .slice none 0 0, vi 0, .slice none 0 0] := HR.keep hb
  replace HI : CellsBox wf (w.heap.size + 1) 3 [vi 10, vi 25, vi 40] := HI.keep hb
  replace HS : CellsBox wf wd.heap.size 24 [vi 5, vi 8, vi 5, vi 10, vi 10, vi 12] := HS.keep hb
  have Hzf : w.heap.size < wf.heap.size := HR.lt
  have HSf : wd.heap.size < wf.heap.size := HS.lt
  clear hb
  go_wp2_with fail
  refine (of_is _ _ _).mono ?_
  rintro e wg ⟨rfl, hb⟩
  have H2 : CellsBox wg wf.heap.size 64 [vi 0, vi 2, vi 2, vi 3] := (CellsBox.new wf 64 [vi 0, vi 2, vi 2, vi 3]).keep hb
  replace HB : Below w.heap.size w wg := (HB.alloc HB.size _).trans (hb.mono (by have := HB.size; rw [World.size_alloc]; omega)); simp
  replace HR : CellsBox wg w.heap.size 28 [.slice none 0 0, vi 0, vi 0, .slice none 0 0, vi 0, .slice none 0 0] := (HR.alloc _).keep hb
  replace HI : CellsBox wg (w.heap.size + 1) 3 [vi 10, vi 25, vi 40] := (HI.alloc _).keep hb
  replace HS : CellsBox wg wd.heap.size 24 [vi 5, vi 8, vi 5, vi 10, vi 10, vi 12] := (HS.alloc _).keep hb
  have Hzg : w.heap.size < wg.heap.size := HR.lt
  have H2g : wf.heap.size < wg.heap.size := H2.lt
  clear hb
  go_wp2_with fail
  refine (of_is _ _ _).mono ?_
  rintro e wh ⟨rfl, hb⟩
  have H3 : CellsBox wh wg.heap.size 64 [vi 1, vi 4] := (CellsBox.new wg 64 [vi 1, vi 4]).keep hb
  replace HB : Below w.heap.size w wh := (HB.alloc HB.size _).trans (hb.mono (by have := HB.size; rw [World.size_alloc]; omega)); simp
  replace HR : CellsBox wh w.heap.size 28 [.slice none 0 0, vi 0, vi 0, .slice none 0 0, vi 0, .slice none 0 0] := (HR.alloc _).keep hb
  replace HI : CellsBox wh (w.heap.size + 1) 3 [vi 10, vi 25, vi 40] := (HI.alloc _).keep hb
  replace HS : CellsBox wh wd.heap.size 24 [vi 5, vi 8, vi 5, vi 10, vi 10, vi 12] := (HS.alloc _).keep hb
  replace H2 : CellsBox wh wf.heap.size 64 [vi 0, vi 2, vi 2, vi 3] := (H2.alloc _).keep hb
  have Hzh : w.heap.size < wh.heap.size := HR.lt
  have H3h : wg.heap.size < wh.heap.size := H3.lt
  clear hb
  go_wp2_with fail
  refine (of_is _ _ _).mono ?_
  rintro e wi ⟨rfl, hb⟩
  have H4 : CellsBox wi wh.heap.size 64 [vi 0, vi 1] := (CellsBox.new wh 64 [vi 0, vi 1]).keep hb
  replace HB : Below w.heap.size w wi := (HB.alloc HB.size _).trans (hb.mono (by have := HB.size; rw [World.size_alloc]; omega)); simp
  replace HR : CellsBox wi w.heap.size 28 [.slice none 0 0, vi 0, vi 0, .slice none 0 0, vi 0, .slice none 0 0] := (HR.alloc _).keep hb
  replace HI : CellsBox wi (w.heap.size + 1) 3 [vi 10, vi 25, vi 40] := (HI.alloc _).keep hb
  replace HS : CellsBox wi wd.heap.size 24 [vi 5, vi 8, vi 5, vi 10, vi 10, vi 12] := (HS.alloc _).keep hb
  replace H2 : CellsBox wi wf.heap.size 64 [vi 0, vi 2, vi 2, vi 3] := (H2.alloc _).keep hb
  replace H3 : CellsBox wi wg.heap.size 64 [vi 1, vi 4] := (H3.alloc _).keep hb
  clear hb
  go_wp2_with fail
  refine (of_is _ _ _).mono ?_
  rintro e wj ⟨rfl, hb⟩
  replace HB : Below w.heap.size w wj := HB.trans (hb.mono HB.size)
  replace HR : CellsBox wj w.heap.size 28 [.slice none 0 0, vi 0, vi 0, .slice none 0 0, vi 0, .slice none 0 0] := HR.keep hb
  replace HI : CellsBox wj (w.heap.size + 1) 3 [vi 10, vi 25, vi 40] := HI.keep hb
  replace HS : CellsBox wj wd.heap.size 24 [vi 5, vi 8, vi 5, vi 10, vi 10, vi 12] := HS.keep hb
  replace H2 : CellsBox wj wf.heap.size 64 [vi 0, vi 2, vi 2, vi 3] := H2.keep hb
  replace H3 : CellsBox wj wg.heap.size 64 [vi 1, vi 4] := H3.keep hb
  replace H4 : CellsBox wj wh.heap.size 64 [vi 0, vi 1] := H4.keep hb
  clear hb
  have H4j : wh.heap.size < wj.heap.size := H4.lt
  obtain ⟨cs, hcs⟩ : ∃ cs : List Value, cs = [.slice (some ⟨w.heap.size + 1, 0, none⟩) 3 3, vi 1, vi 2, .slice (some ⟨wd.heap.size, 0, none⟩) 3 3, vi 4, .slice (some ⟨wj.heap.size + 1, 0, none⟩) 4 4] := ⟨_, rfl⟩
  obtain ⟨V, hV⟩ : ∃ V, V = (wj.alloc (.cells #[vi 1, vi 1, vi 2, vi 6] 64)).alloc (.cells #[.slice (some ⟨wf.heap.size, 0, none⟩) 2 2, vi 300, .slice (some ⟨wg.heap.size, 0, none⟩) 1 1, vi 200, .slice (some ⟨wh.heap.size, 0, none⟩) 1 1, vi 120, .slice (some ⟨wj.heap.size, 0, none⟩) 2 2, vi 900] 52) := ⟨_, rfl⟩
  have VR : CellsBox V w.heap.size 28 [.slice none 0 0, vi 0, vi 0, .slice none 0 0, vi 0, .slice none 0 0] := by rw [hV]; exact (HR.alloc _).alloc _
  have VI : CellsBox V (w.heap.size + 1) 3 [vi 10, vi 25, vi 40] := by rw [hV]; exact (HI.alloc _).alloc _
  have VS : CellsBox V wd.heap.size 24 [vi 5, vi 8, vi 5, vi 10, vi 10, vi 12] := by rw [hV]; exact (HS.alloc _).alloc _
  have V2 : CellsBox V wf.heap.size 64 [vi 0, vi 2, vi 2, vi 3] := by rw [hV]; exact (H2.alloc _).alloc _
  have V3 : CellsBox V wg.heap.size 64 [vi 1, vi 4] := by rw [hV]; exact (H3.alloc _).alloc _
  have V4 : CellsBox V wh.heap.size 64 [vi 0, vi 1] := by rw [hV]; exact (H4.alloc _).alloc _
  have V5 : CellsBox V wj.heap.size 64 [vi 1, vi 1, vi 2, vi 6] := by rw [hV]; exact (CellsBox.new wj _ _).alloc _
  have V6 : CellsBox V (wj.heap.size + 1) 52 [.slice (some ⟨wf.heap.size, 0, none⟩) 2 2, vi 300, .slice (some ⟨wg.heap.size, 0, none⟩) 1 1, vi 200, .slice (some ⟨wh.heap.size, 0, none⟩) 1 1, vi 120, .slice (some ⟨wj.heap.size, 0, none⟩) 2 2, vi 900] := by
    rw [hV]
    have := CellsBox.new (wj.alloc (.cells #[vi 1, vi 1, vi 2, vi 6] 64)) 52 [.slice (some ⟨wf.heap.size, 0, none⟩) 2 2, vi 300, .slice (some ⟨wg.heap.size, 0, none⟩) 1 1, vi 200, .slice (some ⟨wh.heap.size, 0, none⟩) 1 1, vi 120, .slice (some ⟨wj.heap.size, 0, none⟩) 2 2, vi 900]
    rwa [World.size_alloc] at this
  have VB : Below w.heap.size w V := by rw [hV]; exact (HB.alloc HB.size _).alloc (by have := HB.size; rw [World.size_alloc]; omega) _
  have hth : V.there w.heap.size 0 cs.toArray.size := by
    intro j hj
    rw [hcs] at hj
    have hj6 : j < 6 := by simpa using hj
    rw [Nat.zero_add]
    refine ⟨?_, VR.frozen j⟩
    obtain rfl | rfl | rfl | rfl | rfl | rfl : j = 0 ∨ j = 1 ∨ j = 2 ∨ j = 3 ∨ j = 4 ∨ j = 5 := by omega
    all_goals (rw [VR.cell rfl]; rfl)
  have HTH := Lib.hid hth
  have HZ : Hid (w.heap.size < wd.heap.size ∧ w.heap.size < wf.heap.size ∧ w.heap.size < wg.heap.size ∧ w.heap.size < wh.heap.size ∧ w.heap.size < wj.heap.size) := ⟨Hzd, Hzf, Hzg, Hzh, HR.lt⟩
  have HCS := Lib.hid hcs
  have HVV := Lib.hid hV
  have hlen : cs.toArray.size = 6 := by rw [hcs]; rfl
  have h1c : cs.toArray.all (·.oneCell') = true := by rw [hcs]; simp [Value.oneCell']
  have HI0 : Hid (w.heap.size + 1 < wd.heap.size) := HId
  have HS0 : Hid (wd.heap.size < wf.heap.size) := HSf
  have H20 : Hid (wf.heap.size < wg.heap.size) := H2g
  have H30 : Hid (wg.heap.size < wh.heap.size) := H3h
  have H40 : Hid (wh.heap.size < wj.heap.size) := H4j
  clear HR HI HS H2 H3 H4 hth hV hcs HId HSf H2g H3h H4j
  go_wp2_with (with_reducible refine wpList_store_mid rfl 28 _ _ rfl w.heap.size 0 cs.toArray ?hx ?hy ?ht ?hi ?h1 ?_)
  case hx => rfl
  case hy => rw [HCS.out]; rfl
  case ht => rw [← HVV.out]; exact HTH.out
  case hi => rw [hlen]; kernel_rfl
  case h1 => exact h1c
  have HZR : CellsBox (V.setCells w.heap.size 0 cs) w.heap.size 28 [.slice (some ⟨w.heap.size + 1, 0, none⟩) 3 3, vi 1, vi 2, .slice (some ⟨wd.heap.size, 0, none⟩) 3 3, vi 4, .slice (some ⟨wj.heap.size + 1, 0, none⟩) 4 4] := by
    rw [HCS.out]
    exact (((((VR.store 0 (.slice (some ⟨w.heap.size + 1, 0, none⟩) 3 3)).store 1 (vi 1)).store 2 (vi 2)).store 3 (.slice (some ⟨wd.heap.size, 0, none⟩) 3 3)).store 4 (vi 4)).store 5 (.slice (some ⟨wj.heap.size + 1, 0, none⟩) 4 4)
  have zj := HB.size
  have zI := VI.lt
  have ZI := CellsBox.aside (B := w.heap.size) cs 0 VI (by omega)
  have ZS := CellsBox.aside (B := w.heap.size) cs 0 VS (by have := VR.lt; have := HZ.out; omega)
  have Z2 := CellsBox.aside (B := w.heap.size) cs 0 V2 (by have := HZ.out; omega)
  have Z3 := CellsBox.aside (B := w.heap.size) cs 0 V3 (by have := HZ.out; omega)
  have Z4 := CellsBox.aside (B := w.heap.size) cs 0 V4 (by have := HZ.out; omega)
  have Z5 := CellsBox.aside (B := w.heap.size) cs 0 V5 (by have := HZ.out; omega)
  have Z6 := CellsBox.aside (B := w.heap.size) cs 0 V6 (by omega)
  have ZB := below_setCells (B := w.heap.size) cs 0 VB (Nat.le_refl _)
  rw [← HVV.out]
  clear HVV HTH HCS h1c hlen VR VI VS V2 V3 V4 V5 V6 VB
  obtain ⟨F, hF⟩ : ∃ F, F = V.setCells w.heap.size 0 cs := ⟨_, rfl⟩
  rw [← hF] at HZR ZI ZS Z2 Z3 Z4 Z5 Z6 ZB
  rw [show V.setCells w.heap.size 0 cs.toArray.toList = F from by rw [hF]]
  clear hF
  have q0 := HZR.cell (j := 0) rfl
  have q1 := HZR.cell (j := 1) rfl
  have q2 := HZR.cell (j := 2) rfl
  have q3 := HZR.cell (j := 3) rfl
  have q4 := HZR.cell (j := 4) rfl
  have q5 := HZR.cell (j := 5) rfl
  go_wp2_with fail
  refine bodyPost_ret (v := .agg #[.slice (some ⟨w.heap.size + 1, 0, none⟩) 3 3, vi 1, vi 2, .slice (some ⟨wd.heap.size, 0, none⟩) 3 3, vi 4, .slice (some ⟨wj.heap.size + 1, 0, none⟩) 4 4]) (by simp [results, Tryd.results50, go_sem, q0, q1, q2, q3, q4, q5]) rfl ?_
  exact ⟨w.heap.size + 1, wd.heap.size, wf.heap.size, wg.heap.size, wh.heap.size, wj.heap.size, wj.heap.size + 1, rfl, ⟨by omega, by have := HI0.out; omega, by have := HS0.out; omega, by have := H20.out; omega, by have := H30.out; omega, by have := H40.out; omega, by omega, Z6.lt, ZI, ZS, Z2, Z3, Z4, Z5, Z6⟩, ZB⟩
end Go.Proofs.YtomgnpfpaodpiaaDoor
/- Contracts of the specification's lines and isSlip. -/
namespace Go.Proofs.YtomgnpfpaodpiaaDoor
open Go Go.RowKit
set_option maxHeartbeats 4000000
/-- lines that a slip or a tour may have, but for how many there are -/
def linesR (n : Int) (l : List SLine) : Bool := (List.range l.length).all (goodLine n l)
theorem goodLine_ref {n : Int} {l : List SLine} {k : Nat} {x : SLine} (h : l[k]? = some x) : goodLine n l k = (hasB (nextF l k) (n - 1) x.shelf && hasB 1 20 x.many) := by
  rw [goodLine_of h]
  unfold hasB
  congr 2
  by_cases h1 : x.shelf < n
  · have : x.shelf ≤ n - 1 := by omega
    simp [h1, this]
  · have : ¬ x.shelf ≤ n - 1 := by omega
    simp [h1, this]
end Go.Proofs.YtomgnpfpaodpiaaDoor
/- Contracts of Match and MatchSpans, whatever the capacities. -/
namespace Go.Proofs.YtomgnpfpaodpiaaDoor
open Go Go.RowKit
set_option maxHeartbeats 2000000
set_option maxRecDepth 100000 in
theorem match_free (A B : Option Addr) (ca cb : Nat) (l m : List Int) (w : World) (ha : IntsAt w w.heap.size A l.length l) (hb : IntsAt w w.heap.size B m.length m) :
    Calls Tryd.prog 32 #[.slice A l.length ca, .slice B m.length cb] w fun e w' => e = .returned (.bool (decide (l = m))) ∧ Below w.heap.size w w' := by
  have ha1 := ha.lens
  have hb1 := hb.lens
  rcases hlm : ((l.length : Int) == (m.length : Int)) with _ | _
  · have E : Hid (decide (l = m) = false) := by
      unfold Hid
      rw [decide_eq_false_iff_not]
      rintro rfl
      simp at hlm
    go_enter Tryd.func32, Tryd.ntmps32
    go_wp2
    go_rounds 2
    go_ret
    refine ⟨retB E.out.symm, ?_⟩
    (repeat (first | exact Below.refl _ _ | refine Below.setCell ?_ (by first | omega | (simp; omega) | (simp; done)) _ | refine Below.alloc ?_ (by first | omega | (simp; omega) | (simp; done)) _ | refine Below.drew ?_ | refine below_drewN ?_ _ | refine Below.trans ?_ (Below.mono (by assumption) (by first | omega | (simp; omega) | (simp; done)))))
  have hle : l.length = m.length := by have := beq_iff_eq.1 hlm; omega
  go_enter Tryd.func32, Tryd.ntmps32
  go_wp2
  clear hlm
  go_loopw [5, 6] (fun ok i wr => ∃ k : Nat, k ≤ l.length ∧ i = .int .i64 k ∧ Below w.heap.size w wr ∧ ((ok = .bool true ∧ Hid (l.take k = m.take k)) ∨ (ok = .bool false ∧ Hid (decide (l = m) = false)))) (fun _ i _ => l.length - (intOf i).toNat)
  case atStart => exact ⟨0, Nat.zero_le _, rfl, Below.refl _ _, .inl ⟨rfl, by simp [Hid]⟩⟩
  case round =>
    obtain ⟨k, hk, rfl, hB, ⟨rfl, heq⟩ | ⟨rfl, hbad⟩⟩ := hrel
    · have hbs := hB.size
      by_cases hlt : k < l.length
      · obtain ⟨x, hx⟩ : ∃ x, l[k]? = some x := ⟨_, List.getElem?_eq_getElem hlt⟩
        obtain ⟨y, hy⟩ : ∃ y, m[k]? = some y := ⟨_, List.getElem?_eq_getElem (by omega)⟩
        obtain ⟨ba, oa, rfl, hba, c0⟩ := ints_at (ha.to hB) hx
        obtain ⟨bb, ob, rfl, hbb, c1⟩ := ints_at (hb.to hB) hy
        have hlt2 : k < m.length := by omega
        have hltI : (k : Int) < m.length := by omega
        have hltJ : (k : Int) < l.length := by omega
        have h0I : (0 : Int) ≤ k := by omega
        rcases hxy : x == y with _ | _
        · have hb9 : Hid (decide (l = m) = false) := by
            unfold Hid
            rw [decide_eq_false_iff_not]
            rintro rfl
            rw [hx] at hy
            simp at hy
            subst hy
            simp at hxy
          clear hx hy
          go_wp2_with fail
          (refine wp_region_grow_lit (by kernel_rfl) (by kernel_rfl) ?_; (repeat (go_big_quiet_step (fail))); refine wpQuiet_nil ?_; intro w1 hw1; have hb1 := below_of_plus hw1; clear hw1; obtain ⟨⟨hc1, hf1, hs1⟩, hz1⟩ := after hb1; (try simp only [World.size_alloc, World.size_setCell, World.size_drew] at hz1))
          go_wp2
          go_roundw
          case rel => exact ⟨k + 1, by omega, by go_num, by (repeat (first | exact Below.refl _ _ | refine Below.setCell ?_ (by first | omega | (simp; omega) | (simp; done)) _ | refine Below.alloc ?_ (by first | omega | (simp; omega) | (simp; done)) _ | refine Below.drew ?_ | refine below_drewN ?_ _ | refine Below.trans ?_ (Below.mono (by assumption) (by first | omega | (simp; omega) | (simp; done))))), .inr ⟨rfl, hb9⟩⟩
          case measure => simp [intOf]; omega
        · have hst : Hid (l.take (k + 1) = m.take (k + 1)) := by
            obtain ⟨h1, rfl⟩ := List.getElem?_eq_some_iff.1 hx
            obtain ⟨h2, rfl⟩ := List.getElem?_eq_some_iff.1 hy
            unfold Hid
            rw [List.take_succ_eq_append_getElem h1, List.take_succ_eq_append_getElem h2, heq.out, beq_iff_eq.1 hxy]
          clear hx hy
          go_wp2_with fail
          (refine wp_region_grow_lit (by kernel_rfl) (by kernel_rfl) ?_; (repeat (go_big_quiet_step (fail))); refine wpQuiet_nil ?_; intro w1 hw1; have hb1 := below_of_plus hw1; clear hw1; obtain ⟨⟨hc1, hf1, hs1⟩, hz1⟩ := after hb1; (try simp only [World.size_alloc, World.size_setCell, World.size_drew] at hz1))
          go_wp2
          go_roundw
          case rel => exact ⟨k + 1, by omega, by go_num, by (repeat (first | exact Below.refl _ _ | refine Below.setCell ?_ (by first | omega | (simp; omega) | (simp; done)) _ | refine Below.alloc ?_ (by first | omega | (simp; omega) | (simp; done)) _ | refine Below.drew ?_ | refine below_drewN ?_ _ | refine Below.trans ?_ (Below.mono (by assumption) (by first | omega | (simp; omega) | (simp; done))))), .inl ⟨rfl, hst⟩⟩
          case measure => simp [intOf]; omega
      · obtain rfl : k = l.length := by omega
        have E : Hid (decide (l = m) = true) := by
          have := heq.out
          rw [List.take_length, hle, List.take_length] at this
          unfold Hid
          simp [this]
        go_wp2
        go_ret
        refine ⟨retB E.out.symm, ?_⟩
        exact hB
    · go_wp2
      go_ret
      refine ⟨retB hbad.out.symm, ?_⟩
      exact hB
set_option maxRecDepth 100000 in
theorem matchSpans_free (A B : Option Addr) (ca cb : Nat) (l m : List (Int × Int)) (w : World) (ha : RowsAt w w.heap.size 2 A l.length (l.map spanC)) (hb : RowsAt w w.heap.size 2 B m.length (m.map spanC)) :
    Calls Tryd.prog 27 #[.slice A l.length ca, .slice B m.length cb] w fun e w' => e = .returned (.bool (decide (l = m))) ∧ Below w.heap.size w w' := by
  have ha1 := ha.lens
  have hb1 := hb.lens
  rcases hlm : ((l.length : Int) == (m.length : Int)) with _ | _
  · have E : Hid (decide (l = m) = false) := by
      unfold Hid
      rw [decide_eq_false_iff_not]
      rintro rfl
      simp at hlm
    go_enter Tryd.func27, Tryd.ntmps27
    go_wp2
    go_rounds 2
    go_ret
    refine ⟨retB E.out.symm, ?_⟩
    (repeat (first | exact Below.refl _ _ | refine Below.setCell ?_ (by first | omega | (simp; omega) | (simp; done)) _ | refine Below.alloc ?_ (by first | omega | (simp; omega) | (simp; done)) _ | refine Below.drew ?_ | refine below_drewN ?_ _ | refine Below.trans ?_ (Below.mono (by assumption) (by first | omega | (simp; omega) | (simp; done)))))
  have hle : l.length = m.length := by have := beq_iff_eq.1 hlm; omega
  go_enter Tryd.func27, Tryd.ntmps27
  go_wp2
  clear hlm
  go_loopw [5, 6] (fun ok i wr => ∃ k : Nat, k ≤ l.length ∧ i = .int .i64 k ∧ Below w.heap.size w wr ∧ ((ok = .bool true ∧ Hid (l.take k = m.take k)) ∨ (ok = .bool false ∧ Hid (decide (l = m) = false)))) (fun _ i _ => l.length - (intOf i).toNat)
  case atStart => exact ⟨0, Nat.zero_le _, rfl, Below.refl _ _, .inl ⟨rfl, by simp [Hid]⟩⟩
  case round =>
    obtain ⟨k, hk, rfl, hB, ⟨rfl, heq⟩ | ⟨rfl, hbad⟩⟩ := hrel
    · have hbs := hB.size
      by_cases hlt : k < l.length
      · obtain ⟨x, hx⟩ : ∃ x, l[k]? = some x := ⟨_, List.getElem?_eq_getElem hlt⟩
        obtain ⟨y, hy⟩ : ∃ y, m[k]? = some y := ⟨_, List.getElem?_eq_getElem (by omega)⟩
        obtain ⟨ba, oa, rfl, hba, c0, c1⟩ := row2 (ha.to hB).row hx rfl
        obtain ⟨bb, ob, rfl, hbb, d0, d1⟩ := row2 (hb.to hB).row hy rfl
        have hlt2 : k < m.length := by omega
        have hltI : (k : Int) < m.length := by omega
        have hltJ : (k : Int) < l.length := by omega
        have h0I : (0 : Int) ≤ k := by omega
        obtain ⟨xa, xb⟩ := x
        obtain ⟨ya, yb⟩ := y
        simp only at c0 c1 d0 d1
        rcases hxy : xa == ya with _ | _
        · have hb9 : Hid (decide (l = m) = false) := by
            unfold Hid
            rw [decide_eq_false_iff_not]
            rintro rfl
            rw [hx] at hy
            simp at hy
            simp [hy.1] at hxy
          clear hx hy
          go_wp2_with fail
          (refine wp_region_grow_lit (by kernel_rfl) (by kernel_rfl) ?_; (repeat (go_big_quiet_step (fail))); refine wpQuiet_nil ?_; intro w1 hw1; have hb1 := below_of_plus hw1; clear hw1; obtain ⟨⟨hc1, hf1, hs1⟩, hz1⟩ := after hb1; (try simp only [World.size_alloc, World.size_setCell, World.size_drew] at hz1))
          go_wp2
          go_roundw
          case rel => exact ⟨k + 1, by omega, by go_num, by (repeat (first | exact Below.refl _ _ | refine Below.setCell ?_ (by first | omega | (simp; omega) | (simp; done)) _ | refine Below.alloc ?_ (by first | omega | (simp; omega) | (simp; done)) _ | refine Below.drew ?_ | refine below_drewN ?_ _ | refine Below.trans ?_ (Below.mono (by assumption) (by first | omega | (simp; omega) | (simp; done))))), .inr ⟨rfl, hb9⟩⟩
          case measure => simp [intOf]; omega
        rcases hxz : xb == yb with _ | _
        · have hb9 : Hid (decide (l = m) = false) := by
            unfold Hid
            rw [decide_eq_false_iff_not]
            rintro rfl
            rw [hx] at hy
            simp at hy
            simp [hy.2] at hxz
          clear hx hy
          go_wp2_with fail
          (refine wp_region_grow_lit (by kernel_rfl) (by kernel_rfl) ?_; (repeat (go_big_quiet_step (fail))); refine wpQuiet_nil ?_; intro w1 hw1; have hb1 := below_of_plus hw1; clear hw1; obtain ⟨⟨hc1, hf1, hs1⟩, hz1⟩ := after hb1; (try simp only [World.size_alloc, World.size_setCell, World.size_drew] at hz1))
          go_wp2
          go_roundw
          case rel => exact ⟨k + 1, by omega, by go_num, by (repeat (first | exact Below.refl _ _ | refine Below.setCell ?_ (by first | omega | (simp; omega) | (simp; done)) _ | refine Below.alloc ?_ (by first | omega | (simp; omega) | (simp; done)) _ | refine Below.drew ?_ | refine below_drewN ?_ _ | refine Below.trans ?_ (Below.mono (by assumption) (by first | omega | (simp; omega) | (simp; done))))), .inr ⟨rfl, hb9⟩⟩
          case measure => simp [intOf]; omega
        · have hst : Hid (l.take (k + 1) = m.take (k + 1)) := by
            obtain ⟨h1, e1⟩ := List.getElem?_eq_some_iff.1 hx
            obtain ⟨h2, e2⟩ := List.getElem?_eq_some_iff.1 hy
            unfold Hid
            rw [List.take_succ_eq_append_getElem h1, List.take_succ_eq_append_getElem h2, heq.out, e1, e2, beq_iff_eq.1 hxy, beq_iff_eq.1 hxz]
          clear hx hy
          go_wp2_with fail
          (refine wp_region_grow_lit (by kernel_rfl) (by kernel_rfl) ?_; (repeat (go_big_quiet_step (fail))); refine wpQuiet_nil ?_; intro w1 hw1; have hb1 := below_of_plus hw1; clear hw1; obtain ⟨⟨hc1, hf1, hs1⟩, hz1⟩ := after hb1; (try simp only [World.size_alloc, World.size_setCell, World.size_drew] at hz1))
          go_wp2
          go_roundw
          case rel => exact ⟨k + 1, by omega, by go_num, by (repeat (first | exact Below.refl _ _ | refine Below.setCell ?_ (by first | omega | (simp; omega) | (simp; done)) _ | refine Below.alloc ?_ (by first | omega | (simp; omega) | (simp; done)) _ | refine Below.drew ?_ | refine below_drewN ?_ _ | refine Below.trans ?_ (Below.mono (by assumption) (by first | omega | (simp; omega) | (simp; done))))), .inl ⟨rfl, hst⟩⟩
          case measure => simp [intOf]; omega
      · obtain rfl : k = l.length := by omega
        have E : Hid (decide (l = m) = true) := by
          have := heq.out
          rw [List.take_length, hle, List.take_length] at this
          unfold Hid
          simp [this]
        go_wp2
        go_ret
        refine ⟨retB E.out.symm, ?_⟩
        exact hB
    · go_wp2
      go_ret
      refine ⟨retB hbad.out.symm, ?_⟩
      exact hB
end Go.Proofs.YtomgnpfpaodpiaaDoor
/- Contract of Tours: the walk. -/
namespace Go.Proofs.YtomgnpfpaodpiaaDoor
open Go Go.RowKit Go.Shelf
set_option maxHeartbeats 2000000
attribute [local go_sem] Oper.semAt_some
theorem tours_rows {w : World} {A : Option Addr} {ts : List STour} (h : RowsAt w w.heap.size 1 A ts.length (ts.map STour.cells)) (he : ∀ t ∈ ts, TourIn w t) : ToursAt w w.heap.size A ts.length ts := ⟨h, fun t ht => (he t ht).lines⟩
theorem cells_tour (ts : List STour) : ∀ r ∈ ts.map STour.cells, r.length = 1 := fun r hr => by
  obtain ⟨t, _, rfl⟩ := List.mem_map.1 hr
  rfl
theorem cells_flat (ts : List STour) : (ts.map STour.cells).flatten = ts.map STour.slice := by
  induction ts with
  | nil => rfl
  | cons t ts ih => rw [List.map_cons, List.flatten_cons, ih]; rfl
set_option maxRecDepth 100000 in
theorem Tours_any (f : Floor) (n : Int) (w : World) (hl : Lim w) (h : FloorAt w w.heap.size f) :
    Calls Tryd.prog 22 #[f.val, vi n] w fun e w' => ∃ A ts, e = .returned (.tuple #[.slice A ts.length ts.length, vi (checkSlipV f n)]) ∧ ToursAt w' w'.heap.size A ts.length ts ∧ ts.map STour.lines = ToursV f n ∧ Below w.heap.size w w' := by
  have HL := Lib.hid hl
  have HF := Lib.hid h
  rcases check_cases f n with hc | ⟨hc, hv, m, s, rfl, hs⟩
  · obtain ⟨ec, hec⟩ : ∃ ec, checkSlipV f n = ec := ⟨_, rfl⟩
    have hne : ec ≠ 0 := by omega
    have hned : decide (ec = 0) = false := by simpa using hne
    have E : Hid (ToursV f n = []) := by unfold Hid ToursV; rw [if_neg (by omega)]
    have CH := Lib.hid (fun (W : World) hL hW => checkSlip_is hec W hL hW)
    rw [E.out, hec]
    clear h hl hc hec E
    refine (callsIn_wide (n := 12)).1 ?_
    refine callsIn_of_wp_marks Tryd.func22 rfl trivial ?_ rfl
    simp only [Tryd.ntmps22, List.size_toArray, List.length_cons, List.length_nil, Nat.reduceAdd, Nat.reduceSub, Array.replicate_succ, Array.replicate_zero, List.push_toArray, List.append_toArray, List.nil_append, List.cons_append]
    gi_wp2_with fail
    refine ⟨trivial, ?_⟩
    refine (callsIn_wide.2 (CH.out _ (HL.out.next (by (repeat (first | exact Below.refl _ _ | refine Below.setCell ?_ (by first | omega | (simp; omega) | (simp; done)) _ | refine Below.alloc ?_ (by first | omega | (simp; omega) | (simp; done)) _ | refine Below.drew ?_ | refine below_drewN ?_ _ | refine Below.trans ?_ (Below.mono (by assumption) (by first | omega | (simp; omega) | (simp; done))))))) (HF.out.to (by (repeat (first | exact Below.refl _ _ | refine Below.setCell ?_ (by first | omega | (simp; omega) | (simp; done)) _ | refine Below.alloc ?_ (by first | omega | (simp; omega) | (simp; done)) _ | refine Below.drew ?_ | refine below_drewN ?_ _ | refine Below.trans ?_ (Below.mono (by assumption) (by first | omega | (simp; omega) | (simp; done))))))))).mono ?_
    rintro e W ⟨rfl, hb⟩
    have HB0 : Below w.heap.size w W := by (repeat (first | exact Below.refl _ _ | refine Below.setCell ?_ (by first | omega | (simp; omega) | (simp; done)) _ | refine Below.alloc ?_ (by first | omega | (simp; omega) | (simp; done)) _ | refine Below.drew ?_ | refine below_drewN ?_ _ | refine Below.trans ?_ (Below.mono (by assumption) (by first | omega | (simp; omega) | (simp; done)))))
    clear hb
    gi_wp2_with fail
    refine ⟨_, results_tmp2 rfl _ _ _, ?_⟩
    exact ⟨none, [], rfl, ⟨rows_nil _ _, by simp⟩, rfl, HB0⟩
  · obtain ⟨i0, hi, hy0, hy1, hy2⟩ := info_parts info_lines
    have hf := fine hv
    obtain ⟨c, hcc⟩ : ∃ c : Nat, f.carry = c := ⟨f.carry.toNat, by have := hf.carry1; omega⟩
    have hc1 := hf.carry1
    have hc2 := hf.carry20
    obtain ⟨_, _, hsl⟩ := hf.slips s (List.mem_of_getElem? hs)
    obtain ⟨ho, hsum, hs0, hs1⟩ := pieces_only hf.far12 hsl
    obtain ⟨hok, htw⟩ := lines_good (by have := hf.far12; omega) hsl
    have hlen := loadsOf_len hf (List.mem_of_getElem? hs)
    have CH := Lib.hid (fun (W : World) hL hW => checkSlip_is hc W hL hW)
    obtain ⟨all, hall⟩ : ∃ all, loadsOf f s = all := ⟨_, rfl⟩
    have HALL : Hid (loadsF c (piecesF s.lines).sum.toNat (piecesF s.lines) = all) := by
      have e : f.carry.toNat = c := by omega
      unfold Hid
      rw [← hall, loadsOf, e]
    have E : Hid (ToursV f m = all.map linesOf) := by unfold Hid ToursV; rw [if_pos hc]; simp [hs, hall]
    rw [hall] at hlen
    have HC := Lib.hid hcc
    have HC1 : Hid (1 ≤ c ∧ c ≤ 20) := ⟨by omega, by omega⟩
    have HSL := Lib.hid hsl
    have HTW := Lib.hid htw
    have HOK := Lib.hid hok
    have HO := Lib.hid ho
    have HFN := Lib.hid hf
    rw [hc, E.out]
    clear hcc hc1 hc2 hsl ho hsum hs0 hs1 hok htw hall h hf hl hc E hv
    refine (callsIn_wide (n := 12)).1 ?_
    refine callsIn_of_wp_marks Tryd.func22 rfl trivial ?_ rfl
    simp only [Tryd.ntmps22, List.size_toArray, List.length_cons, List.length_nil, Nat.reduceAdd, Nat.reduceSub, Array.replicate_succ, Array.replicate_zero, List.push_toArray, List.append_toArray, List.nil_append, List.cons_append]
    gi_wp2_with fail
    refine ⟨trivial, ?_⟩
    refine (callsIn_wide.2 (CH.out _ (HL.out.next (by (repeat (first | exact Below.refl _ _ | refine Below.setCell ?_ (by first | omega | (simp; omega) | (simp; done)) _ | refine Below.alloc ?_ (by first | omega | (simp; omega) | (simp; done)) _ | refine Below.drew ?_ | refine below_drewN ?_ _ | refine Below.trans ?_ (Below.mono (by assumption) (by first | omega | (simp; omega) | (simp; done))))))) (HF.out.to (by (repeat (first | exact Below.refl _ _ | refine Below.setCell ?_ (by first | omega | (simp; omega) | (simp; done)) _ | refine Below.alloc ?_ (by first | omega | (simp; omega) | (simp; done)) _ | refine Below.drew ?_ | refine below_drewN ?_ _ | refine Below.trans ?_ (Below.mono (by assumption) (by first | omega | (simp; omega) | (simp; done))))))))).mono ?_
    rintro e W ⟨rfl, hb⟩
    have HB0 : Below w.heap.size w W := by (repeat (first | exact Below.refl _ _ | refine Below.setCell ?_ (by first | omega | (simp; omega) | (simp; done)) _ | refine Below.alloc ?_ (by first | omega | (simp; omega) | (simp; done)) _ | refine Below.drew ?_ | refine below_drewN ?_ _ | refine Below.trans ?_ (Below.mono (by assumption) (by first | omega | (simp; omega) | (simp; done)))))
    have a0 : W.cell? ⟨w.heap.size, 0, none⟩ = some (.slice f.fA f.far.length f.fC) := cell_keep hb (by simp [go_sem])
    have a1 : W.cell? ⟨w.heap.size, 1, none⟩ = some (vi f.slo) := cell_keep hb (by simp [go_sem])
    have a2 : W.cell? ⟨w.heap.size, 2, none⟩ = some (vi f.shi) := cell_keep hb (by simp [go_sem])
    have a3 : W.cell? ⟨w.heap.size, 3, none⟩ = some (.slice f.pA f.picks.length f.pC) := cell_keep hb (by simp [go_sem])
    have a4 : W.cell? ⟨w.heap.size, 4, none⟩ = some (vi f.carry) := cell_keep hb (by simp [go_sem])
    have a5 : W.cell? ⟨w.heap.size, 5, none⟩ = some (.slice f.sA f.slips.length f.sC) := cell_keep hb (by simp [go_sem])
    have zW := cell_lt a0
    clear hb
    gi_wp2_with fail
    refine ⟨trivial, ?_⟩
    refine (callsIn_wide.2 (loads_any f m _)).mono ?_
    rintro e w2 ⟨bF, bn, rfl, ⟨y1, y2⟩, hAt, hb2⟩
    have hz2 := hb2.size
    simp only [World.size_alloc] at hz2 y1 y2
    have bL : Boxed w2 W.heap.size llT (.slice none 0 0) := by
      refine (hb2.block W.heap.size (by simp)).trans ?_
      exact Boxed.new W llT (.slice none 0 0)
    have hB2 : Below w.heap.size w w2 := gr_trans HB0 (((Below.refl W.heap.size W).alloc (Nat.le_refl _) _).trans (hb2.mono (by simp)))
    have hzW := HB0.size
    clear hb2 a0 a1 a2 a3 a4 a5
    gi_wp2_with fail
    refine range_outerE rfl (by omega) (gf := 94) (lb := #[.pointer (some ⟨bF, 0, none⟩), .pointer (some ⟨bn, 0, none⟩)]) rfl trivial (enters_of Tryd.func94 (by kernel_rfl) rfl)
      (loads_seq f c m HC.out HC1.out.1 HC1.out.2 s hs HOK.out HTW.out HO.out _ (Int.self_le_toNat _) all HALL.out lsT (by decide) (by decide) (by decide) _ (by omega) bF bn w.heap.size W.heap.size w2 (by omega) (by omega) bL.lt (by omega) (by omega) hAt (HF.out.below hB2))
      (fun h k => KE.trans h k) (fun W l o o' hl h h1 _ => KE.turn _ W l o o' hl h h1) (Below.refl _ _) (fun _ => rfl)
      (fun pre X => (∃ v ts, ListIn X w2.heap.size W.heap.size ((Loads pre).map linesOf) v ts) ∧ KE lsT w2.heap.size W.heap.size w2 X)
      (OwnE.and (ownE_list bL.lt (fun pre => (Loads pre).map linesOf)) (ownE_ke (Nat.le_refl _) (Nat.le_refl _)))
      ⟨⟨_, [], bL, rfl, World.ownsRow_nil _ _ _ _, by simp⟩, KE.refl _ _ _ _⟩
      (fun x a' X => ∃ Bx, w2.heap.size ≤ Bx ∧ CellsBox X Bx 102 (x.1.map vi) ∧ a' = { tmps := #[f.val, vi m, .pointer (some ⟨w.heap.size, 0, none⟩), undef, .slice none 0 0, vi 0, vi 0, .pointer (some ⟨W.heap.size, 0, none⟩), .pointer (some ⟨Bx, 0, none⟩), f.val, vi m, vi 0, vi 0, .bool false, undef, f.val, f.val, vi m, loadsV bF bn, piecesV x.1, undef, undef, undef, undef, undef, undef, undef, undef, undef, undef, undef], defers := [] })
      (fun x a' _ X Y row hs hg hr => by obtain ⟨Bx, h1, h2, h3⟩ := hs; exact ⟨Bx, h1, (hg.block Bx h2.lt fun e => by obtain ⟨_, o, ho, hc⟩ := hr Bx e.symm; rw [show X.heap[Bx]? = _ from h2] at ho; cases ho; cases hc).trans h2, h3⟩)
      ?assign ?body ?done
    case assign =>
      rintro l pre ⟨x, hx, hon⟩ X K ⟨⟨v, ts, hv⟩, hS⟩ hK
      have hs9 := hS.size
      have hxl := hx.len
      obtain ⟨r0, r1, r2, r3, r4, r5, r6, r7, r8, r9, r10, r11, rfl⟩ := spread hxl
      gi_wp2_with fail
      have hb : ∀ o, Below X.heap.size X (X.alloc o) := fun o => (Below.refl X.heap.size X).alloc (Nat.le_refl _) o
      exact hK _ _ (keeps_of_below (hb _) _) (ke_of_below (hb _) (by omega)) ⟨⟨v, ts, hv.to (hb _)⟩, hS.trans (ke_of_below (hb _) (by omega))⟩ ⟨X.heap.size, by omega, CellsBox.new X _ [vi r0, vi r1, vi r2, vi r3, vi r4, vi r5, vi r6, vi r7, vi r8, vi r9, vi r10, vi r11], rfl⟩
    case body =>
      rintro l pre ⟨x, hx, hon⟩ a' X hl ⟨rr, hrr⟩ ⟨⟨v, ts, hv⟩, hS⟩ ⟨Bx, hBx, hbx, rfl⟩ hlt
      have hs9 := hS.size
      have dL := hv.box.cell
      have fL := hv.box.frozen
      have zL := hv.box.lt
      have hxl := hx.len
      have LINES := Lib.hid (fun W => pLines_any x hxl W)
      have HWANT : Hid ((Loads (pre ++ [⟨x, hx, hon⟩])).map linesOf = (Loads pre).map linesOf ++ [linesOf x]) := by unfold Hid; simp [Loads]
      have hpl : ts.length < all.length := by
        have := congrArg List.length hv.eq
        simp [Loads] at this
        omega
      have hRl := lines_small hxl
      obtain ⟨R, hR⟩ : ∃ R, R = linesOf x := ⟨_, rfl⟩
      rw [← hR] at LINES hRl HWANT
      obtain ⟨A0, c0, rfl, hn1, hn2⟩ := own_form hv.own
      have HV := Lib.hid hv
      obtain ⟨r0, r1, r2, r3, r4, r5, r6, r7, r8, r9, r10, r11, rfl⟩ := spread hxl
      obtain ⟨c0, c1, c2, c3, c4, c5, c6, c7, c8, c9, c10, c11⟩ := (hbx.arr rfl).cells
      have zB := hbx.lt
      have HBX := Lib.hid hbx
      clear hR hv hbx
      gi_wp2_with fail
      --BEGIN
      refine' wp_region_box_round (fun w' => CellsBox w' Bx 102 [vi r0, vi r1, vi r2, vi r3, vi r4, vi r5, vi r6, vi r7, vi r8, vi r9, vi r10, vi r11]) (fun a b h h' => h.keep h') rfl ?hno [1] 5 31 (by kernel_rfl) (by kernel_rfl) rfl (by kernel_rfl) (by kernel_rfl) rfl (by kernel_rfl) ?hl5 HBX.out ?hq5 ?hr5
      case hno => exact fun _ _ h => h
      case hl5 =>
        simp only [List.map_cons, List.map_nil, List.getD_cons_zero, List.getD_cons_succ]
        exact rfl
      case hq5 =>
        intro w0 hw0
        obtain ⟨c0, c1, c2, c3, c4, c5, c6, c7, c8, c9, c10, c11⟩ := (CellsBox.arr (p := [r0, r1, r2, r3, r4, r5, r6, r7, r8, r9, r10, r11]) rfl hw0).cells
        have zx := hw0.lt
        (repeat (go_big_quiet_step (fail)))
        exact wpQuiet_nil rfl
      clear c0 c1 c2 c3 c4 c5 c6 c7 c8 c9 c10 c11
      refine wpUp_two (i := 0) (j := 2) (by kernel_rfl) rfl rfl rfl rfl (fun wa u1 u2 Ka hKa => ?_) (fun wa u1 u2 Ka hKa => ?_)
      · have HVa := HV.out.to u1
        have da := HVa.box.cell
        have fa := HVa.box.frozen
        have za := HVa.box.lt
        clear HVa
        go_simp
        refine hKa _ _ u2 ?_
        clear da fa za
        refine wpUp_one (i := 2) (by kernel_rfl) rfl rfl (fun wc v1 v2 Kc hKc => ?_)
        go_simp
        refine (LINES.out _).mono ?_
        rintro e wl ⟨A, rfl, hRA, hRb, hbl⟩
        have HRA := Lib.hid hRA
        have HRB := Lib.hid hRb
        clear hRA hRb
        refine hKc _ _ (v2.keep hbl) ?_
        refine wpUp_one (i := 3) (by kernel_rfl) rfl rfl (fun wd x1 x2 Kd hKd => ?_)
        go_simp
        obtain ⟨V, hV⟩ : ∃ V, V = wd.alloc (.cells #[.slice A R.length R.length] lsT) := ⟨_, rfl⟩
        have hbV : Below wd.heap.size wd V := by rw [hV]; exact (Below.refl _ _).alloc (Nat.le_refl _) _
        have HCV : Hid (CellsBox V wd.heap.size lsT [.slice A R.length R.length]) := by unfold Hid; rw [hV]; exact CellsBox.new wd _ _
        have hVd : wd.alloc (.cells #[.slice A R.length R.length] 50) = V := hV.symm
        rw [hVd]
        clear hV hVd
        refine hKd _ _ (x2.keep hbV) ?_
        have HBc : Below X.heap.size X V := gr_trans (gr_trans (gr_trans (gr_trans u1 v1) hbl) x1) hbV
        have HTc : TourIn V ⟨A, R.length, R⟩ := TourIn.to ⟨HRA.out, fun bb hb => (HRB.out bb hb).2⟩ (gr_trans x1 hbV)
        have HRA := Lib.hid HTc.lines
        have HRBc := Lib.hid HTc.blk
        have HCB : Hid (CellsBox V wd.heap.size lsT [.slice A R.length R.length]) := HCV
        obtain ⟨b, hbb⟩ : ∃ b, b = wd.heap.size := ⟨_, rfl⟩
        rw [← hbb] at HCB
        try rw [← hbb]
        clear hbb
        refine wpUp_one (i := 4) (by kernel_rfl) rfl rfl (fun w7 g1 g2 K4 hK4 => ?_)
        have HB7 : Below X.heap.size X w7 := gr_trans HBc g1
        have HV7 := HV.out.to HB7
        have HT7 : TourIn w7 ⟨A, R.length, R⟩ := TourIn.to ⟨HRA.out, HRBc.out⟩ g1
        have hc7 := HCB.out.keep g1
        have hown7 := HV7.own
        have zw7 := HB7.size
        refine wp_append_own _ _ _ _ (by rfl) w2.heap.size lsT i0 _ 1 24 Tryd.underlying29 hi hy0 hy1 hy2 rfl (by omega) (.slice A0 ts.length c0) ts.length _ (by rfl) hown7 ⟨b, 0, none⟩ 1 1 [.slice A R.length R.length] (by rfl) (by rfl) (news1 (hc7.cell (j := 0) rfl)) (by simp [Value.oneCell']) (by unfold maxLen; omega) (by omega) (by omega) ?_
        intro v5 w8 hown8 hgrow _
        obtain ⟨A5, c5, rfl, -, -⟩ := own_form hown8
        simp only [Act.put, List.setIfInBounds_toArray, List.set_cons_zero, List.set_cons_succ]
        have hx8 := list_other HV7 hgrow Bx 102 _ (by decide) (HBX.out.keep HB7)
        refine hK4 _ _ hx8 ?_
        refine wpUp_one (i := 5) (by kernel_rfl) rfl rfl (fun w9 q1 q2 K5 hK5 => ?_)
        obtain ⟨P1, P2, P3⟩ := list_append (t := ⟨A, R.length, R⟩) (n₀ := w2.heap.size) HB7 HV7 HT7 hgrow hown8 q1 (Nat.le_refl _) (by omega)
        have hx9 := (hx8.keep q1).apart ⟨W.heap.size, 0, none⟩ (.slice A5 (ts.length + 1) c5) (by simp only; omega)
        have b9 := boxed_below (list_box HV7 hgrow) q1
        have d9 := b9.cell
        have f9 := b9.frozen
        have z9 := b9.lt
        have HP1 := Lib.hid P1
        have HP2 := Lib.hid P2
        have HP3 := Lib.hid P3
        have HX9 := Lib.hid hx9
        clear P1 P2 P3 hx9 b9 hown7 hown8 hgrow hx8 hc7 HT7 HV7
        go_simp
        refine hK5 _ _ HX9.out (wpUp_done (by kernel_rfl) (fun W9 s1 s2 => NoPanic.normal ?_))
        have HKE9 : KE lsT w2.heap.size W.heap.size X W9 := HP2.out.trans (ke_of_below s1 (by have := HP2.out.size; omega))
        refine ⟨(HP3.out _).trans (keeps_of_below s1 _), HKE9, ⟨.slice A5 (ts.length + 1) c5, ts ++ [⟨A, R.length, R⟩], ?_⟩, hS.trans HKE9⟩
        rw [HWANT.out]
        exact HP1.out.to s1
      · go_simp
        refine (LINES.out _).mono ?_
        rintro e wl ⟨A, rfl, hRA, hRb, hbl⟩
        have HRA := Lib.hid hRA
        have HRB := Lib.hid hRb
        clear hRA hRb
        refine hKa _ _ (u2.keep hbl) ?_
        refine wpUp_two (i := 0) (j := 3) (by kernel_rfl) rfl rfl rfl rfl (fun wb v1 v2 Kb hKb => ?_) (fun wb v1 v2 Kb hKb => ?_)
        · have HVa := HV.out.to (gr_trans (gr_trans u1 hbl) v1)
          have da := HVa.box.cell
          have fa := HVa.box.frozen
          have za := HVa.box.lt
          clear HVa
          go_simp
          refine hKb _ _ v2 ?_
          clear da fa za
          refine wpUp_one (i := 3) (by kernel_rfl) rfl rfl (fun wd x1 x2 Kd hKd => ?_)
          go_simp
          obtain ⟨V, hV⟩ : ∃ V, V = wd.alloc (.cells #[.slice A R.length R.length] lsT) := ⟨_, rfl⟩
          have hbV : Below wd.heap.size wd V := by rw [hV]; exact (Below.refl _ _).alloc (Nat.le_refl _) _
          have HCV : Hid (CellsBox V wd.heap.size lsT [.slice A R.length R.length]) := by unfold Hid; rw [hV]; exact CellsBox.new wd _ _
          have hVd : wd.alloc (.cells #[.slice A R.length R.length] 50) = V := hV.symm
          rw [hVd]
          clear hV hVd
          refine hKd _ _ (x2.keep hbV) ?_
          have HBc : Below X.heap.size X V := gr_trans (gr_trans (gr_trans (gr_trans u1 hbl) v1) x1) hbV
          have HTc : TourIn V ⟨A, R.length, R⟩ := TourIn.to ⟨HRA.out, fun bb hb => (HRB.out bb hb).2⟩ (gr_trans (gr_trans v1 x1) hbV)
          have HRA := Lib.hid HTc.lines
          have HRBc := Lib.hid HTc.blk
          have HCB : Hid (CellsBox V wd.heap.size lsT [.slice A R.length R.length]) := HCV
          obtain ⟨b, hbb⟩ : ∃ b, b = wd.heap.size := ⟨_, rfl⟩
          rw [← hbb] at HCB
          try rw [← hbb]
          clear hbb
          refine wpUp_one (i := 4) (by kernel_rfl) rfl rfl (fun w7 g1 g2 K4 hK4 => ?_)
          have HB7 : Below X.heap.size X w7 := gr_trans HBc g1
          have HV7 := HV.out.to HB7
          have HT7 : TourIn w7 ⟨A, R.length, R⟩ := TourIn.to ⟨HRA.out, HRBc.out⟩ g1
          have hc7 := HCB.out.keep g1
          have hown7 := HV7.own
          have zw7 := HB7.size
          refine wp_append_own _ _ _ _ (by rfl) w2.heap.size lsT i0 _ 1 24 Tryd.underlying29 hi hy0 hy1 hy2 rfl (by omega) (.slice A0 ts.length c0) ts.length _ (by rfl) hown7 ⟨b, 0, none⟩ 1 1 [.slice A R.length R.length] (by rfl) (by rfl) (news1 (hc7.cell (j := 0) rfl)) (by simp [Value.oneCell']) (by unfold maxLen; omega) (by omega) (by omega) ?_
          intro v5 w8 hown8 hgrow _
          obtain ⟨A5, c5, rfl, -, -⟩ := own_form hown8
          simp only [Act.put, List.setIfInBounds_toArray, List.set_cons_zero, List.set_cons_succ]
          have hx8 := list_other HV7 hgrow Bx 102 _ (by decide) (HBX.out.keep HB7)
          refine hK4 _ _ hx8 ?_
          refine wpUp_one (i := 5) (by kernel_rfl) rfl rfl (fun w9 q1 q2 K5 hK5 => ?_)
          obtain ⟨P1, P2, P3⟩ := list_append (t := ⟨A, R.length, R⟩) (n₀ := w2.heap.size) HB7 HV7 HT7 hgrow hown8 q1 (Nat.le_refl _) (by omega)
          have hx9 := (hx8.keep q1).apart ⟨W.heap.size, 0, none⟩ (.slice A5 (ts.length + 1) c5) (by simp only; omega)
          have b9 := boxed_below (list_box HV7 hgrow) q1
          have d9 := b9.cell
          have f9 := b9.frozen
          have z9 := b9.lt
          have HP1 := Lib.hid P1
          have HP2 := Lib.hid P2
          have HP3 := Lib.hid P3
          have HX9 := Lib.hid hx9
          clear P1 P2 P3 hx9 b9 hown7 hown8 hgrow hx8 hc7 HT7 HV7
          go_simp
          refine hK5 _ _ HX9.out (wpUp_done (by kernel_rfl) (fun W9 s1 s2 => NoPanic.normal ?_))
          have HKE9 : KE lsT w2.heap.size W.heap.size X W9 := HP2.out.trans (ke_of_below s1 (by have := HP2.out.size; omega))
          refine ⟨(HP3.out _).trans (keeps_of_below s1 _), HKE9, ⟨.slice A5 (ts.length + 1) c5, ts ++ [⟨A, R.length, R⟩], ?_⟩, hS.trans HKE9⟩
          rw [HWANT.out]
          exact HP1.out.to s1
        · go_simp
          obtain ⟨V, hV⟩ : ∃ V, V = wb.alloc (.cells #[.slice A R.length R.length] lsT) := ⟨_, rfl⟩
          have hbV : Below wb.heap.size wb V := by rw [hV]; exact (Below.refl _ _).alloc (Nat.le_refl _) _
          have HCV : Hid (CellsBox V wb.heap.size lsT [.slice A R.length R.length]) := by unfold Hid; rw [hV]; exact CellsBox.new wb _ _
          have hVd : wb.alloc (.cells #[.slice A R.length R.length] 50) = V := hV.symm
          rw [hVd]
          clear hV hVd
          refine hKb _ _ (v2.keep hbV) ?_
          refine wpUp_one (i := 0) (by kernel_rfl) rfl rfl (fun wd x1 x2 Kd hKd => ?_)
          have HVa := HV.out.to (gr_trans (gr_trans (gr_trans (gr_trans u1 hbl) v1) hbV) x1)
          have da := HVa.box.cell
          have fa := HVa.box.frozen
          have za := HVa.box.lt
          clear HVa
          go_simp
          refine hKd _ _ x2 ?_
          clear da fa za
          have HBc : Below X.heap.size X wd := gr_trans (gr_trans (gr_trans (gr_trans u1 hbl) v1) hbV) x1
          have HTc : TourIn wd ⟨A, R.length, R⟩ := TourIn.to ⟨HRA.out, fun bb hb => (HRB.out bb hb).2⟩ (gr_trans (gr_trans v1 hbV) x1)
          have HRA := Lib.hid HTc.lines
          have HRBc := Lib.hid HTc.blk
          have HCB : Hid (CellsBox wd wb.heap.size lsT [.slice A R.length R.length]) := HCV.out.keep x1
          obtain ⟨b, hbb⟩ : ∃ b, b = wb.heap.size := ⟨_, rfl⟩
          rw [← hbb] at HCB
          try rw [← hbb]
          clear hbb
          refine wpUp_one (i := 4) (by kernel_rfl) rfl rfl (fun w7 g1 g2 K4 hK4 => ?_)
          have HB7 : Below X.heap.size X w7 := gr_trans HBc g1
          have HV7 := HV.out.to HB7
          have HT7 : TourIn w7 ⟨A, R.length, R⟩ := TourIn.to ⟨HRA.out, HRBc.out⟩ g1
          have hc7 := HCB.out.keep g1
          have hown7 := HV7.own
          have zw7 := HB7.size
          refine wp_append_own _ _ _ _ (by rfl) w2.heap.size lsT i0 _ 1 24 Tryd.underlying29 hi hy0 hy1 hy2 rfl (by omega) (.slice A0 ts.length c0) ts.length _ (by rfl) hown7 ⟨b, 0, none⟩ 1 1 [.slice A R.length R.length] (by rfl) (by rfl) (news1 (hc7.cell (j := 0) rfl)) (by simp [Value.oneCell']) (by unfold maxLen; omega) (by omega) (by omega) ?_
          intro v5 w8 hown8 hgrow _
          obtain ⟨A5, c5, rfl, -, -⟩ := own_form hown8
          simp only [Act.put, List.setIfInBounds_toArray, List.set_cons_zero, List.set_cons_succ]
          have hx8 := list_other HV7 hgrow Bx 102 _ (by decide) (HBX.out.keep HB7)
          refine hK4 _ _ hx8 ?_
          refine wpUp_one (i := 5) (by kernel_rfl) rfl rfl (fun w9 q1 q2 K5 hK5 => ?_)
          obtain ⟨P1, P2, P3⟩ := list_append (t := ⟨A, R.length, R⟩) (n₀ := w2.heap.size) HB7 HV7 HT7 hgrow hown8 q1 (Nat.le_refl _) (by omega)
          have hx9 := (hx8.keep q1).apart ⟨W.heap.size, 0, none⟩ (.slice A5 (ts.length + 1) c5) (by simp only; omega)
          have b9 := boxed_below (list_box HV7 hgrow) q1
          have d9 := b9.cell
          have f9 := b9.frozen
          have z9 := b9.lt
          have HP1 := Lib.hid P1
          have HP2 := Lib.hid P2
          have HP3 := Lib.hid P3
          have HX9 := Lib.hid hx9
          clear P1 P2 P3 hx9 b9 hown7 hown8 hgrow hx8 hc7 HT7 HV7
          go_simp
          refine hK5 _ _ HX9.out (wpUp_done (by kernel_rfl) (fun W9 s1 s2 => NoPanic.normal ?_))
          have HKE9 : KE lsT w2.heap.size W.heap.size X W9 := HP2.out.trans (ke_of_below s1 (by have := HP2.out.size; omega))
          refine ⟨(HP3.out _).trans (keeps_of_below s1 _), HKE9, ⟨.slice A5 (ts.length + 1) c5, ts ++ [⟨A, R.length, R⟩], ?_⟩, hS.trans HKE9⟩
          rw [HWANT.out]
          exact HP1.out.to s1
    case done =>
      rintro D xs X hD hxs ⟨⟨v, ts, hv⟩, hKE⟩ hDf
      rw [hxs] at hv
      have hcl := hv.box.cell
      have hlts : ts.length = all.length := by
        have := congrArg List.length hv.eq
        simpa using this
      have hv2 := hv.put (.deferred none) hDf rfl
      have hsz : (X.putObj D (.deferred none)).heap.size = X.heap.size := by simp
      obtain ⟨A5, c5, rfl, h1, h2, hrows⟩ := own_rows (m := ts.map STour.cells) (cells_tour ts) (by rw [cells_flat]; exact hv2.own) (by simp) (by omega)
      have HR := Lib.hid (tours_rows hrows hv2.each)
      have HEQ := Lib.hid hv2.eq
      have HBF : Hid (Below w.heap.size w (X.putObj D (.deferred none))) := (hB2.trans (hKE.spare.below (by omega) (by omega))).trans (belowK_b (w := w) (Nat.le_refl _) X D _ _ (by omega) hDf rfl rfl)
      clear hv hv2 hrows hsz
      gi_wp2
      refine ⟨by simp, .inl ⟨_, _, rfl, run_takeDeferred hDf, ?_⟩⟩
      exact ⟨_, results_tmp2 rfl _ _ _, A5, ts, by rw [hlts]; rfl, HR.out, HEQ.out, HBF.out⟩
end Go.Proofs.YtomgnpfpaodpiaaDoor
/- Contract of works: the chapter's examples. -/
namespace Go.Proofs.YtomgnpfpaodpiaaDoor
open Go Go.RowKit
set_option maxHeartbeats 8000000
theorem one_tour {ts : List STour} {l : List SLine} (h : ts.map STour.lines = [l]) : ∃ tA tc, ts = [⟨tA, tc, l⟩] := by
  cases ts with
  | nil => simp at h
  | cons t ts =>
    cases ts with
    | nil => simp at h; exact ⟨t.ad, t.cap, by rw [← h]⟩
    | cons _ _ => simp at h
section
variable (a0 a1 a2 a3 a4 a5 a6 : Option Addr)
theorem w_tours (w : World) (hl : Lim w) (h : FloorAt w w.heap.size (chap a0 a1 a2 a3 a4 a5 a6)) :
    Calls Tryd.prog 22 #[(chap a0 a1 a2 a3 a4 a5 a6).val, vi 2] w fun e w' => ∃ A tA tc, e = .returned (.tuple #[.slice A 1 1, vi 0]) ∧ ToursAt w' w'.heap.size A 1 [⟨tA, tc, [⟨0, 1⟩]⟩] ∧ Below w.heap.size w w' := by
  refine (Tours_any _ 2 w hl h).mono ?_
  rintro e w' ⟨A, ts, rfl, hT, hts, hb⟩
  rw [(ch_tours a0 a1 a2 a3 a4 a5 a6).1] at hts
  rw [(ch_tours a0 a1 a2 a3 a4 a5 a6).2]
  obtain ⟨tA, tc, rfl⟩ := one_tour hts
  exact ⟨A, tA, tc, rfl, hT, hb⟩
theorem w_is (t0 t1 A : Option Addr) (w : World) (hl : Lim w) (h : FloorAt w w.heap.size (chap a0 a1 a2 a3 a4 a5 a6)) (ht : ToursAt w w.heap.size A 2 [⟨t0, 2, [⟨0, 1⟩, ⟨2, 3⟩]⟩, ⟨t1, 1, [⟨0, 1⟩]⟩]) :
    Calls Tryd.prog 14 #[(chap a0 a1 a2 a3 a4 a5 a6).val, vi 0, .slice A 2 2] w fun e w' => e = .returned (.tuple #[.bool true, vi 0]) ∧ Below w.heap.size w w' := by
  have := IsTours_any _ 0 A 2 _ w hl h ht
  rw [ch_is, (ch_takes a0 a1 a2 a3 a4 a5 a6).2] at this
  exact this
theorem w_done (t0 t1 A : Option Addr) (w : World) (hl : Lim w) (h : FloorAt w w.heap.size (chap a0 a1 a2 a3 a4 a5 a6)) (ht : RosterAt w w.heap.size A 2 [⟨t0, 2, [2, 1]⟩, ⟨t1, 2, [0, 3]⟩]) :
    Calls Tryd.prog 25 #[(chap a0 a1 a2 a3 a4 a5 a6).val, .slice A 2 2] w fun e w' => ∃ R, e = .returned (.tuple #[.slice R 4 4, vi 0]) ∧ RowsAt w' w'.heap.size 2 R 4 ([(140, 252), (95, 188), (25, 48), (365, 654)].map spanC) ∧ Below w.heap.size w w' := by
  have := Done_any _ A 2 _ w hl h ht
  rw [ch_done] at this
  exact this
theorem w_roster (w : World) (hl : Lim w) (h : FloorAt w w.heap.size (chap a0 a1 a2 a3 a4 a5 a6)) :
    Calls Tryd.prog 28 #[(chap a0 a1 a2 a3 a4 a5 a6).val] w fun e w' => ∃ A, e = .returned (.tuple #[.slice A 2 2, vi 0]) ∧ Below w.heap.size w w' := by
  refine (Roster_any _ w hl h).mono ?_
  rintro e w' ⟨A, ts, rfl, hT, hts, hb⟩
  have h1 := congrArg List.length hts
  rw [List.length_map, List.length_map, (ch_roster a0 a1 a2 a3 a4 a5 a6).1] at h1
  rw [(ch_roster a0 a1 a2 a3 a4 a5 a6).2, h1]
  exact ⟨A, rfl, hb⟩
theorem w_late (w : World) (hl : Lim w) (h : FloorAt w w.heap.size (chap a0 a1 a2 a3 a4 a5 a6)) :
    Calls Tryd.prog 30 #[(chap a0 a1 a2 a3 a4 a5 a6).val, vi 1] w fun e w' => ∃ A, e = .returned (.tuple #[.slice A 1 1, vi 0]) ∧ IntsAt w' w'.heap.size A 1 [0] ∧ Below w.heap.size w w' := by
  have := Late_any _ 1 w hl h
  rw [ch_late] at this
  exact this
theorem w_spare (w : World) (hl : Lim w) (h : FloorAt w w.heap.size (chap a0 a1 a2 a3 a4 a5 a6)) :
    Calls Tryd.prog 33 #[(chap a0 a1 a2 a3 a4 a5 a6).val, vi 3] w fun e w' => e = .returned (.tuple #[vi 542, vi 0]) ∧ Below w.heap.size w w' := by
  refine (Spare_any _ 3 w hl h).mono ?_
  rintro e w' ⟨v, c, rfl, hs, hb⟩
  obtain ⟨rfl, rfl⟩ := ch_spare a0 a1 a2 a3 a4 a5 a6 hs
  exact ⟨rfl, hb⟩
end
set_option maxRecDepth 100000 in
theorem works_any (w : World) (hl : Lim w) :
    Calls Tryd.prog 23 #[] w fun e w' => e = .returned (.bool true) ∧ Below w.heap.size w w' := by
  have HL := Lib.hid hl
  clear hl
  go_enter Tryd.func23, Tryd.ntmps23
  go_wp2_with fail
  refine (floor_any _).mono ?_
  rintro e w1 ⟨a0, a1, a2, a3, a4, a5, a6, rfl, hF, hb⟩
  have HB : Below w.heap.size w w1 := hb
  clear hb
  have HF := Lib.hid hF
  clear hF
  go_wp2_with fail
  refine (Steps_any (chap a0 a1 a2 a3 a4 a5 a6) 3 _ (HL.out.next HB) HF.out).mono ?_
  rintro e w2 ⟨rfl, hb⟩
  rw [(ch_steps a0 a1 a2 a3 a4 a5 a6).1, (ch_steps a0 a1 a2 a3 a4 a5 a6).2]
  replace HB : Below w.heap.size w w2 := HB.trans (hb.mono HB.size)
  replace HF := Lib.hid (HF.out.to hb)
  clear hb
  go_wp2_with fail
  clear HF
  refine (floor_any _).mono ?_
  rintro e w3 ⟨a0, a1, a2, a3, a4, a5, a6, rfl, hF, hb⟩
  replace HB : Below w.heap.size w w3 := HB.trans (hb.mono HB.size)
  clear hb
  have HF := Lib.hid hF
  clear hF
  go_wp2_with fail
  refine (Takes_any (chap a0 a1 a2 a3 a4 a5 a6) 0 _ (HL.out.next HB) HF.out).mono ?_
  rintro e w4 ⟨rfl, hb⟩
  rw [(ch_takes a0 a1 a2 a3 a4 a5 a6).1, (ch_takes a0 a1 a2 a3 a4 a5 a6).2]
  replace HB : Below w.heap.size w w4 := HB.trans (hb.mono HB.size)
  replace HF := Lib.hid (HF.out.to hb)
  clear hb
  go_wp2_with fail
  clear HF
  refine (floor_any _).mono ?_
  rintro e w5 ⟨a0, a1, a2, a3, a4, a5, a6, rfl, hF, hb⟩
  have HS : CellsBox w5 (w4.heap.size) 24 [vi 140, vi 252] := by
    have h := (CellsBox.new w4 24 [vi 140, vi 252]).keep hb
    first | exact h | simpa only [World.size_alloc] using h
  replace hb : Below w4.heap.size w4 w5 := by
    exact gr_trans (((Below.refl w4.heap.size w4).alloc (by first | exact Nat.le_refl _ | (simp only [World.size_alloc]; omega)) _)) hb
  replace HB : Below w.heap.size w w5 := HB.trans (hb.mono HB.size)
  have HS := Lib.hid HS
  clear hb
  have HF := Lib.hid hF
  clear hF
  go_wp2_with fail
  refine (w_tours a0 a1 a2 a3 a4 a5 a6 _ (HL.out.next HB) HF.out).mono ?_
  rintro e w6 ⟨A, tA, tc, rfl, hT, hb⟩
  replace HB : Below w.heap.size w w6 := HB.trans (hb.mono HB.size)
  replace HS := Lib.hid (HS.out.keep hb)
  replace HF := Lib.hid (HF.out.to hb)
  clear hb
  have HT := Lib.hid hT
  clear hT
  go_wp2_with fail
  clear HF
  refine (floor_any _).mono ?_
  rintro e w7 ⟨a0, a1, a2, a3, a4, a5, a6, rfl, hF, hb⟩
  replace HB : Below w.heap.size w w7 := HB.trans (hb.mono HB.size)
  replace HS := Lib.hid (HS.out.keep hb)
  replace HT := Lib.hid (HT.out.to hb)
  clear hb
  have HF := Lib.hid hF
  clear hF
  go_wp2_with fail
  refine (of_is _ _ _).mono ?_
  rintro e w8 ⟨rfl, hb⟩
  replace HB : Below w.heap.size w w8 := HB.trans (hb.mono HB.size)
  replace HS := Lib.hid (HS.out.keep hb)
  replace HT := Lib.hid (HT.out.to hb)
  replace HF := Lib.hid (HF.out.to hb)
  clear hb
  go_wp2_with fail
  refine (of_is _ _ _).mono ?_
  rintro e w9 ⟨rfl, hb⟩
  replace HB : Below w.heap.size w w9 := HB.trans (hb.mono HB.size)
  replace HS := Lib.hid (HS.out.keep hb)
  replace HT := Lib.hid (HT.out.to hb)
  replace HF := Lib.hid (HF.out.to hb)
  clear hb
  go_wp2_with fail
  refine (of_is _ _ _).mono ?_
  rintro e w10 ⟨rfl, hb⟩
  have H1 : CellsBox w10 (w9.heap.size) 64 [vi 0, vi 1, vi 2, vi 3] := by
    have h := (CellsBox.new w9 64 [vi 0, vi 1, vi 2, vi 3]).keep hb
    first | exact h | simpa only [World.size_alloc] using h
  replace hb : Below w9.heap.size w9 w10 := by
    exact gr_trans (((Below.refl w9.heap.size w9).alloc (by first | exact Nat.le_refl _ | (simp only [World.size_alloc]; omega)) _)) hb
  replace HB : Below w.heap.size w w10 := HB.trans (hb.mono HB.size)
  replace HS := Lib.hid (HS.out.keep hb)
  replace HT := Lib.hid (HT.out.to hb)
  replace HF := Lib.hid (HF.out.to hb)
  have H1 := Lib.hid H1
  clear hb
  go_wp2_with fail
  obtain ⟨V, hV⟩ : ∃ V, V = ((w10.alloc (.cells #[vi 0, vi 1] 64)).alloc (.cells #[.slice (some ⟨w9.heap.size, 0, none⟩) 2 2, .slice (some ⟨w10.heap.size, 0, none⟩) 1 1] 50)) := ⟨_, rfl⟩
  have hbV : Below w10.heap.size w10 V := by rw [hV]; exact ((Below.refl w10.heap.size w10).alloc (Nat.le_refl _) _).alloc (by simp only [World.size_alloc]; omega) _
  have hTV : ToursAt V V.heap.size (some ⟨w10.heap.size + 1, 0, none⟩) 2 [⟨some ⟨w9.heap.size, 0, none⟩, 2, [⟨0, 1⟩, ⟨2, 3⟩]⟩, ⟨some ⟨w10.heap.size, 0, none⟩, 1, [⟨0, 1⟩]⟩] := by
    have b1 := H1.out.keep hbV
    have b2 : CellsBox V w10.heap.size 64 [vi 0, vi 1] := by rw [hV]; exact (CellsBox.new w10 _ _).alloc _
    have b3 : CellsBox V (w10.heap.size + 1) 50 [.slice (some ⟨w9.heap.size, 0, none⟩) 2 2, .slice (some ⟨w10.heap.size, 0, none⟩) 1 1] := by
      rw [hV]
      have h := CellsBox.new (w10.alloc (.cells #[vi 0, vi 1] 64)) 50 [.slice (some ⟨w9.heap.size, 0, none⟩) 2 2, .slice (some ⟨w10.heap.size, 0, none⟩) 1 1]
      rwa [World.size_alloc] at h
    refine ⟨⟨by simp, by simp, by simp, row_of_box b3 (by intro r hr; obtain ⟨p, _, rfl⟩ := List.mem_map.1 hr; rfl)⟩, fun t ht => ?_⟩
    simp only [List.mem_cons, List.not_mem_nil, or_false] at ht
    rcases ht with rfl | rfl
    · exact ⟨by simp, by simp, by simp, row_of_box b1 (by intro r hr; obtain ⟨p, _, rfl⟩ := List.mem_map.1 hr; rfl)⟩
    · exact ⟨by simp, by simp, by simp, row_of_box b2 (by intro r hr; obtain ⟨p, _, rfl⟩ := List.mem_map.1 hr; rfl)⟩
  rw [← hV]
  replace HB : Below w.heap.size w V := HB.trans (hbV.mono HB.size)
  replace HS := Lib.hid (HS.out.keep hbV)
  replace HT := Lib.hid (HT.out.to hbV)
  replace HF := Lib.hid (HF.out.to hbV)
  replace H1 := Lib.hid (H1.out.keep hbV)
  clear hV hbV H1
  refine (w_is a0 a1 a2 a3 a4 a5 a6 _ _ _ _ (HL.out.next HB) HF.out hTV).mono ?_
  rintro e w11 ⟨rfl, hb⟩
  replace HB : Below w.heap.size w w11 := HB.trans (hb.mono HB.size)
  replace HS := Lib.hid (HS.out.keep hb)
  replace HT := Lib.hid (HT.out.to hb)
  replace HF := Lib.hid (HF.out.to hb)
  clear hb hTV
  go_wp2_with fail
  obtain ⟨tb, to_, rfl, htb, t0⟩ := row1 (k := 0) HT.out.rows.row rfl rfl
  obtain ⟨lb, lo_, rfl, hlb, l0, l1⟩ := row2 (k := 0) (HT.out.each ⟨tA, tc, [⟨0, 1⟩]⟩ (by simp)).row rfl rfl
  replace t0 : w11.cell? ⟨tb, to_, none⟩ = some (.slice (some ⟨lb, lo_, none⟩) 1 tc) := t0
  replace l0 : w11.cell? ⟨lb, lo_, none⟩ = some (vi 0) := by simpa using l0
  replace l1 : w11.cell? ⟨lb, lo_ + 1, none⟩ = some (vi 1) := by simpa using l1
  have s0 := HS.out.cell (j := 0) rfl
  have s1 := HS.out.cell (j := 1) rfl
  have zs := HS.out.lt
  refine wp_region_grow_lit (by kernel_rfl) (by kernel_rfl) ?_
  (repeat (go_big_quiet_step (first | (go_at_call 44; refine Calls.grow_of (to_any _ _ _)) | (go_at_call 51; refine Calls.grow_of (of_is _ _ _)))))
  refine wpQuiet_nil ?_
  intro w12 hw1
  have hb := below_of_plus hw1
  replace HB : Below w.heap.size w w12 := HB.trans (hb.mono HB.size)
  clear hw1 hb HS HT HF s0 s1 zs t0 l0 l1 htb hlb
  go_wp2_with fail
  refine (floor_any _).mono ?_
  rintro e w13 ⟨a0, a1, a2, a3, a4, a5, a6, rfl, hF, hb⟩
  replace HB : Below w.heap.size w w13 := HB.trans (hb.mono HB.size)
  clear hb
  have HF := Lib.hid hF
  clear hF
  go_wp2_with fail
  obtain ⟨V, hV⟩ : ∃ V, V = (((w13.alloc (.cells #[vi 2, vi 1] 3)).alloc (.cells #[vi 0, vi 3] 3)).alloc (.cells #[.slice (some ⟨w13.heap.size, 0, none⟩) 2 2, .slice (some ⟨w13.heap.size + 1, 0, none⟩) 2 2] 22)) := ⟨_, rfl⟩
  have hbV : Below w13.heap.size w13 V := by rw [hV]; exact (((Below.refl w13.heap.size w13).alloc (Nat.le_refl _) _).alloc (by simp only [World.size_alloc]; omega) _).alloc (by simp only [World.size_alloc]; omega) _
  have hTV : RosterAt V V.heap.size (some ⟨w13.heap.size + 1 + 1, 0, none⟩) 2 [⟨some ⟨w13.heap.size, 0, none⟩, 2, [2, 1]⟩, ⟨some ⟨w13.heap.size + 1, 0, none⟩, 2, [0, 3]⟩] := by
    have b1 : CellsBox V w13.heap.size 3 [vi 2, vi 1] := by rw [hV]; exact ((CellsBox.new w13 _ _).alloc _).alloc _
    have b2 : CellsBox V (w13.heap.size + 1) 3 [vi 0, vi 3] := by
      rw [hV]
      have h := (CellsBox.new (w13.alloc (.cells #[vi 2, vi 1] 3)) 3 [vi 0, vi 3]).alloc (.cells #[.slice (some ⟨w13.heap.size, 0, none⟩) 2 2, .slice (some ⟨w13.heap.size + 1, 0, none⟩) 2 2] 22)
      rwa [World.size_alloc] at h
    have b3 : CellsBox V (w13.heap.size + 1 + 1) 22 [.slice (some ⟨w13.heap.size, 0, none⟩) 2 2, .slice (some ⟨w13.heap.size + 1, 0, none⟩) 2 2] := by
      rw [hV]
      have h := CellsBox.new ((w13.alloc (.cells #[vi 2, vi 1] 3)).alloc (.cells #[vi 0, vi 3] 3)) 22 [.slice (some ⟨w13.heap.size, 0, none⟩) 2 2, .slice (some ⟨w13.heap.size + 1, 0, none⟩) 2 2]
      rwa [World.size_alloc, World.size_alloc] at h
    refine ⟨⟨by simp, by simp, by simp, row_of_box b3 (by intro r hr; obtain ⟨p, _, rfl⟩ := List.mem_map.1 hr; rfl)⟩, fun t ht => ?_⟩
    simp only [List.mem_cons, List.not_mem_nil, or_false] at ht
    rcases ht with rfl | rfl
    · exact ⟨by simp, by simp, by simp, row_of_box b1 (by intro r hr; obtain ⟨p, _, rfl⟩ := List.mem_map.1 hr; rfl)⟩
    · exact ⟨by simp, by simp, by simp, row_of_box b2 (by intro r hr; obtain ⟨p, _, rfl⟩ := List.mem_map.1 hr; rfl)⟩
  rw [← hV]
  replace HB : Below w.heap.size w V := HB.trans (hbV.mono HB.size)
  replace HF := Lib.hid (HF.out.to hbV)
  clear hV hbV
  refine (w_done a0 a1 a2 a3 a4 a5 a6 _ _ _ _ (HL.out.next HB) HF.out hTV).mono ?_
  rintro e w14 ⟨dR, rfl, hD, hb⟩
  replace HB : Below w.heap.size w w14 := HB.trans (hb.mono HB.size)
  clear hb hTV HF
  have HD := Lib.hid hD
  clear hD
  go_wp2_with fail
  refine (floor_any _).mono ?_
  rintro e w15 ⟨a0, a1, a2, a3, a4, a5, a6, rfl, hF, hb⟩
  replace HB : Below w.heap.size w w15 := HB.trans (hb.mono HB.size)
  replace HD := Lib.hid (HD.out.to hb)
  clear hb
  have HF := Lib.hid hF
  clear hF
  go_wp2_with fail
  refine (w_roster a0 a1 a2 a3 a4 a5 a6 _ (HL.out.next HB) HF.out).mono ?_
  rintro e w16 ⟨rA, rfl, hb⟩
  replace HB : Below w.heap.size w w16 := HB.trans (hb.mono HB.size)
  replace HD := Lib.hid (HD.out.to hb)
  replace HF := Lib.hid (HF.out.to hb)
  clear hb
  clear HF
  go_wp2_with fail
  refine (floor_any _).mono ?_
  rintro e w17 ⟨a0, a1, a2, a3, a4, a5, a6, rfl, hF, hb⟩
  replace HB : Below w.heap.size w w17 := HB.trans (hb.mono HB.size)
  replace HD := Lib.hid (HD.out.to hb)
  clear hb
  have HF := Lib.hid hF
  clear hF
  go_wp2_with fail
  refine (w_late a0 a1 a2 a3 a4 a5 a6 _ (HL.out.next HB) HF.out).mono ?_
  rintro e w18 ⟨lA, rfl, hI, hb⟩
  replace HB : Below w.heap.size w w18 := HB.trans (hb.mono HB.size)
  replace HD := Lib.hid (HD.out.to hb)
  replace HF := Lib.hid (HF.out.to hb)
  clear hb
  clear HF
  have HI := Lib.hid hI
  clear hI
  go_wp2_with fail
  refine (floor_any _).mono ?_
  rintro e w19 ⟨a0, a1, a2, a3, a4, a5, a6, rfl, hF, hb⟩
  replace HB : Below w.heap.size w w19 := HB.trans (hb.mono HB.size)
  replace HD := Lib.hid (HD.out.to hb)
  replace HI := Lib.hid (HI.out.to hb)
  clear hb
  have HF := Lib.hid hF
  clear hF
  go_wp2_with fail
  refine (w_spare a0 a1 a2 a3 a4 a5 a6 _ (HL.out.next HB) HF.out).mono ?_
  rintro e w20 ⟨rfl, hb⟩
  replace HB : Below w.heap.size w w20 := HB.trans (hb.mono HB.size)
  replace HD := Lib.hid (HD.out.to hb)
  replace HI := Lib.hid (HI.out.to hb)
  replace HF := Lib.hid (HF.out.to hb)
  clear hb
  clear HF
  go_wp2_with fail
  refine (to_any _ _ _).mono ?_
  rintro e w21 ⟨rfl, hb⟩
  replace HB : Below w.heap.size w w21 := HB.trans (hb.mono HB.size)
  replace HD := Lib.hid (HD.out.to hb)
  replace HI := Lib.hid (HI.out.to hb)
  clear hb
  go_wp2_with fail
  refine (to_any _ _ _).mono ?_
  rintro e w22 ⟨rfl, hb⟩
  replace HB : Below w.heap.size w w22 := HB.trans (hb.mono HB.size)
  replace HD := Lib.hid (HD.out.to hb)
  replace HI := Lib.hid (HI.out.to hb)
  clear hb
  go_wp2_with fail
  refine (to_any _ _ _).mono ?_
  rintro e w23 ⟨rfl, hb⟩
  replace HB : Below w.heap.size w w23 := HB.trans (hb.mono HB.size)
  replace HD := Lib.hid (HD.out.to hb)
  replace HI := Lib.hid (HI.out.to hb)
  clear hb
  go_wp2_with fail
  refine (to_any _ _ _).mono ?_
  rintro e w24 ⟨rfl, hb⟩
  replace HB : Below w.heap.size w w24 := HB.trans (hb.mono HB.size)
  replace HD := Lib.hid (HD.out.to hb)
  replace HI := Lib.hid (HI.out.to hb)
  clear hb
  go_wp2_with fail
  have hbA : Below w24.heap.size w24 (w24.alloc (.cells #[vi 140, vi 252, vi 95, vi 188, vi 25, vi 48, vi 365, vi 654] 24)) := (Below.refl _ _).alloc (Nat.le_refl _) _
  have HB1 : Below w.heap.size w (w24.alloc (.cells #[vi 140, vi 252, vi 95, vi 188, vi 25, vi 48, vi 365, vi 654] 24)) := HB.trans (hbA.mono HB.size)
  have hsp : RowsAt (w24.alloc (.cells #[vi 140, vi 252, vi 95, vi 188, vi 25, vi 48, vi 365, vi 654] 24)) (w24.alloc (.cells #[vi 140, vi 252, vi 95, vi 188, vi 25, vi 48, vi 365, vi 654] 24)).heap.size 2 (some ⟨w24.heap.size, 0, none⟩) 4 ([((140 : Int), (252 : Int)), (95, 188), (25, 48), (365, 654)].map spanC) := ⟨by simp, by simp, by simp, row_of_box (CellsBox.new w24 24 [vi 140, vi 252, vi 95, vi 188, vi 25, vi 48, vi 365, vi 654]) (by intro r hr; obtain ⟨p, _, rfl⟩ := List.mem_map.1 hr; rfl)⟩
  refine (matchSpans_free dR (some ⟨w24.heap.size, 0, none⟩) 4 4 [((140 : Int), (252 : Int)), (95, 188), (25, 48), (365, 654)] [((140 : Int), (252 : Int)), (95, 188), (25, 48), (365, 654)] _ (HD.out.to hbA) hsp).mono ?_
  rintro e w25 ⟨rfl, hb⟩
  rw [show decide ([((140 : Int), (252 : Int)), (95, 188), (25, 48), (365, 654)] = [((140 : Int), (252 : Int)), (95, 188), (25, 48), (365, 654)]) = true by decide]
  replace HB : Below w.heap.size w w25 := HB1.trans (hb.mono HB1.size)
  replace HI := Lib.hid ((HI.out.to hbA).to hb)
  clear hb hbA HB1 hsp HD
  go_wp2_with fail
  have hbA : Below w25.heap.size w25 (w25.alloc (.cells #[vi 0] 3)) := (Below.refl _ _).alloc (Nat.le_refl _) _
  have HB1 : Below w.heap.size w (w25.alloc (.cells #[vi 0] 3)) := HB.trans (hbA.mono HB.size)
  have hsp : IntsAt (w25.alloc (.cells #[vi 0] 3)) (w25.alloc (.cells #[vi 0] 3)).heap.size (some ⟨w25.heap.size, 0, none⟩) 1 [0] := ⟨by simp, by simp, by simp, row_of_box (CellsBox.new w25 3 [vi 0]) (by intro r hr; obtain ⟨p, _, rfl⟩ := List.mem_map.1 hr; rfl)⟩
  refine (match_free lA (some ⟨w25.heap.size, 0, none⟩) 1 1 [0] [0] _ (HI.out.to hbA) hsp).mono ?_
  rintro e w26 ⟨rfl, hb⟩
  rw [show decide ([(0 : Int)] = [0]) = true by decide]
  replace HB : Below w.heap.size w w26 := HB1.trans (hb.mono HB1.size)
  clear hb hbA HB1 hsp HI
  go_wp2_with fail
  go_ret
  exact ⟨rfl, HB⟩
end Go.Proofs.YtomgnpfpaodpiaaDoor
/- Twelve floors and a list of them, block by block: what a store leaves as it was. -/
namespace Go.Proofs.YtomgnpfpaodpiaaDoor
open Go Go.RowKit
set_option maxHeartbeats 4000000
abbrev bk (BS : List (List Nat)) (i j : Nat) : Nat := (BS.getD i []).getD j 0
abbrev upd (g : Nat → List Value) (i : Nat) (l : List Value) : Nat → List Value := fun j => if j = i then l else g j
abbrev sz (SS : List Nat) (i : Nat) : Nat := SS.getD i 0
abbrev zeroC : List Value := [.slice none 0 0, vi 0, vi 0, .slice none 0 0, vi 0, .slice none 0 0]
abbrev flC (b0 b1 b6 : Nat) : List Value := [.slice (pt b0) 3 3, vi 1, vi 2, .slice (pt b1) 3 3, vi 4, .slice (pt b6) 4 4]
/-- the floors, and the list bB of them -/
structure KB (w : World) (BS : List (List Nat)) (SS : List Nat) (bB : Nat) (far pick sl : Nat → List Value) (cs : List Value) (X : World) : Prop where
  fl : ∀ i, i < 12 → ChapIn (sz SS i) (sz SS (i + 1)) (bk BS i 0) (bk BS i 1) (bk BS i 2) (bk BS i 3) (bk BS i 4) (bk BS i 5) (bk BS i 6) (far i) (pick i) (sl i) X
  arr : CellsBox X bB 28 cs
  mono : ∀ i j, i ≤ j → j ≤ 12 → sz SS i ≤ sz SS j
  top : sz SS 12 ≤ bB
  low : w.heap.size ≤ sz SS 0
  below : Below w.heap.size w X
variable {w X Y : World} {BS : List (List Nat)} {SS : List Nat} {bB : Nat} {far pick sl : Nat → List Value} {cs : List Value}
theorem KB.keep (h : KB w BS SS bB far pick sl cs X) (hb : Below X.heap.size X Y) : KB w BS SS bB far pick sl cs Y :=
  ⟨fun i hi => (h.fl i hi).keep hb, h.arr.keep hb, h.mono, h.top, h.low, h.below.trans (hb.mono h.below.size)⟩
theorem KB.arr_ (h : KB w BS SS bB far pick sl cs X) (k : Nat) (v : Value) : KB w BS SS bB far pick sl (cs.set k v) (X.setCell ⟨bB, k, none⟩ v) := by
  have h0 := h.mono 0 12 (by omega) (by omega)
  have ht := h.top
  have hl := h.low
  exact ⟨fun i hi => (h.fl i hi).apart _ v (.inr (by have := h.mono (i + 1) 12 (by omega) (by omega); simp only; omega)), h.arr.store k v, h.mono, h.top, h.low, h.below.setCell (by simp only; omega) v⟩
theorem KB.other (h : KB w BS SS bB far pick sl cs X) {i b k : Nat} {v : Value} (hi : i < 12) (h1 : sz SS i < b) (h2 : b < sz SS (i + 1)) : (∀ j, j < 12 → j ≠ i → ChapIn (sz SS j) (sz SS (j + 1)) (bk BS j 0) (bk BS j 1) (bk BS j 2) (bk BS j 3) (bk BS j 4) (bk BS j 5) (bk BS j 6) (far j) (pick j) (sl j) (X.setCell ⟨b, k, none⟩ v)) ∧ CellsBox (X.setCell ⟨b, k, none⟩ v) bB 28 cs ∧ Below w.heap.size w (X.setCell ⟨b, k, none⟩ v) := by
  have m0 := h.mono 0 i (by omega) (by omega)
  have m1 := h.mono (i + 1) 12 (by omega) (by omega)
  have ht := h.top
  have hl := h.low
  refine ⟨fun j hj hne => (h.fl j hj).apart _ v ?_, h.arr.apart _ v (by simp only; omega), h.below.setCell (by simp only; omega) v⟩
  simp only
  rcases Nat.lt_or_gt_of_ne hne with hlt | hgt
  · right
    have := h.mono (j + 1) i (by omega) (by omega)
    omega
  · left
    have := h.mono (i + 1) j (by omega) (by omega)
    omega
theorem KB.far_ (h : KB w BS SS bB far pick sl cs X) (i : Nat) (hi : i < 12) (k : Nat) (v : Value) : KB w BS SS bB (upd far i ((far i).set k v)) pick sl cs (X.setCell ⟨bk BS i 0, k, none⟩ v) := by
  have hc := h.fl i hi
  obtain ⟨g1, g2, g3⟩ := h.other (k := k) (v := v) hi (b := bk BS i 0) hc.o0 (by have := hc.o1; have := hc.o2; have := hc.o3; have := hc.o4; have := hc.o5; have := hc.o6; have := hc.o7; omega)
  refine ⟨fun j hj => ?_, g2, h.mono, h.top, h.low, g3⟩
  by_cases hji : j = i
  · subst hji
    have := hc.far_ k v
    simpa [upd] using this
  · have := g1 j hj hji
    simpa [upd, hji] using this
theorem KB.pick_ (h : KB w BS SS bB far pick sl cs X) (i : Nat) (hi : i < 12) (k : Nat) (v : Value) : KB w BS SS bB far (upd pick i ((pick i).set k v)) sl cs (X.setCell ⟨bk BS i 1, k, none⟩ v) := by
  have hc := h.fl i hi
  obtain ⟨g1, g2, g3⟩ := h.other (k := k) (v := v) hi (b := bk BS i 1) (by have := hc.o0; have := hc.o1; omega) (by have := hc.o1; have := hc.o2; have := hc.o3; have := hc.o4; have := hc.o5; have := hc.o6; have := hc.o7; omega)
  refine ⟨fun j hj => ?_, g2, h.mono, h.top, h.low, g3⟩
  by_cases hji : j = i
  · subst hji
    have := hc.pick_ k v
    simpa [upd] using this
  · have := g1 j hj hji
    simpa [upd, hji] using this
theorem KB.sl_ (h : KB w BS SS bB far pick sl cs X) (i : Nat) (hi : i < 12) (k : Nat) (v : Value) : KB w BS SS bB far pick (upd sl i ((sl i).set k v)) cs (X.setCell ⟨bk BS i 6, k, none⟩ v) := by
  have hc := h.fl i hi
  obtain ⟨g1, g2, g3⟩ := h.other (k := k) (v := v) hi (b := bk BS i 6) (by have := hc.o0; have := hc.o1; have := hc.o2; have := hc.o3; have := hc.o4; have := hc.o5; have := hc.o6; omega) hc.o7
  refine ⟨fun j hj => ?_, g2, h.mono, h.top, h.low, g3⟩
  by_cases hji : j = i
  · subst hji
    have := hc.sl_ k v
    simpa [upd] using this
  · have := g1 j hj hji
    simpa [upd, hji] using this
theorem mono_steps {SS : List Nat} {n : Nat} (h : ∀ i, i < n → sz SS i ≤ sz SS (i + 1)) : ∀ i j, i ≤ j → j ≤ n → sz SS i ≤ sz SS j := fun i j hij => by
  induction hij with
  | refl => intro _; exact Nat.le_refl _
  | @step j _ ih => intro hj; exact Nat.le_trans (ih (by omega)) (h j (by omega))
theorem mkSlips (w : World) : (Instr.makeSlice 26 (.int .i64 10) (.int .i64 10)).run Tryd.prog w = .ok (.slice (some ⟨w.heap.size, 0, none⟩) 10 10) (w.alloc (.cells (#[Value.slice none 0 0, vi 0, Value.slice none 0 0, vi 0, Value.slice none 0 0, vi 0, Value.slice none 0 0, vi 0, Value.slice none 0 0, vi 0, Value.slice none 0 0, vi 0, Value.slice none 0 0, vi 0, Value.slice none 0 0, vi 0, Value.slice none 0 0, vi 0, Value.slice none 0 0, vi 0]) 52)) := by
  obtain ⟨i0, hi, hy0, hy1, hy2⟩ := info_parts info_slip
  have := run_make (P := Tryd.prog) w 26 52 i0 _ Tryd.underlying26 hi hy0 .i64 .i64 10 10 (by omega) (by omega) (by rw [hy2]; decide) (by omega)
  have e : madeCells (Value.agg #[.slice none 0 0, vi 0]).cells (Int.toNat 10 * 2) = #[Value.slice none 0 0, vi 0, Value.slice none 0 0, vi 0, Value.slice none 0 0, vi 0, Value.slice none 0 0, vi 0, Value.slice none 0 0, vi 0, Value.slice none 0 0, vi 0, Value.slice none 0 0, vi 0, Value.slice none 0 0, vi 0, Value.slice none 0 0, vi 0, Value.slice none 0 0, vi 0] := by kernel_rfl
  rw [this, hy1, e]
  rfl
end Go.Proofs.YtomgnpfpaodpiaaDoor
/- Floors out of their blocks; a list of floors that are none. -/
namespace Go.Proofs.YtomgnpfpaodpiaaDoor
open Go Go.RowKit
set_option maxHeartbeats 4000000
theorem rowsK {W : World} {b c sz : Nat} {t : TypeId} {m : List (List Value)} {r : List Value} (hsz : ∀ x ∈ m, x.length = sz) (h : CellsBox W b t (m.flatten ++ r)) (hc : m.length ≤ c) (hm : c ≤ 1000) : RowsAt W W.heap.size sz (pt b) c m :=
  ⟨hc, by omega, by omega, fun _ => ⟨b, 0, rfl, h.lt, fun i x hx j u hj hu => by
    have hf := flat_at (sz := sz) m hsz i x hx j u hj hu
    have hlt := (List.getElem?_eq_some_iff.1 hf).1
    have := h.cell (j := i * sz + j) (u := u) (by rw [List.getElem?_append_left hlt]; exact hf)
    simpa using this⟩⟩
theorem rows_none' (W : World) (sz : Nat) : RowsAt W W.heap.size sz none 0 [] := ⟨by simp, by omega, by simp, fun h => by simp at h⟩
theorem lines_of_box {W : World} {b : Nat} {l : List SLine} {cs : List Value} (h : CellsBox W b 64 cs) (e : (l.map SLine.cells).flatten = cs) (hl : l.length ≤ 1000) : SLinesAt W W.heap.size (pt b) l.length l :=
  rowsK (r := []) (fun x hx => by obtain ⟨y, _, rfl⟩ := List.mem_map.1 hx; rfl) (by rw [List.append_nil, e]; exact h) (by rw [List.length_map]; exact Nat.le_refl _) hl
theorem floor_at {W : World} {b0 b1 b6 c0 c1 c6 : Nat} {ff : List Int} {fp : List (Int × Int)} {fs : List SSlip} {slo shi carry : Int} {far pick sl r0 r1 r2 : List Value}
    (x0 : CellsBox W b0 3 far) (x1 : CellsBox W b1 24 pick) (x6 : CellsBox W b6 52 sl)
    (e0 : (ff.map intC).flatten ++ r0 = far) (e1 : (fp.map spanC).flatten ++ r1 = pick) (e6 : (fs.map SSlip.cells).flatten ++ r2 = sl)
    (h0 : ff.length ≤ c0) (h1 : fp.length ≤ c1) (h6 : fs.length ≤ c6) (k0 : c0 ≤ 1000) (k1 : c1 ≤ 1000) (k6 : c6 ≤ 1000) (hs : ∀ s ∈ fs, SLinesAt W W.heap.size s.ad s.cap s.lines) :
    FloorAt W W.heap.size ⟨pt b0, c0, ff, slo, shi, pt b1, c1, fp, carry, pt b6, c6, fs⟩ := by
  subst e0 e1 e6
  refine ⟨rowsK (sz := 1) (fun x hx => ?_) x0 (by rw [List.length_map]; exact h0) k0, rowsK (sz := 2) (fun x hx => ?_) x1 (by rw [List.length_map]; exact h1) k1, rowsK (sz := 2) (fun x hx => ?_) x6 (by rw [List.length_map]; exact h6) k6, hs⟩
  all_goals
    obtain ⟨y, _, rfl⟩ := List.mem_map.1 hx
    rfl
theorem ch_lines {lo hi b0 b1 b2 b3 b4 b5 b6 : Nat} {far pick sl : List Value} {W : World} (h : ChapIn lo hi b0 b1 b2 b3 b4 b5 b6 far pick sl W) : SLinesAt W W.heap.size (pt b2) 2 [⟨0, 2⟩, ⟨2, 3⟩] ∧ SLinesAt W W.heap.size (pt b3) 1 [⟨1, 4⟩] ∧ SLinesAt W W.heap.size (pt b4) 1 [⟨0, 1⟩] ∧ SLinesAt W W.heap.size (pt b5) 2 [⟨1, 1⟩, ⟨2, 6⟩] :=
  ⟨lines_of_box (l := [⟨0, 2⟩, ⟨2, 3⟩]) h.x2 rfl (by simp), lines_of_box (l := [⟨1, 4⟩]) h.x3 rfl (by simp), lines_of_box (l := [⟨0, 1⟩]) h.x4 rfl (by simp), lines_of_box (l := [⟨1, 1⟩, ⟨2, 6⟩]) h.x5 rfl (by simp)⟩
theorem ch_each {lo hi b0 b1 b2 b3 b4 b5 b6 : Nat} {far pick sl : List Value} {W : World} (h : ChapIn lo hi b0 b1 b2 b3 b4 b5 b6 far pick sl W) {s0 : SSlip} (h0 : SLinesAt W W.heap.size s0.ad s0.cap s0.lines) : ∀ s ∈ [s0, (⟨pt b3, 1, [⟨1, 4⟩], 200⟩ : SSlip), ⟨pt b4, 1, [⟨0, 1⟩], 120⟩, ⟨pt b5, 2, [⟨1, 1⟩, ⟨2, 6⟩], 900⟩], SLinesAt W W.heap.size s.ad s.cap s.lines := fun s hs => by
  obtain ⟨-, g3, g4, g5⟩ := ch_lines h
  simp only [List.mem_cons, List.not_mem_nil, or_false] at hs
  rcases hs with rfl | rfl | rfl | rfl
  · exact h0
  · exact g3
  · exact g4
  · exact g5
/-- floors that are none -/
structure BadAt (w : World) (bB : Nat) (F : List Floor) (W : World) : Prop where
  arr : CellsBox W bB 28 ((F.map Floor.cells).flatten)
  many : F.length = 13
  each : ∀ f ∈ F, FloorAt W W.heap.size f
  no : ∀ f ∈ F, validB f = false
  below : Below w.heap.size w W
theorem BadAt.keep {w W W' : World} {bB : Nat} {F : List Floor} (h : BadAt w bB F W) (hb : Below W.heap.size W W') : BadAt w bB F W' :=
  ⟨h.arr.keep hb, h.many, fun f hf => (h.each f hf).to hb, h.no, h.below.trans (hb.mono h.below.size)⟩
theorem BadAt.cell {w W : World} {bB i j : Nat} {F : List Floor} (h : BadAt w bB F W) {f : Floor} (hf : F[i]? = some f) {u : Value} (hj : j < 6) (hu : f.cells[j]? = some u) : W.cell? ⟨bB, i * 6 + j, none⟩ = some u :=
  h.arr.cell (flat_at (sz := 6) (F.map Floor.cells) (fun r hr => by obtain ⟨y, _, rfl⟩ := List.mem_map.1 hr; rfl) i f.cells (by rw [List.getElem?_map, hf]; rfl) j u hj hu)
end Go.Proofs.YtomgnpfpaodpiaaDoor
/- What the program answers about a floor that is none. -/
namespace Go.Proofs.YtomgnpfpaodpiaaDoor
open Go Go.RowKit
set_option maxHeartbeats 4000000
theorem bad_check {f : Floor} (hv : validB f = false) : checkV f = 30 ∧ ∀ n, checkSlipV f n = 30 := by
  constructor
  · unfold checkV; rw [if_neg (by simp [hv])]
  · intro n; unfold checkSlipV; rw [if_neg (by simp [hv])]
theorem bad_is {f : Floor} (hv : validB f = false) (n : Int) (W : World) (hl : Lim W) (h : FloorAt W W.heap.size f) : Calls Tryd.prog 14 #[f.val, vi n, .slice none 0 0] W fun e w' => ∃ x, e = .returned (.tuple #[.bool x, vi 30]) ∧ Below W.heap.size W w' := by
  have := IsTours_any f n none 0 [] W hl h ⟨rows_none' W 1, fun t ht => by simp at ht⟩
  rw [(bad_check hv).2] at this
  refine this.mono ?_
  rintro e w' ⟨rfl, hb⟩
  exact ⟨_, rfl, hb⟩
theorem bad_tours {f : Floor} (hv : validB f = false) (n : Int) (W : World) (hl : Lim W) (h : FloorAt W W.heap.size f) : Calls Tryd.prog 22 #[f.val, vi n] W fun e w' => ∃ x, e = .returned (.tuple #[x, vi 30]) ∧ Below W.heap.size W w' := by
  refine (Tours_any f n W hl h).mono ?_
  rintro e w' ⟨A, ts, rfl, -, -, hb⟩
  rw [(bad_check hv).2]
  exact ⟨_, rfl, hb⟩
theorem bad_steps {f : Floor} (hv : validB f = false) (n : Int) (W : World) (hl : Lim W) (h : FloorAt W W.heap.size f) : Calls Tryd.prog 18 #[f.val, vi n] W fun e w' => ∃ x : Int, e = .returned (.tuple #[vi x, vi 30]) ∧ Below W.heap.size W w' := by
  refine (Steps_any f n W hl h).mono ?_
  rintro e w' ⟨rfl, hb⟩
  rw [(bad_check hv).2]
  exact ⟨_, rfl, hb⟩
theorem bad_takes {f : Floor} (hv : validB f = false) (n : Int) (W : World) (hl : Lim W) (h : FloorAt W W.heap.size f) : Calls Tryd.prog 20 #[f.val, vi n] W fun e w' => ∃ x y : Int, e = .returned (.tuple #[.agg #[vi x, vi y], vi 30]) ∧ Below W.heap.size W w' := by
  refine (Takes_any f n W hl h).mono ?_
  rintro e w' ⟨rfl, hb⟩
  rw [(bad_check hv).2]
  exact ⟨_, _, rfl, hb⟩
theorem bad_done {f : Floor} (hv : validB f = false) (W : World) (hl : Lim W) (h : FloorAt W W.heap.size f) : Calls Tryd.prog 25 #[f.val, .slice none 0 0] W fun e w' => ∃ x, e = .returned (.tuple #[x, vi 30]) ∧ Below W.heap.size W w' := by
  have := Done_any f none 0 [] W hl h ⟨rows_none' W 1, fun t ht => by simp at ht⟩
  have e : DoneV f [] = ([], 30) := by unfold DoneV; rw [if_neg (by rw [(bad_check hv).1]; decide), (bad_check hv).1]
  rw [e] at this
  refine this.mono ?_
  rintro e w' ⟨R, rfl, -, hb⟩
  exact ⟨_, rfl, hb⟩
theorem bad_roster {f : Floor} (hv : validB f = false) (W : World) (hl : Lim W) (h : FloorAt W W.heap.size f) : Calls Tryd.prog 28 #[f.val] W fun e w' => ∃ x, e = .returned (.tuple #[x, vi 30]) ∧ Below W.heap.size W w' := by
  have e : RosterV f = ([], 30) := by unfold RosterV; rw [if_neg (by rw [(bad_check hv).1]; decide), (bad_check hv).1]
  refine (Roster_any f W hl h).mono ?_
  rintro e' w' ⟨A, ts, rfl, -, -, hb⟩
  rw [e]
  exact ⟨_, rfl, hb⟩
theorem bad_late {f : Floor} (hv : validB f = false) (n : Int) (W : World) (hl : Lim W) (h : FloorAt W W.heap.size f) : Calls Tryd.prog 30 #[f.val, vi n] W fun e w' => ∃ x, e = .returned (.tuple #[x, vi 30]) ∧ Below W.heap.size W w' := by
  have e : LateV f n = ([], 30) := by unfold LateV; rw [if_neg (by rw [(bad_check hv).1]; decide), (bad_check hv).1]
  refine (Late_any f n W hl h).mono ?_
  rintro e' w' ⟨A, rfl, -, hb⟩
  rw [e]
  exact ⟨_, rfl, hb⟩
theorem bad_spare {f : Floor} (hv : validB f = false) (n : Int) (W : World) (hl : Lim W) (h : FloorAt W W.heap.size f) : Calls Tryd.prog 33 #[f.val, vi n] W fun e w' => ∃ x : Int, e = .returned (.tuple #[vi x, vi 30]) ∧ Below W.heap.size W w' := by
  refine (Spare_any f n W hl h).mono ?_
  rintro e' w' ⟨v, c, rfl, hs, hb⟩
  have hc := (bad_check hv).2 n
  have : c = 30 := by
    rcases hs with ⟨_, _, h3⟩ | ⟨h1, _⟩ | ⟨h1, _⟩
    · rw [h3, hc]
    · rw [hc] at h1; cases h1
    · rw [hc] at h1; cases h1
  subst this
  exact ⟨_, rfl, hb⟩
theorem bad_check_ {f : Floor} (hv : validB f = false) (W : World) (hl : Lim W) (h : FloorAt W W.heap.size f) : Calls Tryd.prog 16 #[f.val] W fun e w' => e = .returned (vi 30) ∧ Below W.heap.size W w' := by
  have := Check_any f W hl h
  rwa [(bad_check hv).1] at this
end Go.Proofs.YtomgnpfpaodpiaaDoor
/- Tours that are none, and rosters that are none, in memory. -/
namespace Go.Proofs.YtomgnpfpaodpiaaDoor
open Go Go.RowKit
set_option maxHeartbeats 4000000
theorem tours_of {W : World} {b : Nat} {ts : List STour} {cs : List Value} (h : CellsBox W b 50 cs) (e : (ts.map STour.cells).flatten = cs) (hl : ts.length ≤ 1000) (hs : ∀ t ∈ ts, SLinesAt W W.heap.size t.ad t.cap t.lines) : ToursAt W W.heap.size (pt b) ts.length ts :=
  ⟨rowsK (r := []) (fun x hx => by obtain ⟨y, _, rfl⟩ := List.mem_map.1 hx; rfl) (by rw [List.append_nil, e]; exact h) (by rw [List.length_map]; exact Nat.le_refl _) hl, hs⟩
theorem roster_of {W : World} {b : Nat} {ts : List SRow} {cs : List Value} (h : CellsBox W b 22 cs) (e : (ts.map SRow.cells).flatten = cs) (hl : ts.length ≤ 1000) (hs : ∀ t ∈ ts, IntsAt W W.heap.size t.ad t.cap t.slips) : RosterAt W W.heap.size (pt b) ts.length ts :=
  ⟨rowsK (r := []) (fun x hx => by obtain ⟨y, _, rfl⟩ := List.mem_map.1 hx; rfl) (by rw [List.append_nil, e]; exact h) (by rw [List.length_map]; exact Nat.le_refl _) hl, hs⟩
theorem ints_from {W : World} {b : Nat} {l : List Int} {cs : List Value} (h : CellsBox W b 3 cs) (e : (l.map intC).flatten = cs) (hl : l.length ≤ 1000) : IntsAt W W.heap.size (pt b) l.length l :=
  rowsK (r := []) (fun x hx => by obtain ⟨y, _, rfl⟩ := List.mem_map.1 hx; rfl) (by rw [List.append_nil, e]; exact h) (by rw [List.length_map]; exact Nat.le_refl _) hl
/-- lists of tours, of which none are the tours of the chapter's first slip -/
structure NotAt (W : World) (b : Nat) (T : List (Option Addr × List STour)) : Prop where
  arr : CellsBox W b 29 (T.map fun p => .slice p.1 p.2.length p.2.length)
  each : ∀ p ∈ T, ToursAt W W.heap.size p.1 p.2.length p.2
  no : ∀ p ∈ T, ∀ a0 a1 a2 a3 a4 a5 a6, isToursV (chap a0 a1 a2 a3 a4 a5 a6) 0 p.2 = false
theorem NotAt.keep {W W' : World} {b : Nat} {T : List (Option Addr × List STour)} (h : NotAt W b T) (hb : Below W.heap.size W W') : NotAt W' b T :=
  ⟨h.arr.keep hb, fun p hp => (h.each p hp).to hb, h.no⟩
/-- lists of lists of slips, of which none are a roster of the chapter's floor -/
structure NoAt (W : World) (b : Nat) (T : List (Option Addr × List SRow)) : Prop where
  arr : CellsBox W b 43 (T.map fun p => .slice p.1 p.2.length p.2.length)
  each : ∀ p ∈ T, RosterAt W W.heap.size p.1 p.2.length p.2
  no : ∀ p ∈ T, ∀ a0 a1 a2 a3 a4 a5 a6, DoneV (chap a0 a1 a2 a3 a4 a5 a6) p.2 = ([], 31)
theorem NoAt.keep {W W' : World} {b : Nat} {T : List (Option Addr × List SRow)} (h : NoAt W b T) (hb : Below W.heap.size W W') : NoAt W' b T :=
  ⟨h.arr.keep hb, fun p hp => (h.each p hp).to hb, h.no⟩
theorem not_call {W : World} {A : Option Addr} {ts : List STour} (h : ∀ a0 a1 a2 a3 a4 a5 a6, isToursV (chap a0 a1 a2 a3 a4 a5 a6) 0 ts = false) (a0 a1 a2 a3 a4 a5 a6 : Option Addr) (hl : Lim W) (hf : FloorAt W W.heap.size (chap a0 a1 a2 a3 a4 a5 a6)) (ht : ToursAt W W.heap.size A ts.length ts) :
    Calls Tryd.prog 14 #[(chap a0 a1 a2 a3 a4 a5 a6).val, vi 0, .slice A ts.length ts.length] W fun e w' => e = .returned (.tuple #[.bool false, vi 0]) ∧ Below W.heap.size W w' := by
  have := IsTours_any (chap a0 a1 a2 a3 a4 a5 a6) 0 A ts.length ts W hl hf ht
  rw [h, show checkSlipV (chap a0 a1 a2 a3 a4 a5 a6) 0 = 0 from by kernel_rfl] at this
  exact this
theorem no_call {W : World} {A : Option Addr} {ts : List SRow} (h : ∀ a0 a1 a2 a3 a4 a5 a6, DoneV (chap a0 a1 a2 a3 a4 a5 a6) ts = ([], 31)) (a0 a1 a2 a3 a4 a5 a6 : Option Addr) (hl : Lim W) (hf : FloorAt W W.heap.size (chap a0 a1 a2 a3 a4 a5 a6)) (ht : RosterAt W W.heap.size A ts.length ts) :
    Calls Tryd.prog 25 #[(chap a0 a1 a2 a3 a4 a5 a6).val, .slice A ts.length ts.length] W fun e w' => ∃ x, e = .returned (.tuple #[x, vi 31]) ∧ Below W.heap.size W w' := by
  have := Done_any (chap a0 a1 a2 a3 a4 a5 a6) A ts.length ts W hl hf ht
  rw [h] at this
  refine this.mono ?_
  rintro e w' ⟨R, rfl, -, hb⟩
  exact ⟨_, rfl, hb⟩
end Go.Proofs.YtomgnpfpaodpiaaDoor
/- Contract of the specification's Check, where the head of a floor is wrong. -/
namespace Go.Proofs.YtomgnpfpaodpiaaDoor
open Go Go.RowKit
set_option maxHeartbeats 4000000
def properB (a b c d : Int) : Bool := decide (c ≤ a) && decide (a ≤ b) && decide (b ≤ d)
/-- the head of a floor -/
def headB (f : Floor) : Bool := hasB 1 12 f.far.length && (decide (f.picks.length = f.far.length) && (properB f.slo f.shi 1 10 && (hasB 1 20 f.carry && decide (f.slips.length ≤ 9))))
end Go.Proofs.YtomgnpfpaodpiaaDoor
/- Contract of the specification's Check. -/
namespace Go.Proofs.YtomgnpfpaodpiaaDoor
open Go Go.RowKit
set_option maxHeartbeats 4000000
def lastR (f : Floor) (k : Nat) : Int := match k with | 0 => 0 | i + 1 => (f.far[i]?).getD 0
end Go.Proofs.YtomgnpfpaodpiaaDoor
/- Contracts of the specification's isSlip and asked. -/
namespace Go.Proofs.YtomgnpfpaodpiaaDoor
open Go Go.RowKit
set_option maxHeartbeats 4000000
def askedV (f : Floor) (b : Bool) : Int := if checkV f = 0 then (if b then 0 else 31) else checkV f
end Go.Proofs.YtomgnpfpaodpiaaDoor
/- Contract of the specification's steps. -/
namespace Go.Proofs.YtomgnpfpaodpiaaDoor
open Go Go.RowKit
set_option maxHeartbeats 4000000
/-- one piece more, from the farthest on: how many steps so far, and how many more can be carried -/
def stepP (C far : Int) (st : Int × Int) : Int × Int := if st.2 = 0 then (st.1 + 2 * far, C - 1) else (st.1, st.2 - 1)
def iterP (g : Int × Int → Int × Int) : Nat → Int × Int → Int × Int
  | 0, st => st
  | n + 1, st => g (iterP g n st)
def stateR (f : Floor) (l : List SLine) : Int × Int := l.foldr (fun x st => iterP (stepP f.carry (farF f x)) x.many.toNat st) (0, 0)
def rstepsF (f : Floor) (s : SSlip) : Int := (stateR f s.lines).1
end Go.Proofs.YtomgnpfpaodpiaaDoor
/- Contract of the specification's takes. -/
namespace Go.Proofs.YtomgnpfpaodpiaaDoor
open Go Go.RowKit
set_option maxHeartbeats 4000000
def pickF (f : Floor) (x : SLine) : Int × Int := (f.picks[x.shelf.toNat]?).getD (0, 0)
def addP (f : Floor) (st : Int × Int) (x : SLine) : Int × Int := (st.1 + x.many * (pickF f x).1, st.2 + x.many * (pickF f x).2)
def rtakesF (f : Floor) (s : SSlip) : Int × Int := s.lines.foldl (addP f) (rstepsF f s * f.slo, rstepsF f s * f.shi)
def rtakesK (f : Floor) (l : List SLine) (st : Int × Int) (k : Nat) : Int × Int := (l.take k).foldl (addP f) st
theorem below1 (w : World) (a : Obj) : Below w.heap.size w (w.alloc a) := (Below.refl _ _).alloc (Nat.le_refl _) _
end Go.Proofs.YtomgnpfpaodpiaaDoor
/- Contracts of the specification's Steps and Takes. -/
namespace Go.Proofs.YtomgnpfpaodpiaaDoor
open Go Go.RowKit
set_option maxHeartbeats 4000000
def rStepsV (f : Floor) (n : Int) : Int := if checkSlipV f n = 0 then (match f.slips[n.toNat]? with | some s => rstepsF f s | none => 0) else 0
def rTakesV (f : Floor) (n : Int) : Int × Int := if checkSlipV f n = 0 then (match f.slips[n.toNat]? with | some s => rtakesF f s | none => (0, 0)) else (0, 0)
end Go.Proofs.YtomgnpfpaodpiaaDoor
/- Contracts of what specifications share: Spin, Lot, Take, Place, Climbs, In, Of, Total, Ahead. -/
namespace Go.Proofs.YtomgnpfpaodpiaaDoor
open Go Go.RowKit
set_option maxHeartbeats 2000000
theorem findIdx_step {α : Type} {p : α → Bool} {l : List α} {k : Nat} {x : α} (h : ∀ y, y ∈ l.take k → p y = false) (hx : l[k]? = some x) (hp : p x = true) : l.findIdx? p = some k := by
  obtain ⟨hk, rfl⟩ := List.getElem?_eq_some_iff.1 hx
  rw [List.findIdx?_eq_some_iff_getElem]
  refine ⟨hk, hp, fun j hj => ?_⟩
  have := h l[j] (by rw [List.mem_take_iff_getElem]; exact ⟨j, by omega, rfl⟩)
  simp [this]
theorem take_step {α : Type} {p : α → Bool} {l : List α} {k : Nat} {x : α} (h : ∀ y, y ∈ l.take k → p y = false) (hx : l[k]? = some x) (hp : p x = false) : ∀ y, y ∈ l.take (k + 1) → p y = false := by
  obtain ⟨hk, rfl⟩ := List.getElem?_eq_some_iff.1 hx
  intro y hy
  rw [List.take_succ_eq_append_getElem hk] at hy
  rcases List.mem_append.1 hy with h1 | h1
  · exact h y h1
  · obtain rfl : y = l[k] := by simpa using h1
    exact hp
def placeF (l : List Int) (n : Int) : Int := match l.findIdx? fun e => e == n with | some k => k | none => -1
theorem place_free (A : Option Addr) (cap : Nat) (l : List Int) (n : Int) (w : World) (hh : IntsAt w w.heap.size A l.length l) :
    Calls Tryd.prog 83 #[.slice A l.length cap, vi n] w fun e w' => e = .returned (vi (placeF l n)) ∧ w = w' := by
  have hcap := hh.lens
  go_enter Tryd.func83, Tryd.ntmps83
  go_wp2
  go_loopw [5] (fun i wr => ∃ k : Nat, k ≤ l.length ∧ i = .int .i64 k ∧ wr = w ∧ Hid (∀ y, y ∈ l.take k → (y == n) = false)) (fun i _ => l.length - (intOf i).toNat)
  case atStart => exact ⟨0, Nat.zero_le _, rfl, rfl, by simp [Hid]⟩
  case round =>
    obtain ⟨k, hk, rfl, rfl, hno⟩ := hrel
    by_cases hlt : k < l.length
    · obtain ⟨x, hx⟩ : ∃ x, l[k]? = some x := ⟨_, List.getElem?_eq_getElem hlt⟩
      obtain ⟨bb, off, rfl, hb, c0⟩ := ints_at hh hx
      have Hx := Lib.hid hx
      clear hx
      rcases hq : x == n with _ | _
      · have hst := Lib.hid (take_step (p := fun y : Int => y == n) hno.out Hx.out hq)
        go_wp2
        go_roundw
        case rel => exact ⟨k + 1, by omega, by go_num, trivial, hst⟩
        case measure => simp [intOf]; omega
      · have E : Hid (placeF l n = (k : Int)) := by unfold Hid placeF; rw [findIdx_step (p := fun y : Int => y == n) hno.out Hx.out hq]
        go_wp2
        go_ret
        exact ⟨retI E.out.symm, rfl⟩
    · obtain rfl : k = l.length := by omega
      have E : Hid (placeF l n = -1) := by
        have := hno.out
        rw [List.take_length] at this
        unfold Hid placeF
        rw [List.findIdx?_eq_none_iff.2 this]
      go_wp2
      go_ret
      exact ⟨retI E.out.symm, rfl⟩
def climbsB (n : Int) : Int → List Int → Bool
  | _, [] => true
  | b, x :: r => decide (b < x) && (decide (x < n) && climbsB n x r)
/-- the number of a list that a number chooses -/
def takeI (l : List Int) (n : Int) : Int := if l = [] then 0 else (l[(spinI n l.length).toNat]?).getD 0
def sumI (l : List Int) : Int := l.sum
end Go.Proofs.YtomgnpfpaodpiaaDoor
/- Contract of the specification's Walk. -/
namespace Go.Proofs.YtomgnpfpaodpiaaDoor
open Go Go.RowKit
set_option maxHeartbeats 4000000
def lastShelf (l : List SLine) : Int := match l[l.length - 1]? with | some x => x.shelf | none => 0
def goesF (f : Floor) (t : STour) : Int := 2 * (f.far[(lastShelf t.lines).toNat]?).getD 0
def walkF (f : Floor) (ts : List STour) : Int := (ts.map (goesF f)).sum
def walkK (f : Floor) (ts : List STour) (k : Nat) : Int := walkF f (ts.take k)
end Go.Proofs.YtomgnpfpaodpiaaDoor
/- Contract of the specification's IsTours: the pieces of the slip are counted. -/
namespace Go.Proofs.YtomgnpfpaodpiaaDoor
open Go Go.RowKit
set_option maxHeartbeats 4000000
/-- how many pieces of each shelf are to be fetched, when some are added -/
def addL (sg : Int) (p : List Int) (l : List SLine) : List Int := l.foldl (fun p x => p.set x.shelf.toNat (p[x.shelf.toNat]?.getD 0 + sg * x.many)) p
def addLK (sg : Int) (p : List Int) (l : List SLine) (k : Nat) : List Int := addL sg p (l.take k)
theorem addLK_succ {sg : Int} {p : List Int} {l : List SLine} {k : Nat} {x : SLine} (h : l[k]? = some x) : addLK sg p l (k + 1) = (addLK sg p l k).set x.shelf.toNat ((addLK sg p l k)[x.shelf.toNat]?.getD 0 + sg * x.many) := by
  obtain ⟨hk, rfl⟩ := List.getElem?_eq_some_iff.1 h
  unfold addLK addL
  rw [List.take_succ_eq_append_getElem hk, List.foldl_append]
  rfl
theorem addL_len (sg : Int) : ∀ (l : List SLine) (p : List Int), (addL sg p l).length = p.length
  | [], _ => rfl
  | x :: l, p => by
    have := addL_len sg l (p.set x.shelf.toNat (p[x.shelf.toNat]?.getD 0 + sg * x.many))
    rw [List.length_set] at this
    exact this
theorem addL_range (sg B : Int) (hs : sg = 1 ∨ sg = -1) : ∀ (l : List SLine) (p : List Int), (∀ x ∈ l, 0 ≤ x.many ∧ x.many ≤ 20) → (∀ n ∈ p, -B ≤ n ∧ n ≤ B) → 0 ≤ B → ∀ n ∈ addL sg p l, -(B + 20 * l.length) ≤ n ∧ n ≤ B + 20 * l.length
  | [], p, _, h, _, n, hn => by have := h n hn; simpa using this
  | x :: l, p, hx, h, hB, n, hn => by
    have hm := hx x (by simp)
    have h1 : ∀ n ∈ p.set x.shelf.toNat (p[x.shelf.toNat]?.getD 0 + sg * x.many), -(B + 20) ≤ n ∧ n ≤ B + 20 := fun n hn => by
      have hg : -B ≤ p[x.shelf.toNat]?.getD 0 ∧ p[x.shelf.toNat]?.getD 0 ≤ B := by
        cases hp : p[x.shelf.toNat]? with
        | none => simp; omega
        | some y => exact h y (List.mem_of_getElem? hp)
      rcases List.mem_or_eq_of_mem_set hn with hn | rfl
      · have := h n hn; omega
      · rcases hs with rfl | rfl <;> omega
    have := addL_range sg (B + 20) hs l _ (fun y hy => hx y (by simp [hy])) h1 (by omega) n hn
    simp only [List.length_cons]
    omega
/-- may a tour be one, as the specification asks it -/
def goodR (f : Floor) (t : STour) : Bool := (!(t.lines.length == 0) && linesR f.far.length t.lines) && decide (togetherF t.lines ≤ f.carry)
def leftR (p : List Int) (ts : List STour) : List Int := ts.foldl (fun p t => addL (-1) p t.lines) p
def leftRK (p : List Int) (ts : List STour) (k : Nat) : List Int := leftR p (ts.take k)
def isToursR (f : Floor) (s : SSlip) (ts : List STour) : Bool := (List.range ts.length).all (fun k => match ts[k]? with | some t => goodR f t | none => true) && (leftR (addL 1 (List.replicate f.far.length 0) s.lines) ts).all (· == 0)
theorem linesR_at {n : Int} {l : List SLine} (h : linesR n l = true) : ∀ (k : Nat) (x : SLine), l[k]? = some x → ((k : Int) ≤ x.shelf ∧ x.shelf < n) ∧ 1 ≤ x.many ∧ x.many ≤ 20 := by
  have hg : ∀ (k : Nat) (x : SLine), l[k]? = some x → hasB (nextF l k) (n - 1) x.shelf = true ∧ hasB 1 20 x.many = true := fun k x hx => by
    have hk := (List.getElem?_eq_some_iff.1 hx).1
    unfold linesR at h
    rw [List.all_eq_true] at h
    have := h k (List.mem_range.2 hk)
    rwa [goodLine_ref hx, Bool.and_eq_true] at this
  have hn : ∀ k : Nat, k ≤ l.length → (k : Int) ≤ nextF l k := by
    intro k
    induction k with
    | zero => intro _; exact Int.le_refl _
    | succ k ih =>
      intro hk
      obtain ⟨x, hx⟩ : ∃ x, l[k]? = some x := ⟨_, List.getElem?_eq_getElem (by omega)⟩
      have h1 := hasB_iff.1 (hg k x hx).1
      have h2 := ih (by omega)
      rw [nextF_succ hx]
      omega
  intro k x hx
  have hk := (List.getElem?_eq_some_iff.1 hx).1
  obtain ⟨h1, h2⟩ := hg k x hx
  have h1 := hasB_iff.1 h1
  have h2 := hasB_iff.1 h2
  have h3 := hn k (by omega)
  exact ⟨⟨by omega, by omega⟩, h2⟩
theorem linesR_len {n : Nat} {l : List SLine} (h : linesR n l = true) : l.length ≤ n := by
  by_cases h0 : l.length = 0
  · omega
  · obtain ⟨x, hx⟩ : ∃ x, l[l.length - 1]? = some x := ⟨_, List.getElem?_eq_getElem (by omega)⟩
    have := (linesR_at h _ x hx).1
    omega
theorem ints_box_at {w : World} {B : Nat} {l : List Int} (h : CellsBox w B 3 (l.map vi)) {k : Nat} {x : Int} (hx : l[k]? = some x) : w.cell? ⟨B, k, none⟩ = some (vi x) := h.cell (by rw [List.getElem?_map, hx]; rfl)
theorem gr_trans_w {w W W' : World} (h : Below w.heap.size w W) (h' : Below W.heap.size W W') : Below w.heap.size w W' := h.trans (h'.mono h.size)
end Go.Proofs.YtomgnpfpaodpiaaDoor
/- Contract of Total, of numbers that are 0 or 1; the specification's roster as lists of marks. -/
namespace Go.Proofs.YtomgnpfpaodpiaaDoor
open Go Go.RowKit
set_option maxHeartbeats 4000000
/-- one slip more on a roster: which slips are on it (none: it is no roster) -/
def stepQ (f : Floor) (o : Option (List Int)) (n : Int) : Option (List Int) := match o with | none => none | some l => if slipB f n && decide (l[n.toNat]?.getD 0 ≤ 0) then some (l.set n.toNat (l[n.toNat]?.getD 0 + 1)) else none
def rowsQ (f : Floor) (o : Option (List Int)) (ts : List SRow) : Option (List Int) := ts.foldl (fun o t => t.slips.foldl (stepQ f) o) o
def rosterQ (f : Floor) (ts : List SRow) : Bool := match rowsQ f (some (List.replicate f.slips.length 0)) ts with | some l => (l.sum == (f.slips.length : Int)) | none => false
end Go.Proofs.YtomgnpfpaodpiaaDoor
/- Contract of the specification's isRoster. -/
namespace Go.Proofs.YtomgnpfpaodpiaaDoor
open Go Go.RowKit
set_option maxHeartbeats 4000000
theorem mkIntsB (n : Nat) (hn : n ≤ 4398046511104) (w : World) : (Instr.makeSlice 22 (.int .i64 n) (.int .i64 n)).run Tryd.prog w = .ok (.slice (some ⟨w.heap.size, 0, none⟩) n n) (w.alloc (.cells (List.replicate n (vi 0)).toArray 3)) := by
  obtain ⟨i0, hi, hy0, hy1, hy2⟩ := info_parts info_int
  have := run_make (P := Tryd.prog) w 22 3 i0 _ Tryd.underlying22 hi hy0 .i64 .i64 n n (by omega) (by omega) (by rw [hy2]; omega) (by omega)
  rw [this, hy1, Int.toNat_natCast, Nat.mul_one, madeCells_rep _ (vi 0)]
  · intro i hi
    have : i = 0 := by simp [Value.cells] at hi; omega
    subst this; rfl
  · simp [Value.cells]
end Go.Proofs.YtomgnpfpaodpiaaDoor
/- The specification's roster is the program's. -/
namespace Go.Proofs.YtomgnpfpaodpiaaDoor
open Go Go.RowKit
set_option maxHeartbeats 2000000
def bitsL (n m : Nat) : List Int := (List.range n).map fun s => if m.testBit s then (1 : Int) else 0
end Go.Proofs.YtomgnpfpaodpiaaDoor
/- The specification's IsTours and the program's say the same. -/
namespace Go.Proofs.YtomgnpfpaodpiaaDoor
open Go Go.RowKit
/-- how many pieces of a shelf lines have -/
def cntL (j : Nat) (l : List SLine) : Int := (l.map fun x => if x.shelf.toNat = j then x.many else 0).sum
theorem addL_get (sg : Int) : ∀ (l : List SLine) (p : List Int) (j : Nat), (addL sg p l)[j]? = (p[j]?).map fun y => y + sg * cntL j l
  | [], p, j => by
    have : addL sg p [] = p := rfl
    rw [this]
    cases p[j]? with
    | none => rfl
    | some y => simp [cntL]
  | x :: l, p, j => by
    have e : addL sg p (x :: l) = addL sg (p.set x.shelf.toNat (p[x.shelf.toNat]?.getD 0 + sg * x.many)) l := rfl
    rw [e, addL_get sg l, List.getElem?_set]
    have hc : cntL j (x :: l) = (if x.shelf.toNat = j then x.many else 0) + cntL j l := by simp [cntL]
    rw [hc]
    by_cases h : x.shelf.toNat = j
    · subst h
      simp only [if_true]
      by_cases hl : x.shelf.toNat < p.length
      · rw [if_pos hl, List.getElem?_eq_getElem hl]
        simp only [Option.map_some, Option.getD_some, Option.some.injEq]
        rw [Int.mul_add]; omega
      · rw [if_neg hl, List.getElem?_eq_none (by omega)]
        rfl
    · rw [if_neg h, if_neg h]
      simp
def cntT (j : Nat) (ts : List STour) : Int := (ts.map fun t => cntL j t.lines).sum
theorem leftR_get : ∀ (ts : List STour) (p : List Int) (j : Nat), (leftR p ts)[j]? = (p[j]?).map fun y => y - cntT j ts
  | [], p, j => by
    have : leftR p [] = p := rfl
    rw [this]
    cases p[j]? with
    | none => rfl
    | some y => simp [cntT]
  | t :: ts, p, j => by
    have e : leftR p (t :: ts) = leftR (addL (-1) p t.lines) ts := rfl
    rw [e, leftR_get ts, addL_get]
    cases p[j]? with
    | none => rfl
    | some y => simp [cntT]; omega
theorem cntL_far {n : Int} {l : List SLine} (h : ∀ x ∈ l, 0 ≤ x.shelf ∧ x.shelf < n) {j : Nat} (hj : n ≤ j) : cntL j l = 0 := by
  unfold cntL
  have : l.map (fun x => if x.shelf.toNat = j then x.many else 0) = l.map fun _ => (0 : Int) := List.map_congr_left fun x hx => by
    have := h x hx
    rw [if_neg (by omega)]
  rw [this]
  clear this h
  induction l with
  | nil => rfl
  | cons x l ih => rw [List.map_cons, List.sum_cons, ih]; rfl
end Go.Proofs.YtomgnpfpaodpiaaDoor
