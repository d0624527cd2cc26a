/- Slips done one behind the other: plain mathematics. -/
import Derived.Test.YtomgnpfpaodpiaaDoorH31
set_option linter.unusedVariables false
set_option linter.unusedSimpArgs false
namespace Go.Proofs.YtomgnpfpaodpiaaDoor.PM
/-- are slips, one behind the other from a second on, done in time -/
def inT (sec till : Nat → Int) : Int → List Nat → Prop
  | _, [] => True
  | t, s :: l => t + sec s ≤ till s ∧ inT sec till (t + sec s) l
variable {sec till : Nat → Int}
theorem inT_app : ∀ (a b : List Nat) (t : Int), inT sec till t (a ++ b) ↔ inT sec till t a ∧ inT sec till (t + (a.map sec).sum) b
  | [], b, t => by simp [inT]
  | s :: a, b, t => by
    rw [List.cons_append, inT, inT, inT_app a b, List.map_cons, List.sum_cons, Int.add_assoc, and_assoc]
theorem inT_early (hs : ∀ s, 0 ≤ sec s) : ∀ (l : List Nat) (t t' : Int), t' ≤ t → inT sec till t l → inT sec till t' l
  | [], _, _, _, _ => trivial
  | s :: l, t, t', h, k => ⟨by have := k.1; omega, inT_early hs l _ _ (by omega) k.2⟩
/-- a slip may be left out -/
theorem inT_sub (hs : ∀ s, 0 ≤ sec s) : ∀ {a b : List Nat}, a.Sublist b → ∀ t, inT sec till t b → inT sec till t a
  | _, _, .slnil, _, _ => trivial
  | _, _, .cons (l₂ := b) s h, t, k => inT_early hs _ _ _ (by have := hs s; omega) (inT_sub hs h _ k.2)
  | _, _, .cons_cons s h, t, k => ⟨k.1, inT_sub hs h _ k.2⟩
/-- a slip that must be done no sooner may go behind others -/
theorem inT_later (hs : ∀ s, 0 ≤ sec s) (s : Nat) : ∀ (a b : List Nat) (t : Int), (∀ x ∈ a, till x ≤ till s) → inT sec till t (s :: (a ++ b)) → inT sec till t (a ++ s :: b)
  | [], b, t, _, h => h
  | x :: a, b, t, hx, h => by
    obtain ⟨h1, h2, h3⟩ := h
    have hx1 := hx x (by simp)
    have h0 := hs s
    refine ⟨by omega, inT_later hs s a b (t + sec x) (fun y hy => hx y (by simp [hy])) ⟨by omega, ?_⟩⟩
    rwa [show t + sec x + sec s = t + sec s + sec x by omega]
/-- in its place among slips that are in their order -/
def put (key : Nat → Nat → Bool) (s : Nat) : List Nat → List Nat
  | [] => [s]
  | x :: l => if key x s then x :: put key s l else s :: x :: l
theorem put_split (key : Nat → Nat → Bool) (s : Nat) : ∀ l : List Nat, ∃ a b, l = a ++ b ∧ put key s l = a ++ s :: b ∧ ∀ x ∈ a, key x s = true
  | [] => ⟨[], [], rfl, rfl, by simp⟩
  | x :: l => by
    rw [put]
    split
    · rename_i h
      obtain ⟨a, b, e, p, k⟩ := put_split key s l
      refine ⟨x :: a, b, by rw [e]; rfl, by rw [p]; rfl, fun y hy => ?_⟩
      rcases List.mem_cons.1 hy with rfl | hy
      · exact h
      · exact k y hy
    · exact ⟨[], x :: l, rfl, rfl, by simp⟩
def sortP (key : Nat → Nat → Bool) : List Nat → List Nat
  | [] => []
  | s :: l => put key s (sortP key l)
theorem inT_sort (hs : ∀ s, 0 ≤ sec s) (key : Nat → Nat → Bool) (hk : ∀ x s, key x s = true → till x ≤ till s) : ∀ (l : List Nat) (t : Int), inT sec till t l → inT sec till t (sortP key l)
  | [], _, _ => trivial
  | s :: l, t, h => by
    rw [sortP]
    obtain ⟨a, b, e, p, k⟩ := put_split key s (sortP key l)
    rw [p]
    refine inT_later hs s a b t (fun x hx => hk x s (k x hx)) ?_
    rw [← e]
    exact ⟨h.1, inT_sort hs key hk l _ h.2⟩
theorem put_perm (key : Nat → Nat → Bool) (s : Nat) (l : List Nat) : (put key s l).Perm (s :: l) := by
  obtain ⟨a, b, e, p, _⟩ := put_split key s l
  rw [p, e]
  exact List.perm_middle
theorem sortP_perm (key : Nat → Nat → Bool) : ∀ l : List Nat, (sortP key l).Perm l
  | [] => List.Perm.refl _
  | s :: l => (put_perm key s _).trans ((sortP_perm key l).cons s)
theorem put_sorted (key : Nat → Nat → Bool) (tot : ∀ x y, key x y = false → key y x = true) (tr : ∀ x y z, key x y = true → key y z = true → key x z = true) (s : Nat) : ∀ l : List Nat, l.Pairwise (fun x y => key x y = true) → (put key s l).Pairwise (fun x y => key x y = true)
  | [], _ => by simp [put]
  | x :: l, h => by
    obtain ⟨h1, h2⟩ := List.pairwise_cons.1 h
    rw [put]
    split
    · rename_i hx
      refine List.pairwise_cons.2 ⟨fun y hy => ?_, put_sorted key tot tr s l h2⟩
      rcases List.mem_cons.1 ((put_perm key s l).mem_iff.1 hy) with rfl | hy
      · exact hx
      · exact h1 y hy
    · rename_i hx
      have hx := tot x s (by simpa using hx)
      refine List.pairwise_cons.2 ⟨fun y hy => ?_, h⟩
      rcases List.mem_cons.1 hy with rfl | hy
      · exact hx
      · exact tr _ _ _ hx (h1 y hy)
theorem sortP_sorted (key : Nat → Nat → Bool) (tot : ∀ x y, key x y = false → key y x = true) (tr : ∀ x y z, key x y = true → key y z = true → key x z = true) : ∀ l : List Nat, (sortP key l).Pairwise (fun x y => key x y = true)
  | [] => by simp [sortP]
  | s :: l => put_sorted key tot tr s _ (sortP_sorted key tot tr l)
/-- lists in their order with the same slips are the same -/
theorem sorted_unique (key : Nat → Nat → Bool) (anti : ∀ x y, key x y = true → key y x = true → x = y) : ∀ {a b : List Nat}, a.Perm b → a.Pairwise (fun x y => key x y = true) → b.Pairwise (fun x y => key x y = true) → a = b := by
  intro a
  induction a with
  | nil => intro b h _ _; exact (List.nil_perm.1 h).symm
  | cons x a ih =>
    intro b h ha hb
    cases b with
    | nil => exact absurd h (by intro h; have := h.length_eq; simp at this)
    | cons y b =>
      obtain ⟨a1, a2⟩ := List.pairwise_cons.1 ha
      obtain ⟨b1, b2⟩ := List.pairwise_cons.1 hb
      have hxy : x = y := by
        have hx : x ∈ y :: b := h.mem_iff.1 (by simp)
        have hy : y ∈ x :: a := h.mem_iff.2 (by simp)
        rcases List.mem_cons.1 hx with e | hx
        · exact e
        rcases List.mem_cons.1 hy with e | hy
        · exact e.symm
        exact anti _ _ (a1 y hy) (b1 x hx)
      subst hxy
      rw [ih ((List.perm_cons x).1 h) a2 b2]
end Go.Proofs.YtomgnpfpaodpiaaDoor.PM

/- Sets of slips as numbers: plain mathematics. -/
namespace Go.Proofs.YtomgnpfpaodpiaaDoor.PM
theorem setF_fold : ∀ (l : List Nat) (m i : Nat), (l.foldl (fun m s => m ||| 2 ^ s) m).testBit i = (m.testBit i || decide (i ∈ l))
  | [], m, i => by simp
  | s :: l, m, i => by
    rw [List.foldl_cons, setF_fold l, Nat.testBit_or, Nat.testBit_two_pow]
    by_cases h : i = s
    · subst h; simp
    · have h2 : s ≠ i := fun e => h e.symm
      simp [h, h2]
theorem setF_bit (l : List Nat) (i : Nat) : (setF l).testBit i = decide (i ∈ l) := by rw [setF, setF_fold]; simp
theorem or_setF (to : Nat) (l : List Nat) : l.foldl (fun m s => m ||| 2 ^ s) to = to ||| setF l := by
  apply Nat.eq_of_testBit_eq
  intro i
  rw [setF_fold, Nat.testBit_or, setF_bit]
theorem setF_cons (s : Nat) (l : List Nat) : setF (s :: l) = 2 ^ s ||| setF l := by
  rw [setF, List.foldl_cons, or_setF, Nat.zero_or]
theorem less_bit (m x i : Nat) : (lessF m x).testBit i = (m.testBit i && !(x.testBit i)) := by
  rw [lessF, Nat.testBit_xor, Nat.testBit_and]
  cases m.testBit i <;> simp
theorem setF_zero {l : List Nat} : setF l = 0 ↔ l = [] := by
  constructor
  · intro h
    cases l with
    | nil => rfl
    | cons s l =>
      have := setF_bit (s :: l) s
      rw [h] at this
      simp at this
  · rintro rfl; rfl
theorem setF_perm {a b : List Nat} (h : ∀ i, i ∈ a ↔ i ∈ b) : setF a = setF b := by
  apply Nat.eq_of_testBit_eq
  intro i
  rw [setF_bit, setF_bit]
  simp [h i]
theorem setF_inj {a b : List Nat} (h : setF a = setF b) (i : Nat) : i ∈ a ↔ i ∈ b := by
  have := setF_bit a i
  rw [h, setF_bit] at this
  simpa using this.symm
theorem less_self (m : Nat) : lessF m m = 0 := by rw [lessF, Nat.and_self, Nat.xor_self]
theorem less_zero (m : Nat) : lessF m 0 = m := by rw [lessF, Nat.and_zero, Nat.xor_zero]
/-- a set has only slips of another one -/
def Part (x m : Nat) : Prop := ∀ i, x.testBit i = true → m.testBit i = true
theorem Part.less (m x : Nat) : Part (lessF m x) m := fun i h => by rw [less_bit, Bool.and_eq_true] at h; exact h.1
theorem Part.trans {a b c : Nat} (h : Part a b) (k : Part b c) : Part a c := fun i hi => k i (h i hi)
theorem part_le {x m : Nat} (h : Part x m) : x ≤ m := by
  have : x &&& m = x := by
    apply Nat.eq_of_testBit_eq
    intro i
    rw [Nat.testBit_and]
    cases hx : x.testBit i with
    | false => simp
    | true => simp [h i hx]
  rw [← this]
  exact Nat.and_le_right
theorem add_or : ∀ a b : Nat, a &&& b = 0 → a + b = a ||| b := by
  intro a
  induction a using Nat.strongRecOn with
  | _ a ih =>
    intro b h
    by_cases h0 : a = 0
    · subst h0; simp
    have h1 : a / 2 &&& b / 2 = 0 := by rw [← Nat.and_div_two, h]
    have h2 := ih (a / 2) (by omega) (b / 2) h1
    have h3 : (a ||| b) / 2 = a / 2 ||| b / 2 := Nat.or_div_two
    have h4 : ¬ (a % 2 = 1 ∧ b % 2 = 1) := by
      rw [← Nat.and_mod_two_eq_one, h]; simp
    have h5 : (a ||| b) % 2 = 1 ↔ a % 2 = 1 ∨ b % 2 = 1 := Nat.or_mod_two_eq_one
    omega
theorem less_sub {x m : Nat} (h : Part x m) : lessF m x = m - x := by
  have hd : lessF m x &&& x = 0 := by
    apply Nat.eq_of_testBit_eq
    intro i
    rw [Nat.testBit_and, less_bit]
    cases m.testBit i <;> cases x.testBit i <;> simp
  have ho : lessF m x ||| x = m := by
    apply Nat.eq_of_testBit_eq
    intro i
    rw [Nat.testBit_or, less_bit]
    cases hx : x.testBit i with
    | false => simp
    | true => simp [h i hx]
  have : lessF m x + x = m := by
    rw [add_or _ _ hd, ho]
  omega
theorem less_lt {m x : Nat} (h : Part x m) (hx : x ≠ 0) : lessF m x < m := by
  have := part_le h
  rw [less_sub h]
  omega
end Go.Proofs.YtomgnpfpaodpiaaDoor.PM

/- So many lists of slips, each in time: plain mathematics. -/
namespace Go.Proofs.YtomgnpfpaodpiaaDoor.PM
def okG (sec till : Nat → Int) (m : Nat) (t : Int) (s : Nat) : Bool := m.testBit s && decide (t + sec s ≤ till s)
def loopG (sec till : Nat → Int) (m : Nat) : Nat → Int → List Nat → List Nat
  | to, _, [] => if to = 0 then [] else [to]
  | to, t, s :: rest => (if okG sec till m t s then loopG sec till m (to ||| 2 ^ s) (t + sec s) rest else []) ++ loopG sec till m to t rest
variable {sec till : Nat → Int}
theorem loop_mem (m : Nat) : ∀ (rest : List Nat) (to : Nat) (t : Int) (x : Nat), x ∈ loopG sec till m to t rest ↔ x ≠ 0 ∧ ∃ sub : List Nat, sub.Sublist rest ∧ (∀ s ∈ sub, m.testBit s = true) ∧ inT sec till t sub ∧ x = to ||| setF sub
  | [], to, t, x => by
    rw [loopG]
    constructor
    · intro h
      split at h
      · simp at h
      · rw [List.mem_singleton] at h; subst h
        exact ⟨by assumption, [], .slnil, by simp, trivial, by simp [setF]⟩
    · rintro ⟨hx, sub, h1, h2, h3, h4⟩
      obtain rfl := List.sublist_nil.1 h1
      simp [setF] at h4
      subst h4
      rw [if_neg hx]; simp
  | s :: rest, to, t, x => by
    rw [loopG, List.mem_append]
    constructor
    · rintro (h | h)
      · split at h
        · rename_i hok
          rw [okG, Bool.and_eq_true, decide_eq_true_eq] at hok
          obtain ⟨hx, sub, h1, h2, h3, h4⟩ := (loop_mem m rest _ _ x).1 h
          refine ⟨hx, s :: sub, .cons_cons _ h1, ?_, ⟨hok.2, h3⟩, ?_⟩
          · intro y hy
            rcases List.mem_cons.1 hy with rfl | hy
            · exact hok.1
            · exact h2 y hy
          · rw [h4, setF_cons, Nat.or_assoc]
        · simp at h
      · obtain ⟨hx, sub, h1, h2, h3, h4⟩ := (loop_mem m rest _ _ x).1 h
        exact ⟨hx, sub, .cons _ h1, h2, h3, h4⟩
    · rintro ⟨hx, sub, h1, h2, h3, h4⟩
      cases h1 with
      | cons _ h1 => exact .inr ((loop_mem m rest _ _ x).2 ⟨hx, sub, h1, h2, h3, h4⟩)
      | cons_cons _ h1 =>
        rename_i sub
        have hok : okG sec till m t s = true := by rw [okG, h2 s (by simp)]; simpa using h3.1
        rw [if_pos hok]
        refine .inl ((loop_mem m rest _ _ x).2 ⟨hx, sub, h1, fun y hy => h2 y (by simp [hy]), h3.2, ?_⟩)
        rw [h4, setF_cons, Nat.or_assoc]
/-- so many lists of slips, each in time, that together have just those of a set -/
def Fit (sec till : Nat → Int) : Nat → Nat → Prop
  | 0, m => m = 0
  | p + 1, m => ∃ l : List Nat, l.Nodup ∧ (∀ s ∈ l, m.testBit s = true) ∧ inT sec till 0 l ∧ Fit sec till p (lessF m (setF l))
def canG (sec till : Nat → Int) (ord : List Nat) : Nat → Nat → Bool
  | 0, m => m == 0
  | p + 1, m => m == 0 || (loopG sec till m 0 0 ord).any fun x => canG sec till ord p (lessF m x)
theorem fit_zero : ∀ p : Nat, Fit sec till p 0
  | 0 => rfl
  | p + 1 => ⟨[], by simp, by simp, trivial, by rw [show setF [] = 0 from rfl, less_zero]; exact fit_zero p⟩
theorem fit_more : ∀ {p m : Nat}, Fit sec till p m → Fit sec till (p + 1) m
  | _, m, h => ⟨[], by simp, by simp, trivial, by rw [show setF [] = 0 from rfl, less_zero]; exact h⟩
theorem fit_le {p q m : Nat} (h : Fit sec till p m) (hq : p ≤ q) : Fit sec till q m := by
  induction hq with
  | refl => exact h
  | step _ ih => exact fit_more ih
/-- an order of slips: those that must be done sooner first -/
structure Ord (till : Nat → Int) (key : Nat → Nat → Bool) : Prop where
  tot : ∀ x y, key x y = false → key y x = true
  tr : ∀ x y z, key x y = true → key y z = true → key x z = true
  anti : ∀ x y, key x y = true → key y x = true → x = y
  till : ∀ x s, key x s = true → till x ≤ till s
/-- the slips of a desk in their order -/
structure Desk (key : Nat → Nat → Bool) (n : Nat) (ord : List Nat) : Prop where
  perm : ord.Perm (List.range n)
  sorted : ord.Pairwise (fun x y => key x y = true)
theorem Desk.nodup {key : Nat → Nat → Bool} {n : Nat} {ord : List Nat} (h : Desk key n ord) : ord.Nodup := h.perm.nodup_iff.2 List.nodup_range
theorem Desk.mem {key : Nat → Nat → Bool} {n : Nat} {ord : List Nat} (h : Desk key n ord) (s : Nat) : s ∈ ord ↔ s < n := by rw [h.perm.mem_iff, List.mem_range]
/-- some slips of the desk, in its order -/
def pick (x : Nat) (ord : List Nat) : List Nat := ord.filter fun s => x.testBit s
theorem Desk.pick_sort {key : Nat → Nat → Bool} {n : Nat} {ord : List Nat} (h : Desk key n ord) (hk : Ord till key) {l : List Nat} (hn : l.Nodup) (hl : ∀ s ∈ l, s < n) : pick (setF l) ord = sortP key l := by
  refine sorted_unique key hk.anti ?_ (h.sorted.sublist List.filter_sublist) (sortP_sorted key hk.tot hk.tr l)
  refine List.Perm.trans ?_ (sortP_perm key l).symm
  refine (List.perm_ext_iff_of_nodup (h.nodup.sublist List.filter_sublist) hn).2 fun s => ?_
  simp only [pick, List.mem_filter, setF_bit, h.mem, decide_eq_true_eq]
  exact ⟨fun k => k.2, fun k => ⟨hl s k, k⟩⟩
theorem Desk.setF_pick {key : Nat → Nat → Bool} {n : Nat} {ord : List Nat} (h : Desk key n ord) {x : Nat} (hx : ∀ i, x.testBit i = true → i < n) : setF (pick x ord) = x := by
  apply Nat.eq_of_testBit_eq
  intro i
  rw [setF_bit, pick]
  simp only [List.mem_filter, h.mem]
  cases hb : x.testBit i with
  | false => simp
  | true => simp [hx i hb]
theorem can_more {ord : List Nat} : ∀ (p m : Nat), canG sec till ord p m = true → canG sec till ord (p + 1) m = true
  | 0, m, h => by
    rw [canG] at h
    rw [canG, h]; rfl
  | p + 1, m, h => by
    rw [canG, Bool.or_eq_true, List.any_eq_true] at h ⊢
    rcases h with h | ⟨x, hx, h⟩
    · exact .inl h
    · exact .inr ⟨x, hx, can_more p _ h⟩
theorem can_fit {key : Nat → Nat → Bool} {n : Nat} {ord : List Nat} (h : Desk key n ord) (hk : Ord till key) (hs : ∀ s, 0 ≤ sec s) : ∀ (p m : Nat), (∀ i, m.testBit i = true → i < n) → (canG sec till ord p m = true ↔ Fit sec till p m)
  | 0, m, _ => by simp [canG, Fit]
  | p + 1, m, hm => by
    have hm' : ∀ x i, (lessF m x).testBit i = true → i < n := fun x i hi => hm i (Part.less m x i hi)
    rw [canG, Bool.or_eq_true, List.any_eq_true]
    constructor
    · rintro (h0 | ⟨x, hx, hc⟩)
      · have : m = 0 := by simpa using h0
        subst this; exact fit_zero _
      · obtain ⟨_, sub, h1, h2, h3, h4⟩ := (loop_mem m ord 0 0 x).1 hx
        rw [Nat.zero_or] at h4
        subst h4
        exact ⟨sub, h.nodup.sublist h1, h2, h3, (can_fit h hk hs p _ (hm' _)).1 hc⟩
    · rintro ⟨l, h1, h2, h3, h4⟩
      by_cases hl : l = []
      · subst hl
        rw [show setF [] = 0 from rfl, less_zero] at h4
        have := can_more p m ((can_fit h hk hs p m hm).2 h4)
        rwa [canG, Bool.or_eq_true, List.any_eq_true] at this
      · right
        have hsort := h.pick_sort hk h1 (fun s hs => hm s (h2 s hs))
        have hset : setF (sortP key l) = setF l := setF_perm fun i => (sortP_perm key l).mem_iff
        refine ⟨setF l, (loop_mem m ord 0 0 _).2 ⟨fun e => hl (setF_zero.1 e), sortP key l, ?_, ?_, inT_sort hs key hk.till l 0 h3, by rw [Nat.zero_or, hset]⟩, (can_fit h hk hs p _ (hm' _)).2 h4⟩
        · rw [← hsort]; exact List.filter_sublist
        · intro s hs
          exact h2 s ((sortP_perm key l).mem_iff.1 hs)
end Go.Proofs.YtomgnpfpaodpiaaDoor.PM

/- How few pickers there must be: plain mathematics. -/
namespace Go.Proofs.YtomgnpfpaodpiaaDoor.PM
variable {sec till : Nat → Int}
theorem part_pred : ∀ (part set x : Nat), Part part set → Part x set → x < part → x ≤ (part - 1) &&& set := by
  intro part
  induction part using Nat.strongRecOn with
  | _ part ih =>
    intro set x hp hx hlt
    have half : ∀ {a b : Nat}, Part a b → Part (a / 2) (b / 2) := fun h i hi => by
      rw [Nat.testBit_div_two] at hi ⊢
      exact h _ hi
    have low : ∀ {a b : Nat}, Part a b → a % 2 ≤ b % 2 := fun {a b} h => by
      have := h 0
      rw [Nat.testBit_zero, Nat.testBit_zero, decide_eq_true_eq, decide_eq_true_eq] at this
      omega
    have h1 : ((part - 1) &&& set) / 2 = (part - 1) / 2 &&& set / 2 := Nat.and_div_two
    have h2 : ((part - 1) &&& set) % 2 = 1 ↔ (part - 1) % 2 = 1 ∧ set % 2 = 1 := Nat.and_mod_two_eq_one
    have lx := low hx
    have lp := low hp
    by_cases hb : part % 2 = 1
    · have e : (part - 1) / 2 = part / 2 := by omega
      have e2 : part / 2 &&& set / 2 = part / 2 := by
        apply Nat.eq_of_testBit_eq
        intro i
        rw [Nat.testBit_and]
        cases hc : (part / 2).testBit i with
        | false => rfl
        | true => rw [half hp i hc]; rfl
      rw [e, e2] at h1
      omega
    · have e : (part - 1) / 2 = part / 2 - 1 := by omega
      rw [e] at h1
      have := ih (part / 2) (by omega) (set / 2) (x / 2) (half hp) (half hx) (by omega)
      omega
theorem part_and (a m : Nat) : Part (a &&& m) m := fun i h => by rw [Nat.testBit_and, Bool.and_eq_true] at h; exact h.2
/-- the least number of pickers for a set, of the parts from one on downwards -/
def bestG (can : Nat → Bool) (out : Nat → Int) (set : Nat) (part : Nat) (best : Int) : Int :=
  if h : part = 0 then best else bestG can out set ((part - 1) &&& set) (if can part then min best (1 + out (set - part)) else best)
termination_by part
decreasing_by
  have := @Nat.and_le_left (part - 1) set
  omega
theorem best_le (can : Nat → Bool) (out : Nat → Int) (set : Nat) (p : Int) : ∀ (part : Nat) (best : Int), Part part set → (bestG can out set part best ≤ p ↔ best ≤ p ∨ ∃ x, x ≠ 0 ∧ x ≤ part ∧ Part x set ∧ can x = true ∧ 1 + out (set - x) ≤ p) := by
  intro part
  induction part using Nat.strongRecOn with
  | _ part ih =>
    intro best hp
    rw [bestG]
    split
    · rename_i h
      subst h
      constructor
      · exact .inl
      · rintro (h | ⟨x, h1, h2, _⟩)
        · exact h
        · omega
    · rename_i h
      have hl := @Nat.and_le_left (part - 1) set
      rw [ih _ (by omega) _ (part_and _ _)]
      constructor
      · rintro (h1 | ⟨x, h1, h2, h3⟩)
        · split at h1
          · rename_i hc
            rcases (show best ≤ p ∨ 1 + out (set - part) ≤ p by omega) with h1 | h1
            · exact .inl h1
            · exact .inr ⟨part, h, Nat.le_refl _, hp, hc, h1⟩
          · exact .inl h1
        · exact .inr ⟨x, h1, by omega, h3⟩
      · rintro (h1 | ⟨x, h1, h2, h3, h4, h5⟩)
        · left; split <;> omega
        · by_cases hx : x = part
          · subst hx
            left; rw [if_pos h4]; omega
          · exact .inr ⟨x, h1, part_pred part set x hp h3 (by omega), h3, h4, h5⟩
/-- for each set below a number how few pickers have it in time -/
def outG (can : Nat → Bool) : Nat → List Int
  | 0 => []
  | 1 => [0]
  | k + 2 => outG can (k + 1) ++ [bestG can (fun i => (outG can (k + 1))[i]?.getD 0) (k + 1) (k + 1) 99]
theorem out_len (can : Nat → Bool) : ∀ k, (outG can k).length = k
  | 0 => rfl
  | 1 => rfl
  | k + 2 => by rw [outG, List.length_append, out_len can (k + 1)]; rfl
theorem out_at (can : Nat → Bool) {i k : Nat} (h : i < k) : (outG can k)[i]? = (outG can (i + 1))[i]? := by
  induction h with
  | refl => rfl
  | @step k h ih =>
    rw [← ih]
    obtain ⟨j, rfl⟩ : ∃ j, k = j + 1 := ⟨k - 1, by have : i + 1 ≤ k := h; omega⟩
    rw [outG, List.getElem?_append_left (by rw [out_len]; exact h)]
def fewG (can : Nat → Bool) (m : Nat) : Int := (outG can (m + 1))[m]?.getD 0
theorem few_zero (can : Nat → Bool) : fewG can 0 = 0 := rfl
theorem best_congr (can : Nat → Bool) (o o' : Nat → Int) (set : Nat) (h : ∀ x, x < set → o x = o' x) : ∀ (part : Nat) (best : Int), part ≤ set → bestG can o set part best = bestG can o' set part best := by
  intro part
  induction part using Nat.strongRecOn with
  | _ part ih =>
    intro best hp
    by_cases h0 : part = 0
    · subst h0
      unfold bestG; rfl
    · have hl := @Nat.and_le_left (part - 1) set
      have e := ih _ (show (part - 1) &&& set < part by omega) (if can part then min best (1 + o (set - part)) else best) (by omega)
      have e1 : bestG can o set part best = bestG can o set ((part - 1) &&& set) (if can part then min best (1 + o (set - part)) else best) := by
        conv => lhs; unfold bestG
        rw [dif_neg h0]
      have e2 : bestG can o' set part best = bestG can o' set ((part - 1) &&& set) (if can part then min best (1 + o' (set - part)) else best) := by
        conv => lhs; unfold bestG
        rw [dif_neg h0]
      rw [e1, e2, e, h (set - part) (by omega)]
theorem few_succ (can : Nat → Bool) (k : Nat) : fewG can (k + 1) = bestG can (fewG can) (k + 1) (k + 1) 99 := by
  rw [fewG, outG, List.getElem?_append_right (by rw [out_len]; exact Nat.le_refl _), out_len]
  simp only [Nat.sub_self, List.getElem?_cons_zero, Option.getD_some]
  refine best_congr can _ _ _ (fun x hx => ?_) _ _ (Nat.le_refl _)
  rw [fewG, out_at can hx]
/-- what the specification's fewest says -/
theorem few_le (can : Nat → Bool) {m : Nat} (hm : m ≠ 0) {p : Int} (hp : p < 99) : fewG can m ≤ p ↔ ∃ x, x ≠ 0 ∧ Part x m ∧ can x = true ∧ 1 + fewG can (lessF m x) ≤ p := by
  obtain ⟨k, rfl⟩ : ∃ k, m = k + 1 := ⟨m - 1, by omega⟩
  rw [few_succ, best_le can _ _ _ _ _ (fun i h => h)]
  constructor
  · rintro (h | ⟨x, h1, h2, h3, h4, h5⟩)
    · omega
    · exact ⟨x, h1, h3, h4, by rwa [less_sub h3]⟩
  · rintro ⟨x, h1, h3, h4, h5⟩
    exact .inr ⟨x, h1, part_le h3, h3, h4, by rwa [← less_sub h3]⟩
theorem few_nonneg (can : Nat → Bool) : ∀ m, 0 ≤ fewG can m := by
  intro m
  induction m using Nat.strongRecOn with
  | _ m ih =>
    by_cases hm : m = 0
    · subst hm; exact Int.le_refl _
    · apply Classical.byContradiction
      intro hn
      obtain ⟨x, h1, h2, h3, h4⟩ := (few_le can hm (p := -1) (by omega)).1 (by omega)
      have := ih _ (less_lt h2 h1)
      omega
theorem few_pos (can : Nat → Bool) {m : Nat} (hm : m ≠ 0) : 1 ≤ fewG can m := by
  apply Classical.byContradiction
  intro hn
  obtain ⟨x, h1, h2, h3, h4⟩ := (few_le can hm (p := 0) (by omega)).1 (by omega)
  have := few_nonneg can (lessF m x)
  omega
theorem few_top (can : Nat → Bool) (m : Nat) : fewG can m ≤ 99 := by
  by_cases hm : m = 0
  · subst hm; rw [few_zero]; omega
  · obtain ⟨k, rfl⟩ : ∃ k, m = k + 1 := ⟨m - 1, by omega⟩
    rw [few_succ, best_le can _ _ _ _ _ (fun i h => h)]
    exact .inl (Int.le_refl _)
/-- it is how few pickers there must be -/
theorem few_fit {key : Nat → Nat → Bool} {n : Nat} {ord : List Nat} (h : Desk key n ord) (hk : Ord till key) (hs : ∀ s, 0 ≤ sec s) (can : Nat → Bool) (hc : ∀ x, (∀ i, x.testBit i = true → i < n) → (can x = true ↔ inT sec till 0 (pick x ord))) :
    ∀ (p m : Nat), p < 99 → (∀ i, m.testBit i = true → i < n) → (fewG can m ≤ (p : Int) ↔ Fit sec till p m)
  | 0, m, _, _ => by
    rw [Fit]
    constructor
    · intro h0
      apply Classical.byContradiction
      intro hm
      have := few_pos can hm
      omega
    · rintro rfl; exact Int.le_refl _
  | p + 1, m, hp, hm => by
    by_cases h0 : m = 0
    · subst h0
      exact ⟨fun _ => fit_zero _, fun _ => by rw [few_zero]; omega⟩
    · rw [few_le can h0 (by omega)]
      constructor
      · rintro ⟨x, h1, h2, h3, h4⟩
        have hx : ∀ i, x.testBit i = true → i < n := fun i hi => hm i (h2 i hi)
        refine ⟨pick x ord, h.nodup.sublist List.filter_sublist, fun s hs => ?_, (hc x hx).1 h3, ?_⟩
        · exact h2 s (List.mem_filter.1 hs).2
        · rw [h.setF_pick hx]
          exact (few_fit h hk hs can hc p _ (by omega) (fun i hi => hm i (Part.less m x i hi))).1 (by omega)
      · rintro ⟨l, h1, h2, h3, h4⟩
        have hl : ∀ s ∈ l, s < n := fun s hs => hm s (h2 s hs)
        by_cases he : l = []
        · subst he
          rw [show setF [] = 0 from rfl, less_zero] at h4
          have h5 := (few_fit h hk hs can hc p m (by omega) hm).2 h4
          obtain ⟨x, g1, g2, g3, g4⟩ := (few_le can h0 (by omega)).1 h5
          exact ⟨x, g1, g2, g3, by omega⟩
        · have hp2 : Part (setF l) m := fun i hi => by rw [setF_bit, decide_eq_true_eq] at hi; exact h2 i hi
          refine ⟨setF l, fun e => he (setF_zero.1 e), hp2, (hc _ (fun i hi => hm i (hp2 i hi))).2 ?_, ?_⟩
          · rw [h.pick_sort hk h1 hl]
            exact inT_sort hs key hk.till l 0 h3
          · have := (few_fit h hk hs can hc p _ (by omega) (fun i hi => hm i (Part.less m _ i hi))).2 h4
            omega
end Go.Proofs.YtomgnpfpaodpiaaDoor.PM

