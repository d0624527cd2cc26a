/- The first of the fewest slips that are late: plain mathematics. -/
import Derived.Test.YtomgnpfpaodpiaaDoorH33
set_option linter.unusedVariables false
set_option linter.unusedSimpArgs false
namespace Go.Proofs.YtomgnpfpaodpiaaDoor.PM
/-- does a list come before another one, element by element -/
def aheadB : List Int → List Int → Bool
  | a :: l, b :: r => if a = b then aheadB l r else decide (a < b)
  | [], _ :: _ => true
  | _, [] => false
/-- is a list of slips told rather than another one -/
def prefB (a b : List Int) : Bool := decide (a.length < b.length) || (decide (a.length = b.length) && aheadB a b)
theorem ahead_irr : ∀ a : List Int, aheadB a a = false
  | [] => rfl
  | a :: l => by rw [aheadB, if_pos rfl, ahead_irr l]
theorem ahead_tri : ∀ a b : List Int, a = b ∨ aheadB a b = true ∨ aheadB b a = true
  | [], [] => .inl rfl
  | [], _ :: _ => .inr (.inl rfl)
  | _ :: _, [] => .inr (.inr rfl)
  | a :: l, b :: r => by
    by_cases h : a = b
    · subst h
      rw [aheadB, aheadB, if_pos rfl, if_pos rfl]
      rcases ahead_tri l r with rfl | h | h
      · exact .inl rfl
      · exact .inr (.inl h)
      · exact .inr (.inr h)
    · rw [aheadB, aheadB, if_neg h, if_neg (fun e => h e.symm), decide_eq_true_eq, decide_eq_true_eq]
      omega
theorem ahead_trans : ∀ a b c : List Int, aheadB a b = true → aheadB b c = true → aheadB a c = true
  | [], _, [], h, k => by cases ‹List Int› <;> simp [aheadB] at h k
  | [], _, _ :: _, _, _ => rfl
  | _ :: _, [], _, h, _ => by simp [aheadB] at h
  | _ :: _, _ :: _, [], _, k => by simp [aheadB] at k
  | a :: l, b :: r, c :: s, h, k => by
    rw [aheadB] at h k ⊢
    by_cases h1 : a = b
    · subst h1
      rw [if_pos rfl] at h
      by_cases h2 : a = c
      · subst h2
        rw [if_pos rfl] at k ⊢
        exact ahead_trans l r s h k
      · rw [if_neg h2] at k ⊢
        exact k
    · rw [if_neg h1, decide_eq_true_eq] at h
      by_cases h2 : b = c
      · subst h2
        rw [if_neg h1, decide_eq_true_eq]; exact h
      · rw [if_neg h2, decide_eq_true_eq] at k
        rw [if_neg (by omega), decide_eq_true_eq]; omega
theorem pref_iff (a b : List Int) : prefB a b = true ↔ a.length < b.length ∨ (a.length = b.length ∧ aheadB a b = true) := by simp [prefB]
theorem pref_irr (a : List Int) : prefB a a = false := by simp [prefB, ahead_irr]
theorem pref_tri (a b : List Int) : a = b ∨ prefB a b = true ∨ prefB b a = true := by
  rw [pref_iff, pref_iff]
  rcases ahead_tri a b with rfl | h | h
  · exact .inl rfl
  · by_cases hl : a.length = b.length
    · exact .inr (.inl (.inr ⟨hl, h⟩))
    · omega
  · by_cases hl : a.length = b.length
    · exact .inr (.inr (.inr ⟨hl.symm, h⟩))
    · omega
theorem pref_trans {a b c : List Int} (h : prefB a b = true) (k : prefB b c = true) : prefB a c = true := by
  rw [pref_iff] at h k ⊢
  rcases h with h | ⟨h, h'⟩ <;> rcases k with k | ⟨k, k'⟩
  · omega
  · omega
  · omega
  · exact .inr ⟨h.trans k, ahead_trans _ _ _ h' k'⟩
theorem pref_asym {a b : List Int} (h : prefB a b = true) : prefB b a = false := by
  cases hb : prefB b a with
  | false => rfl
  | true => have := pref_trans h hb; rw [pref_irr] at this; cases this
/-- the first one of all that do -/
structure Best (U : List Int → Prop) (P : List Int → Bool) (y : List Int) : Prop where
  in_ : U y
  ok : P y = true
  first : ∀ z, U z → P z = true → prefB z y = false
theorem Best.unique {U : List Int → Prop} {P : List Int → Bool} {y z : List Int} (h : Best U P y) (k : Best U P z) : y = z := by
  rcases pref_tri y z with e | e | e
  · exact e
  · rw [k.first y h.in_ h.ok] at e; cases e
  · rw [h.first z k.in_ k.ok] at e; cases e
theorem cho_mem : ∀ (rest ch : List Int) (m : Nat) (y : List Int), y ∈ choF m rest ch ↔ ch.length ≤ m ∧ ∃ sub : List Int, sub.Sublist rest ∧ y = ch ++ sub ∧ y.length = m
  | [], ch, m, y => by
    rw [choF]
    constructor
    · intro h
      split at h
      · rw [List.mem_singleton] at h; subst h
        exact ⟨by omega, [], .slnil, by simp, by assumption⟩
      · simp [chL] at h
    · rintro ⟨_, sub, h1, h2, h3⟩
      obtain rfl := List.sublist_nil.1 h1
      rw [List.append_nil] at h2
      subst h2
      rw [if_pos h3]; simp
  | x :: rest, ch, m, y => by
    by_cases hc : ch.length = m
    · rw [choF, if_pos hc, List.mem_singleton]
      constructor
      · rintro rfl; exact ⟨by omega, [], List.nil_sublist _, by simp, hc⟩
      · rintro ⟨_, sub, h1, h2, h3⟩
        have : sub = [] := by
          have := congrArg List.length h2
          rw [List.length_append] at this
          exact List.length_eq_zero_iff.1 (by omega)
        rw [h2, this, List.append_nil]
    · have e : choF m (x :: rest) ch = choF m rest (ch ++ [x]) ++ chL m rest ch := by rw [choF, if_neg hc, chL_cons]
      have e2 : chL m rest ch = choF m rest ch := by rw [choF, if_neg hc]
      rw [e, e2, List.mem_append, cho_mem rest, cho_mem rest]
      constructor
      · rintro (⟨h0, sub, h1, h2, h3⟩ | ⟨h0, sub, h1, h2, h3⟩)
        · exact ⟨by simp at h0; omega, x :: sub, .cons_cons _ h1, by rw [h2]; simp, h3⟩
        · exact ⟨h0, sub, .cons _ h1, h2, h3⟩
      · rintro ⟨h0, sub, h1, h2, h3⟩
        cases h1 with
        | cons _ h1 => exact .inr ⟨h0, sub, h1, h2, h3⟩
        | cons_cons _ h1 =>
          rename_i sub
          exact .inl ⟨by simp; omega, sub, h1, by rw [h2]; simp, h3⟩
theorem ahead_pre : ∀ (ch : List Int) (x z : Int) (u v : List Int), x < z → aheadB (ch ++ x :: u) (ch ++ z :: v) = true
  | [], x, z, u, v, h => by
    rw [List.nil_append, List.nil_append, aheadB, if_neg (by omega), decide_eq_true_eq]; exact h
  | c :: ch, x, z, u, v, h => by
    rw [List.cons_append, List.cons_append, aheadB, if_pos rfl]
    exact ahead_pre ch x z u v h
theorem cho_sorted : ∀ (rest ch : List Int) (m : Nat), rest.Pairwise (· < ·) → (choF m rest ch).Pairwise (fun a b => aheadB a b = true)
  | [], ch, m, _ => by
    rw [choF]
    split
    · simp
    · simp [chL]
  | x :: rest, ch, m, h => by
    obtain ⟨h1, h2⟩ := List.pairwise_cons.1 h
    by_cases hc : ch.length = m
    · rw [choF, if_pos hc]; simp
    · have e : choF m (x :: rest) ch = choF m rest (ch ++ [x]) ++ chL m rest ch := by rw [choF, if_neg hc, chL_cons]
      have e2 : chL m rest ch = choF m rest ch := by rw [choF, if_neg hc]
      rw [e, e2, List.pairwise_append]
      refine ⟨cho_sorted rest _ m h2, cho_sorted rest ch m h2, fun a ha b hb => ?_⟩
      obtain ⟨_, s1, g1, g2, g3⟩ := (cho_mem _ _ _ _).1 ha
      obtain ⟨_, s2, k1, k2, k3⟩ := (cho_mem _ _ _ _).1 hb
      subst g2 k2
      cases s2 with
      | nil => exact absurd (by simpa using k3) hc
      | cons z s2 =>
        have hz : z ∈ rest := k1.subset (by simp)
        rw [List.append_assoc]
        exact ahead_pre ch x z s1 s2 (h1 z hz)
/-- the fewest slips that are late, the first list of them -/
def lateG (P : List Int → Bool) (n : Nat) (l : List Int) : List Int := ((List.range n).findSome? fun many => (choF many l []).find? P).getD l
theorem late_best (P : List Int → Bool) (l : List Int) (hl : l.Pairwise (· < ·)) (hP : P l = true) : Best (fun y => y.Sublist l) P (lateG P l.length l) := by
  have inU : ∀ {many : Nat} {y : List Int}, y ∈ choF many l [] ↔ y.Sublist l ∧ y.length = many := fun {many y} => by
    rw [cho_mem]
    constructor
    · rintro ⟨_, sub, h1, h2, h3⟩
      rw [List.nil_append] at h2; subst h2; exact ⟨h1, h3⟩
    · rintro ⟨h1, h2⟩; exact ⟨by simp, y, h1, rfl, h2⟩
  rw [lateG]
  cases hf : (List.range l.length).findSome? fun many => (choF many l []).find? P with
  | none =>
    rw [List.findSome?_eq_none_iff] at hf
    refine ⟨List.Sublist.refl _, hP, fun z h1 h2 => ?_⟩
    cases hb : prefB z l with
    | false => rw [Option.getD_none]; exact hb
    | true =>
      exfalso
      rw [pref_iff] at hb
      have hz : z.length < l.length := by
        rcases hb with hb | ⟨hb, hb'⟩
        · exact hb
        · have := h1.eq_of_length hb
          subst this
          rw [ahead_irr] at hb'; cases hb'
      have := hf z.length (List.mem_range.2 hz)
      rw [List.find?_eq_none] at this
      exact this z (inU.2 ⟨h1, rfl⟩) h2
  | some y =>
    rw [List.findSome?_eq_some_iff] at hf
    obtain ⟨l1, many, l2, e, hy, hb⟩ := hf
    have hmany : many = l1.length := by
      have h1 : (List.range l.length)[l1.length]? = some many := by rw [e, List.getElem?_append_right (Nat.le_refl _), Nat.sub_self]; rfl
      obtain ⟨h2, h3⟩ := List.getElem?_eq_some_iff.1 h1
      rw [List.getElem_range] at h3
      exact h3.symm
    have hl1 : l1 = List.range many := by
      have h1 : l1 = (List.range l.length).take l1.length := by rw [e, List.take_left]
      have h2 : l1.length ≤ l.length := by have := congrArg List.length e; simp at this; omega
      rw [h1, List.take_range, Nat.min_eq_left h2, hmany]
    rw [List.find?_eq_some_iff_append] at hy
    obtain ⟨hP1, l3, l4, hs, hall⟩ := hy
    have hyU : y.Sublist l ∧ y.length = many := inU.1 (by rw [hs]; simp)
    refine ⟨hyU.1, hP1, fun z h1 h2 => ?_⟩
    rw [Option.getD_some]
    cases hb2 : prefB z y with
    | false => rfl
    | true =>
      exfalso
      rw [pref_iff] at hb2
      rcases hb2 with h3 | ⟨h3, h4⟩
      · have := hb z.length (by rw [hl1, List.mem_range]; omega)
        rw [List.find?_eq_none] at this
        exact this z (inU.2 ⟨h1, rfl⟩) h2
      · have hz : z ∈ choF many l [] := inU.2 ⟨h1, by omega⟩
        rw [hs, List.mem_append, List.mem_cons] at hz
        rcases hz with hz | rfl | hz
        · have := hall z hz; rw [h2] at this; cases this
        · rw [ahead_irr] at h4; cases h4
        · have hso := cho_sorted l [] many hl
          rw [hs] at hso
          have h5 := (List.pairwise_cons.1 (List.pairwise_append.1 hso).2.1).1 z hz
          have h6 := ahead_trans _ _ _ h4 h5
          rw [ahead_irr] at h6; cases h6
/-- the same, found by going over some lists one by one -/
def passB (P : List Int → Bool) (best y : List Int) : List Int := if P y && prefB y best then y else best
theorem pass_best (P : List Int → Bool) : ∀ (L : List (List Int)) (best : List Int), P best = true → P (L.foldl (passB P) best) = true ∧ (L.foldl (passB P) best = best ∨ L.foldl (passB P) best ∈ L) ∧ prefB best (L.foldl (passB P) best) = false ∧ ∀ z ∈ L, P z = true → prefB z (L.foldl (passB P) best) = false
  | [], best, h => ⟨h, .inl rfl, pref_irr _, by simp⟩
  | y :: L, best, h => by
    rw [List.foldl_cons]
    have hb : P (passB P best y) = true := by
      rw [passB]
      split
      · rename_i h1; rw [Bool.and_eq_true] at h1; exact h1.1
      · exact h
    obtain ⟨i1, i2, i3, i4⟩ := pass_best P L (passB P best y) hb
    refine ⟨i1, ?_, ?_, ?_⟩
    · rcases i2 with i2 | i2
      · rw [i2, passB]
        split
        · exact .inr (by simp)
        · exact .inl rfl
      · exact .inr (by simp [i2])
    · cases hc : prefB best (L.foldl (passB P) (passB P best y)) with
      | false => rfl
      | true =>
        exfalso
        by_cases h1 : (P y && prefB y best) = true
        · have e : passB P best y = y := by rw [passB, if_pos h1]
          rw [e] at hc i3
          rw [Bool.and_eq_true] at h1
          have := pref_trans h1.2 hc
          rw [i3] at this; cases this
        · have e : passB P best y = best := by rw [passB, if_neg h1]
          rw [e] at hc i3
          rw [i3] at hc; cases hc
    · intro z hz hPz
      rcases List.mem_cons.1 hz with rfl | hz
      · by_cases h1 : (P z && prefB z best) = true
        · have e : passB P best z = z := by rw [passB, if_pos h1]
          rw [e] at i3 ⊢
          exact i3
        · have e : passB P best z = best := by rw [passB, if_neg h1]
          rw [e] at i3 ⊢
          cases hc : prefB z (L.foldl (passB P) best) with
          | false => rfl
          | true =>
            exfalso
            rcases pref_tri z best with e1 | e1 | e1
            · subst e1; rw [i3] at hc; cases hc
            · rw [hPz, e1] at h1; exact h1 rfl
            · have := pref_trans e1 hc
              rw [i3] at this; cases this
      · exact i4 z hz hPz
end Go.Proofs.YtomgnpfpaodpiaaDoor.PM

/- How many steps pieces take: plain mathematics. -/
namespace Go.Proofs.YtomgnpfpaodpiaaDoor.PM
/-- how many steps pieces take, the farthest first, so many at once -/
def stD (C : Nat) : Nat → List Int → Int
  | 0, _ => 0
  | _ + 1, [] => 0
  | n + 1, d :: D => 2 * d + stD C n ((d :: D).drop C)
def cnt (h : Int) (D : List Int) : Nat := D.countP fun d => decide (h ≤ d)
def upD (x C : Nat) : Nat := (x + C - 1) / C
/-- added up from 1 on -/
def sumH (g : Nat → Int) : Nat → Int
  | 0 => 0
  | h + 1 => sumH g h + g (h + 1)
theorem sumH_add (g k : Nat → Int) : ∀ H, sumH (fun h => g h + k h) H = sumH g H + sumH k H
  | 0 => rfl
  | H + 1 => by rw [sumH, sumH, sumH, sumH_add g k H]; omega
theorem sumH_le {g k : Nat → Int} (h : ∀ i, g i ≤ k i) : ∀ H, sumH g H ≤ sumH k H
  | 0 => Int.le_refl _
  | H + 1 => by have := sumH_le h H; have := h (H + 1); rw [sumH, sumH]; omega
theorem sumH_zero : ∀ H, sumH (fun _ => 0) H = 0
  | 0 => rfl
  | H + 1 => by rw [sumH, sumH_zero H]; rfl
theorem sumH_congr {g k : Nat → Int} (H : Nat) (h : ∀ i, 1 ≤ i → i ≤ H → g i = k i) : sumH g H = sumH k H := by
  induction H with
  | zero => rfl
  | succ H ih => rw [sumH, sumH, ih (fun i h1 h2 => h i h1 (by omega)), h (H + 1) (by omega) (Nat.le_refl _)]
/-- a number is how many numbers from 1 on are not above it -/
theorem sumH_one (d : Int) (h0 : 0 ≤ d) : ∀ H : Nat, sumH (fun h => if (h : Int) ≤ d then 1 else 0) H = min d H
  | 0 => by rw [sumH]; omega
  | H + 1 => by
    rw [sumH, sumH_one d h0 H]
    split <;> omega
theorem up_zero {C : Nat} (hC : 1 ≤ C) : upD 0 C = 0 := Nat.div_eq_of_lt (by omega)
theorem up_one {x C : Nat} (h1 : 1 ≤ x) (h2 : x ≤ C) : upD x C = 1 := by
  unfold upD
  rw [show x + C - 1 = (x - 1) + C by omega, Nat.add_div_right _ (by omega), Nat.div_eq_of_lt (by omega)]
theorem up_add {x C : Nat} (hC : 1 ≤ C) : upD (C + x) C = 1 + upD x C := by
  unfold upD
  rw [show C + x + C - 1 = (x + C - 1) + C by omega, Nat.add_div_right _ (by omega)]
  omega
theorem up_le {x k C : Nat} (hC : 1 ≤ C) (h : x ≤ C * k) : upD x C ≤ k := by
  unfold upD
  have : (x + C - 1) / C < k + 1 := Nat.div_lt_of_lt_mul (by rw [Nat.mul_add]; omega)
  omega
theorem up_mono {x C C' : Nat} (hC : 1 ≤ C) (h : C ≤ C') : upD x C' ≤ upD x C := by
  refine up_le (by omega) ?_
  have h1 : x ≤ C * upD x C := by
    unfold upD
    have := Nat.div_add_mod (x + C - 1) C
    have := Nat.mod_lt (x + C - 1) (show 0 < C by omega)
    omega
  exact Nat.le_trans h1 (Nat.mul_le_mul_right _ h)
theorem cnt_app (h : Int) (a b : List Int) : cnt h (a ++ b) = cnt h a + cnt h b := by simp [cnt, List.countP_append]
theorem cnt_le (h : Int) (a : List Int) : cnt h a ≤ a.length := List.countP_le_length
theorem cnt_all {h : Int} {a : List Int} (ha : ∀ x ∈ a, h ≤ x) : cnt h a = a.length := by
  rw [cnt, List.countP_eq_length]
  intro x hx
  simpa using ha x hx
theorem cnt_none {h : Int} {a : List Int} (ha : ∀ x ∈ a, x < h) : cnt h a = 0 := by
  rw [cnt, List.countP_eq_zero]
  intro x hx
  have := ha x hx
  simp; omega
theorem cnt_some {h : Int} {a : List Int} (hc : cnt h a ≠ 0) : ∃ x ∈ a, h ≤ x := by
  rw [cnt] at hc
  obtain ⟨x, hx, hp⟩ := List.countP_pos_iff.1 (by omega : 0 < a.countP fun d => decide (h ≤ d))
  exact ⟨x, hx, by simpa using hp⟩
/-- steps, by how far away they are -/
theorem st_sum {C : Nat} (hC : 1 ≤ C) (H : Nat) : ∀ (n : Nat) (D : List Int), D.length ≤ n → D.Pairwise (· ≥ ·) → (∀ d ∈ D, 0 ≤ d ∧ d ≤ H) → stD C n D = 2 * sumH (fun h => (upD (cnt h D) C : Nat)) H
  | 0, D, hn, _, _ => by
    obtain rfl := List.length_eq_zero_iff.1 (by omega : D.length = 0)
    rw [stD, show (fun h : Nat => ((upD (cnt h []) C : Nat) : Int)) = fun _ => 0 from funext fun h => by simp [cnt, up_zero hC], sumH_zero]; rfl
  | n + 1, [], _, _, _ => by
    rw [stD, show (fun h : Nat => ((upD (cnt h []) C : Nat) : Int)) = fun _ => 0 from funext fun h => by simp [cnt, up_zero hC], sumH_zero]; rfl
  | n + 1, d :: D, hn, hs, hb => by
    have hsub : ((d :: D).drop C).Sublist (d :: D) := List.drop_sublist _ _
    rw [stD, st_sum hC H n _ (by rw [List.length_drop]; simp at hn ⊢; omega) (hs.sublist hsub) (fun x hx => hb x (hsub.subset hx))]
    have key : ∀ h : Nat, ((upD (cnt h (d :: D)) C : Nat) : Int) = (if (h : Int) ≤ d then 1 else 0) + ((upD (cnt h ((d :: D).drop C)) C : Nat) : Int) := fun h => by
      have hsplit : cnt h (d :: D) = cnt h ((d :: D).take C) + cnt h ((d :: D).drop C) := by rw [← cnt_app, List.take_append_drop]
      by_cases hd : (h : Int) ≤ d
      · rw [if_pos hd]
        by_cases h0 : cnt h ((d :: D).drop C) = 0
        · have h1 : 1 ≤ cnt h ((d :: D).take C) := by
            obtain ⟨c, rfl⟩ : ∃ c, C = c + 1 := ⟨C - 1, by omega⟩
            rw [List.take_succ_cons, cnt, List.countP_cons_of_pos (by simpa using hd)]
            omega
          have h2 : cnt h ((d :: D).take C) ≤ C := Nat.le_trans (cnt_le _ _) (by rw [List.length_take]; omega)
          rw [hsplit, h0, Nat.add_zero, up_one h1 h2, up_zero hC]; rfl
        · obtain ⟨x, hx, hxh⟩ := cnt_some h0
          have hall : ∀ y ∈ (d :: D).take C, (h : Int) ≤ y := fun y hy => by
            have hp := hs
            rw [← List.take_append_drop C (d :: D), List.pairwise_append] at hp
            have := hp.2.2 y hy x hx
            omega
          have hlen : ((d :: D).take C).length = C := by
            rw [List.length_take]
            have : 0 < ((d :: D).drop C).length := List.length_pos_of_mem hx
            rw [List.length_drop] at this
            omega
          rw [hsplit, cnt_all hall, hlen, up_add hC]
          omega
      · rw [if_neg hd]
        have h1 : ∀ y ∈ d :: D, y < (h : Int) := fun y hy => by
          rcases List.mem_cons.1 hy with rfl | hy
          · omega
          · have := (List.pairwise_cons.1 hs).1 y hy
            omega
        rw [cnt_none h1, cnt_none (fun y hy => h1 y (hsub.subset hy)), up_zero hC]; rfl
    rw [show (fun h : Nat => ((upD (cnt h (d :: D)) C : Nat) : Int)) = fun h : Nat => (if (h : Int) ≤ d then 1 else 0) + ((upD (cnt h ((d :: D).drop C)) C : Nat) : Int) from funext key, sumH_add, sumH_one d (hb d (by simp)).1]
    have := hb d (by simp)
    omega
/-- who can carry more takes no more steps -/
theorem st_carry {C C' : Nat} (hC : 1 ≤ C) (h : C ≤ C') (H : Nat) (n : Nat) (D : List Int) (hn : D.length ≤ n) (hs : D.Pairwise (· ≥ ·)) (hb : ∀ d ∈ D, 0 ≤ d ∧ d ≤ H) : stD C' n D ≤ stD C n D := by
  rw [st_sum hC H n D hn hs hb, st_sum (by omega) H n D hn hs hb]
  have : sumH (fun h => ((upD (cnt h D) C' : Nat) : Int)) H ≤ sumH (fun h => ((upD (cnt h D) C : Nat) : Int)) H := sumH_le (fun i => by have := @up_mono (cnt i D) C C' hC h; omega) H
  omega
/-- no tours take fewer: each has how far it goes, and its pieces -/
theorem tours_most {C : Nat} (hC : 1 ≤ C) (H : Nat) (n : Nat) (D : List Int) (hn : D.length ≤ n) (hs : D.Pairwise (· ≥ ·)) (hb : ∀ d ∈ D, 0 ≤ d ∧ d ≤ H) (ts : List (Int × List Int)) (h0 : ∀ t ∈ ts, 0 ≤ t.1 ∧ t.1 ≤ H) (hc : ∀ t ∈ ts, t.2.length ≤ C) (hf : ∀ t ∈ ts, ∀ d ∈ t.2, d ≤ t.1) (hp : (ts.flatMap fun t => t.2).Perm D) :
    stD C n D ≤ 2 * (ts.map fun t => t.1).sum := by
  rw [st_sum hC H n D hn hs hb]
  have e1 : ∀ ts : List (Int × List Int), (∀ t ∈ ts, 0 ≤ t.1 ∧ t.1 ≤ H) → (ts.map fun t => t.1).sum = sumH (fun h => ((ts.countP fun t => decide ((h : Int) ≤ t.1) : Nat) : Int)) H := by
    intro ts
    induction ts with
    | nil => intro _; simp only [List.map_nil, List.sum_nil, List.countP_nil]; exact (sumH_zero H).symm
    | cons t ts ih =>
      intro h
      have ht := h t (by simp)
      rw [List.map_cons, List.sum_cons, ih (fun x hx => h x (by simp [hx]))]
      have : (fun h : Nat => (((t :: ts).countP fun t => decide ((h : Int) ≤ t.1) : Nat) : Int)) = fun h : Nat => (if (h : Int) ≤ t.1 then 1 else 0) + ((ts.countP fun t => decide ((h : Int) ≤ t.1) : Nat) : Int) := funext fun h => by
        rw [List.countP_cons]
        simp only [decide_eq_true_eq]
        split <;> omega
      rw [this, sumH_add, sumH_one t.1 ht.1]
      omega
  have e2 : ∀ h : Nat, cnt h D ≤ C * ts.countP fun t => decide ((h : Int) ≤ t.1) := fun h => by
    have : cnt h D = cnt h (ts.flatMap fun t => t.2) := (hp.countP_eq _).symm
    rw [this]
    clear this hp e1 h0 hb hs hn
    induction ts with
    | nil => simp [cnt]
    | cons t ts ih =>
      have ih := ih (fun x hx => hc x (by simp [hx])) (fun x hx => hf x (by simp [hx]))
      rw [List.flatMap_cons, cnt_app, List.countP_cons]
      simp only [decide_eq_true_eq]
      split
      · rename_i hh
        have h1 := cnt_le h t.2
        have h2 := hc t (by simp)
        rw [Nat.mul_add]
        omega
      · rename_i hh
        rw [cnt_none (fun y hy => by have := hf t (by simp) y hy; omega), Nat.add_zero]
        omega
  rw [e1 ts h0]
  have := sumH_le (g := fun h => ((upD (cnt h D) C : Nat) : Int)) (k := fun h => ((ts.countP fun t => decide ((h : Int) ≤ t.1) : Nat) : Int)) (fun i => by have := up_le hC (e2 i); omega) H
  omega
/-- nearer pieces take no more steps -/
theorem st_near {C : Nat} : ∀ (n : Nat) (D E : List Int), D.length = E.length → (∀ (i : Nat) (x y : Int), D[i]? = some x → E[i]? = some y → x ≤ y) → stD C n D ≤ stD C n E
  | 0, _, _, _, _ => Int.le_refl _
  | n + 1, [], [], _, _ => Int.le_refl _
  | n + 1, [], _ :: _, h, _ => by simp at h
  | n + 1, _ :: _, [], h, _ => by simp at h
  | n + 1, d :: D, e :: E, h, k => by
    rw [stD, stD]
    have h1 := k 0 d e rfl rfl
    have h2 := st_near (C := C) n ((d :: D).drop C) ((e :: E).drop C) (by rw [List.length_drop, List.length_drop, h]) (fun i x y hx hy => by
      rw [List.getElem?_drop] at hx hy
      exact k _ x y hx hy)
    omega
end Go.Proofs.YtomgnpfpaodpiaaDoor.PM

