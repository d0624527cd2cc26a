/- The lists of a roster: who has what, in time; when each slip is done. Plain mathematics. -/
import Derived.Test.YtomgnpfpaodpiaaDoorH48
import Derived.Laws.OwnMore
set_option linter.unusedVariables false
set_option linter.unusedSimpArgs false
namespace Go.Proofs.YtomgnpfpaodpiaaDoor
open Go Go.RowKit
set_option maxHeartbeats 2000000
theorem natsC_mem {l : List Nat} {x : Int} : x ∈ natsC l ↔ ∃ s ∈ l, (s : Int) = x := by
  unfold natsC
  rw [List.mem_map]
/-- what one of a crew is given is in time, and the others have the rest -/
theorem one_spec {f : Floor} (hv : validB f = true) {p m : Nat} (hm : ∀ i, m.testBit i = true → i < f.slips.length) (hc : canF f (p + 1) m = true) :
    PM.Part (oneF f (p + 1) m) m ∧ PM.inT (secF f) (dueF f) 0 (sortedF (oneF f (p + 1) m) (ordN f)) ∧ canF f p (lessF m (oneF f (p + 1) m)) = true := by
  have hd := desk_is (fine hv).slips9
  by_cases h0 : m = 0
  · subst h0
    rw [oneF, if_pos rfl, PM.less_zero]
    refine ⟨fun i hi => hi, ?_, can_zero f p⟩
    have : sortedF 0 (ordN f) = [] := by unfold sortedF; simp
    rw [this]; trivial
  · rw [oneF, if_neg h0]
    rw [canF, Bool.or_eq_true, List.any_eq_true] at hc
    rcases hc with hc | ⟨y, hy, hcy⟩
    · exact absurd (by simpa using hc) h0
    · unfold shareF
      rw [Nat.add_sub_cancel]
      cases hf : (givenF f m).find? fun x => canF f p (lessF m x) with
      | none =>
        have := List.find?_eq_none.1 hf y hy
        exact absurd hcy this
      | some x =>
        rw [Option.getD_some]
        have h1 : canF f p (lessF m x) = true := by
          have := List.find?_some hf
          simpa using this
        have h2 := List.mem_of_find?_eq_some hf
        rw [givenF, loop_is] at h2
        obtain ⟨_, sub, g1, g2, g3, g4⟩ := (PM.loop_mem m (ordN f) 0 0 x).1 h2
        rw [Nat.zero_or] at g4
        subst g4
        refine ⟨fun i hi => ?_, ?_, h1⟩
        · rw [PM.setF_bit, decide_eq_true_eq] at hi
          exact g2 i hi
        · have e := hd.pick_sort (ord_is f) (hd.nodup.sublist g1) (fun s hs => hm s (g2 s hs))
          have : sortedF (setF sub) (ordN f) = PM.pick (setF sub) (ordN f) := rfl
          rw [this, e]
          exact PM.inT_sort (sec_nonneg hv) (before f) (ord_is f).till sub 0 g3
/-- the lists of a crew that can: each in time, each slip on just one of them -/
theorem roster_spec {f : Floor} (hv : validB f = true) : ∀ (p m : Nat), (∀ i, m.testBit i = true → i < f.slips.length) → canF f p m = true →
    (∀ l ∈ rosterF f p m, PM.inT (secF f) (dueF f) 0 l) ∧ (rosterF f p m).flatten.Nodup ∧ ∀ s, s ∈ (rosterF f p m).flatten ↔ m.testBit s = true
  | 0, m, hm, hc => by
    rw [canF] at hc
    obtain rfl : m = 0 := by simpa using hc
    refine ⟨by simp [rosterF], by simp [rosterF], fun s => by simp [rosterF]⟩
  | p + 1, m, hm, hc => by
    have hd := desk_is (fine hv).slips9
    obtain ⟨h1, h2, h3⟩ := one_spec hv hm hc
    obtain ⟨g1, g2, g3⟩ := roster_spec hv p (lessF m (oneF f (p + 1) m)) (fun i hi => hm i (PM.Part.less m _ i hi)) h3
    have hmem : ∀ s, s ∈ sortedF (oneF f (p + 1) m) (ordN f) ↔ (oneF f (p + 1) m).testBit s = true := fun s => by
      unfold sortedF
      rw [List.mem_filter, hd.mem]
      exact ⟨fun h => h.2, fun h => ⟨hm s (h1 s h), h⟩⟩
    rw [rosterF, List.flatten_cons]
    refine ⟨fun l hl => ?_, ?_, fun s => ?_⟩
    · rcases List.mem_cons.1 hl with rfl | hl
      · exact h2
      · exact g1 l hl
    · rw [List.nodup_append]
      refine ⟨hd.nodup.sublist List.filter_sublist, g2, fun a ha b hb hab => ?_⟩
      subst hab
      have h4 := (hmem a).1 ha
      have h5 := (g3 a).1 hb
      rw [PM.less_bit, h4] at h5
      simp at h5
    · rw [List.mem_append, hmem, g3, PM.less_bit]
      cases hb : (oneF f (p + 1) m).testBit s with
      | true => simp [h1 s hb]
      | false => simp
/-- a list of slips, each one once, goes onto a roster -/
theorem step_nats {f : Floor} : ∀ (l : List Nat) (m : Nat), l.Nodup → (∀ s ∈ l, s < f.slips.length ∧ m.testBit s = false) → (natsC l).foldl (stepR f) (some m) = some (m ||| setF l)
  | [], m, _, _ => by simp [natsC, setF]
  | s :: l, m, hn, h => by
    obtain ⟨n1, n2⟩ := List.nodup_cons.1 hn
    obtain ⟨h1, h2⟩ := h s (by simp)
    have e : natsC (s :: l) = (s : Int) :: natsC l := rfl
    have e2 : stepR f (some m) (s : Int) = some (m ||| 2 ^ s) := by
      unfold stepR slipB
      simp [h2]
      omega
    rw [e, List.foldl_cons, e2, step_nats l (m ||| 2 ^ s) n2 fun t ht => ⟨(h t (by simp [ht])).1, ?_⟩, PM.setF_cons, Nat.or_assoc]
    rw [Nat.testBit_or, (h t (by simp [ht])).2, two_bit]
    have : s ≠ t := fun e => by subst e; exact n1 ht
    simp [this]
theorem rows_flat (f : Floor) : ∀ (ts : List SRow) (o : Option Nat), rowsR f o ts = ((ts.map SRow.slips).flatten).foldl (stepR f) o
  | [], _ => rfl
  | t :: ts, o => by
    unfold rowsR
    rw [List.foldl_cons, List.map_cons, List.flatten_cons, List.foldl_append]
    exact rows_flat f ts _
theorem flat_nats : ∀ rows : List (List Nat), (rows.map natsC).flatten = natsC rows.flatten
  | [] => rfl
  | r :: rows => by
    rw [List.map_cons, List.flatten_cons, List.flatten_cons, flat_nats rows]
    unfold natsC
    rw [List.map_append]
theorem roster_yes {f : Floor} {ts : List SRow} {rows : List (List Nat)} (h : ts.map SRow.slips = rows.map natsC) (hl : 1 ≤ ts.length ∧ ts.length ≤ 5) (hn : rows.flatten.Nodup) (hm : ∀ s, s ∈ rows.flatten ↔ s < f.slips.length) : rosterB f ts = true := by
  unfold rosterB
  rw [rows_flat, h, flat_nats, step_nats _ 0 hn (fun s hs => ⟨(hm s).1 hs, Nat.zero_testBit s⟩), Nat.zero_or]
  have e : setF rows.flatten = 2 ^ f.slips.length - 1 := by
    apply Nat.eq_of_testBit_eq
    intro i
    rw [PM.setF_bit, Nat.testBit_two_pow_sub_one]
    exact decide_eq_decide.2 (hm i)
  rw [e, Bool.and_eq_true]
  exact ⟨hasB_iff.2 (by omega), by simp⟩
/- when slips are done -/
def sumT (tk : Int → Int × Int) (t : Int × Int) (l : List Int) : Int × Int := l.foldl (fun t x => addS t (tk x)) t
theorem row_now (tk : Int → Int × Int) : ∀ (row : List Int) (st : (Int × Int) × List (Int × Int)), (row.foldl (stepD tk) st).1 = sumT tk st.1 row
  | [], _ => rfl
  | x :: row, st => by
    rw [List.foldl_cons, row_now tk row]
    rfl
theorem row_miss (tk : Int → Int × Int) (k : Nat) : ∀ (row : List Int) (st : (Int × Int) × List (Int × Int)), (∀ x ∈ row, x.toNat ≠ k) → (row.foldl (stepD tk) st).2[k]? = st.2[k]?
  | [], _, _ => rfl
  | x :: row, st, h => by
    rw [List.foldl_cons, row_miss tk k row _ (fun y hy => h y (by simp [hy]))]
    exact List.getElem?_set_ne (h x (by simp))
theorem row_hit (tk : Int → Int × Int) (a b : List Int) (x : Int) (st : (Int × Int) × List (Int × Int)) (hlt : x.toNat < st.2.length) (hb : ∀ y ∈ b, y.toNat ≠ x.toNat) : ((a ++ x :: b).foldl (stepD tk) st).2[x.toNat]? = some (sumT tk st.1 (a ++ [x])) := by
  rw [List.foldl_append, List.foldl_cons, row_miss tk x.toNat b _ hb]
  unfold sumT
  rw [List.foldl_append]
  show ((a.foldl (stepD tk) st).2.set x.toNat (addS (a.foldl (stepD tk) st).1 (tk x)))[x.toNat]? = _
  rw [List.getElem?_set_self (by rw [row_len]; exact hlt), row_now]
  rfl
theorem rows_miss (tk : Int → Int × Int) (k : Nat) : ∀ (rows : List (List Int)) (out : List (Int × Int)), (∀ x ∈ rows.flatten, x.toNat ≠ k) → (rows.foldl (rowD tk) out)[k]? = out[k]?
  | [], _, _ => rfl
  | r :: rows, out, h => by
    rw [List.flatten_cons] at h
    rw [List.foldl_cons, rows_miss tk k rows _ (fun y hy => h y (by simp [hy]))]
    exact row_miss tk k r _ (fun y hy => h y (by simp [hy]))
theorem done_hit {f : Floor} {A B : List (List Int)} {a b : List Int} {x : Int} (h0 : x.toNat < f.slips.length) (hb : ∀ y ∈ b, y.toNat ≠ x.toNat) (hB : ∀ y ∈ B.flatten, y.toNat ≠ x.toNat) : (doneF f (A ++ (a ++ x :: b) :: B))[x.toNat]? = some (sumT (tkF f) (0, 0) (a ++ [x])) := by
  unfold doneF
  rw [List.foldl_append, List.foldl_cons, rows_miss (tkF f) x.toNat B _ hB]
  unfold rowD
  rw [row_hit (tkF f) a b x _ ?_ hb]
  show x.toNat < (A.foldl (rowD (tkF f)) _).length
  rw [done_len, List.length_replicate]
  exact h0
/-- on a roster of numbers each slip is done behind those before it -/
theorem done_nats {f : Floor} {rows : List (List Nat)} (hn : rows.flatten.Nodup) {A B : List (List Nat)} {a b : List Nat} {s : Nat} (he : rows = A ++ (a ++ s :: b) :: B) (hs : s < f.slips.length) : (doneF f (rows.map natsC))[s]? = some (sumT (tkF f) (0, 0) (natsC (a ++ [s]))) := by
  subst he
  rw [List.flatten_append, List.flatten_cons, List.nodup_append] at hn
  obtain ⟨_, hn, _⟩ := hn
  rw [List.nodup_append] at hn
  obtain ⟨hn1, hn2, hn3⟩ := hn
  rw [List.nodup_append] at hn1
  obtain ⟨_, hn4, hn5⟩ := hn1
  have e : (A ++ (a ++ s :: b) :: B).map natsC = A.map natsC ++ (natsC a ++ (s : Int) :: natsC b) :: B.map natsC := by
    rw [List.map_append, List.map_cons]
    unfold natsC
    rw [List.map_append]
    rfl
  have e2 : natsC (a ++ [s]) = natsC a ++ [(s : Int)] := by unfold natsC; rw [List.map_append]; rfl
  have key := done_hit (f := f) (A := A.map natsC) (B := B.map natsC) (a := natsC a) (b := natsC b) (x := (s : Int)) (by simpa using hs) (fun y hy => ?_) (fun y hy => ?_)
  · rw [e, e2]
    simpa using key
  · obtain ⟨t, ht, rfl⟩ := natsC_mem.1 hy
    intro h
    obtain rfl : t = s := by simpa using h
    exact (List.nodup_cons.1 hn4).1 ht
  · rw [flat_nats] at hy
    obtain ⟨t, ht, rfl⟩ := natsC_mem.1 hy
    intro h
    obtain rfl : t = s := by simpa using h
    exact hn3 t (by simp) t ht rfl
theorem sum_snd (f : Floor) : ∀ (l : List Nat) (t : Int × Int), (sumT (tkF f) t (natsC l)).2 = t.2 + (l.map (secF f)).sum
  | [], t => by simp [natsC, sumT]
  | s :: l, t => by
    have e : natsC (s :: l) = (s : Int) :: natsC l := rfl
    rw [e]
    unfold sumT
    rw [List.foldl_cons]
    have := sum_snd f l (addS t (tkF f s))
    unfold sumT at this
    rw [this, List.map_cons, List.sum_cons]
    show t.2 + (tkF f s).2 + _ = _
    rw [sec_tk]
    omega
theorem split_flat {α : Type} {rows : List (List α)} {s : α} (h : s ∈ rows.flatten) : ∃ A B a b, rows = A ++ (a ++ s :: b) :: B := by
  obtain ⟨r, hr, hs⟩ := List.mem_flatten.1 h
  obtain ⟨A, B, e⟩ := List.append_of_mem hr
  obtain ⟨a, b, e2⟩ := List.append_of_mem hs
  exact ⟨A, B, a, b, by rw [e, e2]⟩
theorem inT_at {sec till : Nat → Int} {a b : List Nat} {s : Nat} {t : Int} (h : PM.inT sec till t (a ++ s :: b)) : t + ((a ++ [s]).map sec).sum ≤ till s := by
  have := ((PM.inT_app a (s :: b) t).1 h).2.1
  simp only [List.map_append, List.sum_append, List.map_cons, List.map_nil, List.sum_cons, List.sum_nil]
  omega
/-- all that is told of a roster -/
theorem roster_told {f : Floor} (hv : validB f = true) {p : Nat} (hp : fewF f = some p) {ts : List SRow} (h : ts.map SRow.slips = (rosterF f p (allF f)).map natsC) :
    rosterB f ts = true ∧ ts.length = p ∧ (doneF f (ts.map SRow.slips)).length = f.slips.length ∧ ∀ (s : Nat) (d : Int × Int), (doneF f (ts.map SRow.slips))[s]? = some d → d.2 ≤ dueF f s := by
  obtain ⟨h1, h5, hc⟩ := few_can hp
  obtain ⟨g1, g2, g3⟩ := roster_spec hv p (allF f) (all_in f) hc
  have hlen : ts.length = p := by
    have := congrArg List.length h
    rwa [List.length_map, List.length_map, roster_len] at this
  have hm : ∀ s, s ∈ (rosterF f p (allF f)).flatten ↔ s < f.slips.length := fun s => by rw [g3, all_bit, decide_eq_true_eq]
  have hdl : (doneF f (ts.map SRow.slips)).length = f.slips.length := by
    unfold doneF
    rw [done_len, List.length_replicate]
  refine ⟨roster_yes h (by omega) g2 hm, hlen, hdl, fun s d hd => ?_⟩
  have hs : s < f.slips.length := by rw [← hdl]; exact (List.getElem?_eq_some_iff.1 hd).1
  obtain ⟨A, B, a, b, e⟩ := split_flat ((hm s).2 hs)
  rw [h, done_nats g2 e hs] at hd
  obtain rfl := Option.some.inj hd
  rw [sum_snd]
  have h6 := inT_at (g1 (a ++ s :: b) (by rw [e]; simp))
  simpa using h6
end Go.Proofs.YtomgnpfpaodpiaaDoor

/- The specification's fewest pickers, late slips and least Until are the program's. Plain mathematics. -/
namespace Go.Proofs.YtomgnpfpaodpiaaDoor
open Go Go.RowKit
set_option maxHeartbeats 2000000
/-- the least number of pickers, as the specification tells it -/
def manyQ (f : Floor) : Int := max 1 (fewQ f (allF f))
def PickersV (f : Floor) : Int × Int := if checkV f = 0 then (if 5 < manyQ f then (0, 4) else (manyQ f, 0)) else (0, checkV f)
theorem few_below {f : Floor} {p : Nat} (h : fewF f = some p) : ∀ j, 1 ≤ j → j < p → canF f j (allF f) = false := by
  intro j h1 hj
  obtain ⟨p1, p5, _⟩ := few_can h
  cases hc : canF f j (allF f) with
  | false => rfl
  | true =>
    exfalso
    unfold fewF at h
    rw [List.find?_eq_some_iff_append] at h
    obtain ⟨_, l1, l2, he, hall⟩ := h
    have : j ∈ l1 := by
      obtain rfl | rfl | rfl | rfl | rfl : p = 1 ∨ p = 2 ∨ p = 3 ∨ p = 4 ∨ p = 5 := by omega
      all_goals
        rcases l1 with _ | ⟨a1, _ | ⟨a2, _ | ⟨a3, _ | ⟨a4, _ | ⟨a5, l1⟩⟩⟩⟩⟩ <;> simp at he ⊢ <;> omega
    have := hall j this
    rw [hc] at this
    simp at this
theorem few_no {f : Floor} (h : fewF f = none) : ∀ j, 1 ≤ j → j ≤ 5 → canF f j (allF f) = false := by
  intro j h1 hj
  unfold fewF at h
  rw [List.find?_eq_none] at h
  have := h j (by obtain rfl | rfl | rfl | rfl | rfl : j = 1 ∨ j = 2 ∨ j = 3 ∨ j = 4 ∨ j = 5 := by omega
                  all_goals simp)
  simpa using this
theorem many_is {f : Floor} (hv : validB f = true) : (fewF f = none ∧ 5 < manyQ f) ∨ ∃ p : Nat, fewF f = some p ∧ manyQ f = p ∧ 1 ≤ p ∧ p ≤ 5 := by
  have key : ∀ p : Nat, p < 99 → (fewQ f (allF f) ≤ (p : Int) ↔ canF f p (allF f) = true) := fun p hp => fewQ_fit hv p (allF f) hp (all_in f)
  cases h : fewF f with
  | none =>
    left
    refine ⟨rfl, ?_⟩
    have h5 := few_no h 5 (by omega) (by omega)
    have := key 5 (by omega)
    rw [h5] at this
    unfold manyQ
    have : ¬ fewQ f (allF f) ≤ (5 : Nat) := fun hh => by have := this.1 hh; cases this
    omega
  | some p =>
    right
    obtain ⟨p1, p5, hc⟩ := few_can h
    refine ⟨p, rfl, ?_, p1, p5⟩
    have h1 := (key p (by omega)).2 hc
    unfold manyQ
    by_cases he : p = 1
    · omega
    · have h2 := few_below h (p - 1) (by omega) (by omega)
      have h3 := key (p - 1) (by omega)
      rw [h2] at h3
      have : ¬ fewQ f (allF f) ≤ ((p - 1 : Nat) : Int) := fun hh => by have := h3.1 hh; cases this
      omega
/- late slips -/
def lateM (f : Floor) (m : Nat) : List Int := natsC (membersK m f.slips.length)
def passQ (f : Floor) (p : Int) (best : List Int) (m : Nat) : List Int := if decide (fewQ f (allF f - m) ≤ p) && PM.prefB (lateM f m) best then lateM f m else best
def lateQ (f : Floor) (p : Int) : List Int := (List.range (allF f + 1)).foldl (passQ f p) (lateM f (allF f))
def rLateV (f : Floor) (n : Int) : List Int × Int := if checkV f = 0 then (if hasB 1 5 n then (lateQ f n, 0) else ([], 31)) else ([], checkV f)
theorem membersK_mem (m s : Nat) : ∀ n : Nat, s ∈ membersK m n ↔ s < n ∧ m.testBit s = true
  | 0 => by simp [show membersK m 0 = [] from rfl]
  | n + 1 => by
    rw [membersK_succ, List.mem_append, membersK_mem m s n]
    cases hb : m.testBit n with
    | false =>
      simp only [Bool.false_eq_true, if_false, List.not_mem_nil, or_false]
      constructor
      · rintro ⟨h1, h2⟩; exact ⟨by omega, h2⟩
      · rintro ⟨h1, h2⟩
        have : s ≠ n := fun e => by subst e; rw [hb] at h2; cases h2
        exact ⟨by omega, h2⟩
    | true =>
      simp only [if_true, List.mem_singleton]
      constructor
      · rintro (⟨h1, h2⟩ | rfl)
        · exact ⟨by omega, h2⟩
        · exact ⟨by omega, hb⟩
      · rintro ⟨h1, h2⟩
        by_cases e : s = n
        · exact .inr e
        · exact .inl ⟨by omega, h2⟩
theorem membersK_lt (m : Nat) : ∀ n : Nat, (membersK m n).Pairwise (· < ·)
  | 0 => by simp [show membersK m 0 = [] from rfl]
  | n + 1 => by
    rw [membersK_succ, List.pairwise_append]
    refine ⟨membersK_lt m n, by cases m.testBit n <;> simp, fun a ha b hb => ?_⟩
    have h1 := ((membersK_mem m a n).1 ha).1
    cases h : m.testBit n with
    | false => rw [h] at hb; simp at hb
    | true => rw [h] at hb; simp at hb; omega
/-- strictly increasing lists with the same members are the same -/
theorem lt_unique : ∀ {a b : List Int}, a.Pairwise (· < ·) → b.Pairwise (· < ·) → (∀ x, x ∈ a ↔ x ∈ b) → a = b := by
  intro a
  induction a with
  | nil =>
    intro b _ _ h
    cases b with
    | nil => rfl
    | cons y b => exact absurd ((h y).2 (by simp)) (by simp)
  | cons x a ih =>
    intro b ha hb h
    cases b with
    | nil => exact absurd ((h x).1 (by simp)) (by simp)
    | cons y b =>
      obtain ⟨a1, a2⟩ := List.pairwise_cons.1 ha
      obtain ⟨b1, b2⟩ := List.pairwise_cons.1 hb
      have hxy : x = y := by
        have h1 := (h x).1 (by simp)
        have h2 := (h y).2 (by simp)
        rcases List.mem_cons.1 h1 with e | h1
        · exact e
        · rcases List.mem_cons.1 h2 with e | h2
          · exact e.symm
          · have := a1 y h2; have := b1 x h1; omega
      subst hxy
      congr 1
      refine ih a2 b2 fun z => ?_
      constructor
      · intro hz
        rcases List.mem_cons.1 ((h z).1 (by simp [hz])) with e | hz2
        · subst e; have := a1 z hz; omega
        · exact hz2
      · intro hz
        rcases List.mem_cons.1 ((h z).2 (by simp [hz])) with e | hz2
        · subst e; have := b1 z hz; omega
        · exact hz2
theorem nats_lt {l : List Nat} (h : l.Pairwise (· < ·)) : (natsC l).Pairwise (· < ·) := by
  unfold natsC
  rw [List.pairwise_map]
  exact h.imp (fun h => by show (_ : Int) < _; omega)
theorem slips_lt (f : Floor) : (slipsF f).Pairwise (· < ·) := nats_lt List.pairwise_lt_range
theorem slips_mem (f : Floor) (x : Int) : x ∈ slipsF f ↔ 0 ≤ x ∧ x < f.slips.length := by
  unfold slipsF
  rw [List.mem_map]
  constructor
  · rintro ⟨s, hs, rfl⟩
    rw [List.mem_range] at hs
    exact ⟨Int.natCast_nonneg s, by show (s : Int) < _; omega⟩
  · rintro ⟨h0, h1⟩
    exact ⟨x.toNat, List.mem_range.2 (by omega), by show ((x.toNat : Nat) : Int) = x; omega⟩
theorem toNat_nats (l : List Nat) : (natsC l).map Int.toNat = l := by
  unfold natsC
  rw [List.map_map]
  exact (List.map_congr_left (fun s _ => by simp)).trans (List.map_id l)
theorem late_set {f : Floor} {m : Nat} (hm : ∀ i, m.testBit i = true → i < f.slips.length) : setF ((lateM f m).map Int.toNat) = m := by
  rw [lateM, toNat_nats]
  apply Nat.eq_of_testBit_eq
  intro i
  rw [PM.setF_bit]
  cases hb : m.testBit i with
  | true => rw [decide_eq_true_eq, membersK_mem]; exact ⟨hm i hb, hb⟩
  | false => rw [decide_eq_false_iff_not, membersK_mem, hb]; simp
theorem le_bits {f : Floor} {m : Nat} (hm : m ≤ allF f) : ∀ i, m.testBit i = true → i < f.slips.length := fun i hi => by
  apply Classical.byContradiction
  intro hn
  have h1 : m < 2 ^ f.slips.length := by have := Nat.two_pow_pos f.slips.length; unfold allF at hm; omega
  rw [Nat.testBit_lt_two_pow (Nat.lt_of_lt_of_le h1 (Nat.pow_le_pow_right (by omega) (by omega)))] at hi
  cases hi
theorem bits_le {f : Floor} {m : Nat} (hm : ∀ i, m.testBit i = true → i < f.slips.length) : m ≤ allF f := by
  have : m < 2 ^ f.slips.length := Nat.lt_pow_two_of_testBit m fun i hi => by
    cases hb : m.testBit i with
    | false => rfl
    | true => have := hm i hb; omega
  unfold allF
  omega
theorem late_sub {f : Floor} {y : List Int} (hy : y.Sublist (slipsF f)) : ∃ m, m ≤ allF f ∧ lateM f m = y := by
  have hm : ∀ i, (setF (y.map Int.toNat)).testBit i = true → i < f.slips.length := fun i hi => by
    rw [PM.setF_bit, decide_eq_true_eq, List.mem_map] at hi
    obtain ⟨x, hx, rfl⟩ := hi
    have := (slips_mem f x).1 (hy.subset hx)
    omega
  refine ⟨setF (y.map Int.toNat), bits_le hm, ?_⟩
  refine lt_unique (nats_lt (membersK_lt _ _)) ((slips_lt f).sublist hy) fun x => ?_
  rw [lateM, natsC_mem]
  constructor
  · rintro ⟨s, hs, rfl⟩
    have h2 := ((membersK_mem _ s _).1 hs).2
    rw [PM.setF_bit, decide_eq_true_eq, List.mem_map] at h2
    obtain ⟨x, hx, hxs⟩ := h2
    have := (slips_mem f x).1 (hy.subset hx)
    have e : ((s : Nat) : Int) = x := by omega
    rw [e]; exact hx
  · intro hx
    have h1 := (slips_mem f x).1 (hy.subset hx)
    refine ⟨x.toNat, (membersK_mem _ _ _).2 ⟨by omega, ?_⟩, by omega⟩
    rw [PM.setF_bit, decide_eq_true_eq, List.mem_map]
    exact ⟨x, hx, rfl⟩
theorem late_in {f : Floor} {m : Nat} : (lateM f m).Sublist (slipsF f) := by
  unfold lateM slipsF
  refine List.Sublist.map _ ?_
  have key : ∀ n : Nat, (membersK m n).Sublist (List.range n) := by
    intro n
    induction n with
    | zero => simp [show membersK m 0 = [] from rfl]
    | succ n ih =>
      rw [membersK_succ, List.range_succ]
      refine List.Sublist.append ih ?_
      cases m.testBit n <;> simp
  exact key _
theorem late_all (f : Floor) : lateM f (allF f) = slipsF f := by
  refine lt_unique (nats_lt (membersK_lt _ _)) (slips_lt f) fun x => ?_
  rw [lateM, natsC_mem, slips_mem]
  constructor
  · rintro ⟨s, hs, rfl⟩
    have := ((membersK_mem _ s _).1 hs).1
    omega
  · rintro ⟨h0, h1⟩
    exact ⟨x.toNat, (membersK_mem _ _ _).2 ⟨by omega, by rw [all_bit, decide_eq_true_eq]; omega⟩, by omega⟩
theorem can_late {f : Floor} {p m : Nat} (hm : m ≤ allF f) : canLess f p (lateM f m) = canF f p (lessF (allF f) m) := by
  rw [canLess, late_set (le_bits hm)]
theorem late_pass {f : Floor} (hv : validB f = true) {p : Nat} (hp : p ≤ 5) (best : List Int) {m : Nat} (hm : m ≤ allF f) : passQ f p best m = PM.passB (canLess f p) best (lateM f m) := by
  have hpart : PM.Part m (allF f) := fun i hi => by rw [all_bit, decide_eq_true_eq]; exact le_bits hm i hi
  have e : decide (fewQ f (allF f - m) ≤ (p : Int)) = canLess f p (lateM f m) := by
    rw [can_late hm, ← PM.less_sub hpart]
    have := fewQ_fit hv p (lessF (allF f) m) (by omega) (fun i hi => all_in f i (PM.Part.less _ _ i hi))
    rw [Bool.eq_iff_iff, decide_eq_true_eq]
    exact this
  rw [passQ, PM.passB, e]
theorem foldl_congr_mem {α β : Type} {g h : β → α → β} : ∀ (l : List α) (b : β), (∀ b x, x ∈ l → g b x = h b x) → l.foldl g b = l.foldl h b
  | [], _, _ => rfl
  | x :: l, b, k => by
    rw [List.foldl_cons, List.foldl_cons, k b x (by simp)]
    exact foldl_congr_mem l _ fun b y hy => k b y (by simp [hy])
/-- whoever is late, by the program, is the best of all that can be -/
theorem late_top {f : Floor} (p : Nat) : PM.Best (fun y => y.Sublist (slipsF f)) (canLess f p) (lateF f p) := by
  have hlen : (slipsF f).length = f.slips.length := by unfold slipsF; simp
  have hP : canLess f p (slipsF f) = true := by
    rw [← late_all, can_late (Nat.le_refl _), PM.less_self]
    exact can_zero f p
  have h2 := PM.late_best (canLess f p) (slipsF f) (slips_lt f) hP
  have : lateF f p = PM.lateG (canLess f p) (slipsF f).length (slipsF f) := by
    rw [hlen]
    rfl
  rw [this]
  exact h2
/-- the specification tells the same -/
theorem late_same {f : Floor} (hv : validB f = true) {p : Nat} (hp : p ≤ 5) : lateQ f p = lateF f p := by
  have hP : canLess f p (lateM f (allF f)) = true := by
    rw [can_late (Nat.le_refl _), PM.less_self]
    exact can_zero f p
  have e : lateQ f p = ((List.range (allF f + 1)).map (lateM f)).foldl (PM.passB (canLess f p)) (lateM f (allF f)) := by
    rw [lateQ, List.foldl_map]
    exact foldl_congr_mem _ _ fun b m hm => late_pass hv hp b (by rw [List.mem_range] at hm; omega)
  obtain ⟨i1, i2, i3, i4⟩ := PM.pass_best (canLess f p) ((List.range (allF f + 1)).map (lateM f)) (lateM f (allF f)) hP
  rw [← e] at i1 i2 i3 i4
  refine PM.Best.unique (U := fun y => y.Sublist (slipsF f)) ⟨?_, i1, fun z hz hpz => ?_⟩ (late_top p)
  · rcases i2 with h | h
    · rw [h]; exact late_in
    · obtain ⟨m, _, h⟩ := List.mem_map.1 h
      rw [← h]; exact late_in
  · obtain ⟨m, hm, rfl⟩ := late_sub hz
    exact i4 _ (List.mem_map.2 ⟨m, List.mem_range.2 (by omega), rfl⟩) hpz
theorem lateV_same (f : Floor) (n : Int) : rLateV f n = LateV f n := by
  rcases check_two f with ⟨hc, hv⟩ | ⟨hc, hv⟩
  · unfold rLateV LateV; rw [if_neg (by omega), if_neg (by omega)]
  · unfold rLateV LateV
    rw [if_pos hc, if_pos hc]
    cases hh : hasB 1 5 n with
    | false => rfl
    | true =>
      have h1 := hasB_iff.1 hh
      rw [if_pos rfl, if_pos rfl]
      have e : n = ((n.toNat : Nat) : Int) := by omega
      rw [e, late_same hv (by omega), Int.toNat_natCast]
/- the least Until -/
/-- what the specification's Spare answers -/
def SpareQ (f : Floor) (n v c : Int) : Prop :=
  (checkSlipV f n ≠ 0 ∧ v = 0 ∧ c = checkSlipV f n) ∨ (checkSlipV f n = 0 ∧ 5 < manyQ f ∧ v = 0 ∧ c = 4) ∨
    (checkSlipV f n = 0 ∧ c = 0 ∧ ∃ (k p t r : Nat) (s : SSlip), n = k ∧ f.slips[k]? = some s ∧ s.till = t ∧ manyQ f = p ∧ p ≤ 5 ∧ v = r ∧ r ≤ t ∧ (∀ j : Nat, r = j + 1 → fewQ (tillF f k j) (allF f) ≤ (p : Int) → False) ∧ (r < t → fewQ (tillF f k r) (allF f) ≤ (p : Int)))
theorem till_self {f : Floor} {k : Nat} {s : SSlip} (hs : f.slips[k]? = some s) : (tillF f k s.till).slips = f.slips := by
  show (f.slips.modify k fun x => { x with till := s.till }) = f.slips
  apply List.ext_getElem?
  intro i
  rw [List.getElem?_modify]
  cases h : f.slips[i]? with
  | none => simp
  | some x =>
    by_cases e : k = i
    · subst e
      rw [hs] at h
      cases h
      simp
    · simp [e]
theorem enough_few {f : Floor} (hv : validB f = true) {k p : Nat} (hp : p ≤ 5) {u : Int} (h0 : 0 ≤ u) (h1 : u ≤ 100000) : fewQ (tillF f k u) (allF f) ≤ (p : Int) ↔ enoughF f k p u = true := by
  rw [enoughF]
  exact fewQ_fit (valid_till hv none 0 k h0 h1) p (allF f) (by omega) (fun i hi => by rw [till_len]; exact all_in f i hi)
theorem spare_same {f : Floor} {n v c v' c' : Int} (h : SpareA f n v c) (h' : SpareQ f n v' c') : v = v' ∧ c = c' := by
  rcases h with ⟨a1, a2, a3⟩ | ⟨a1, a2, a3, a4⟩ | ⟨a1, a2, k, p, t, r, s, b1, b2, b3, b4, b5, b6⟩
  · rcases h' with ⟨c1, c2, c3⟩ | ⟨c1, _⟩ | ⟨c1, _⟩
    · exact ⟨by omega, by omega⟩
    · exact absurd c1 a1
    · exact absurd c1 a1
  · have hv : validB f = true := by
      rcases check_cases f n with hb | ⟨_, hv, _⟩
      · omega
      · exact hv
    rcases h' with ⟨c1, c2, c3⟩ | ⟨c1, c2, c3, c4⟩ | ⟨c1, c2, k, p, t, r, s, d1, d2, d3, d4, d5, _⟩
    · exact absurd a1 c1
    · exact ⟨by omega, by omega⟩
    · rcases many_is hv with ⟨e1, e2⟩ | ⟨p', e1, e2, _⟩
      · omega
      · rw [a2] at e1; cases e1
  · have hv : validB f = true := by
      rcases check_cases f n with hb | ⟨_, hv, _⟩
      · omega
      · exact hv
    rcases many_is hv with ⟨e1, e2⟩ | ⟨p', e1, e2, e3, e4⟩
    · rw [b4] at e1; cases e1
    · rw [b4] at e1
      obtain rfl : p = p' := Option.some.inj e1
      rcases h' with ⟨c1, c2, c3⟩ | ⟨c1, c2, c3, c4⟩ | ⟨c1, c2, k', p', t', q, s', d1, d2, d3, d4, d5, d6, d7, d8, d9⟩
      · exact absurd a1 c1
      · omega
      · obtain rfl : k = k' := by omega
        rw [b2] at d2
        obtain rfl := Option.some.inj d2
        obtain rfl : t = t' := by omega
        obtain rfl : p = p' := by omega
        have ht : t ≤ 100000 := by
          have := ((valid_parts hv).2.2.2.2.2.2 k s b2).1
          omega
        have hq : enoughF f k p q = true := by
          by_cases hlt : q < t
          · exact (enough_few hv e4 (by omega) (by omega)).1 (d9 hlt)
          · obtain rfl : q = t := by omega
            have hvt := valid_till hv none 0 k (u := (q : Int)) (by omega) (by omega)
            rw [enough_fit hv k p (by omega) (by omega)]
            have hcan := (few_can b4).2.2
            rw [can_fit hv p (allF f) (all_in f)] at hcan
            have : dueF (tillF f k q) = dueF f := funext fun i => by
              rw [due_till]
              split
              · rename_i hi
                rw [hi.1, ← till_due, tillQ_at b2, b3]
              · rfl
            rw [this]
            exact hcan
        have := spare_is hv ht b6 d7 (fun j hj => by
          cases hb : enoughF f k p j with
          | false => rfl
          | true => exact (d8 j hj ((enough_few hv e4 (by omega) (by omega)).2 hb)).elim) hq
        exact ⟨by omega, by omega⟩
end Go.Proofs.YtomgnpfpaodpiaaDoor

/- Contract of Ahead. -/
namespace Go.Proofs.YtomgnpfpaodpiaaDoor
open Go Go.RowKit
set_option maxHeartbeats 4000000
theorem ahead_drop : ∀ (k : Nat) {a b : List Int} {x y : Int}, a[k]? = some x → b[k]? = some y → PM.aheadB (a.drop k) (b.drop k) = if x = y then PM.aheadB (a.drop (k + 1)) (b.drop (k + 1)) else decide (x < y) := fun k a b x y hx hy => by
  obtain ⟨h1, rfl⟩ := List.getElem?_eq_some_iff.1 hx
  obtain ⟨h2, rfl⟩ := List.getElem?_eq_some_iff.1 hy
  rw [List.drop_eq_getElem_cons h1, List.drop_eq_getElem_cons h2, PM.aheadB]
theorem ahead_end {a b : List Int} {k : Nat} (ha : k ≤ a.length) (hb : k ≤ b.length) (h : k = a.length ∨ k = b.length) : PM.aheadB (a.drop k) (b.drop k) = decide (a.length < b.length) := by
  by_cases h1 : k = a.length
  · subst h1
    rw [List.drop_length]
    by_cases h2 : a.length = b.length
    · rw [h2, List.drop_length]
      simp [PM.aheadB]
    · rw [List.drop_eq_getElem_cons (by omega)]
      simp [PM.aheadB]
      omega
  · obtain rfl : k = b.length := by omega
    rw [List.drop_length, List.drop_eq_getElem_cons (by omega)]
    simp [PM.aheadB]
    omega
set_option maxRecDepth 100000 in
theorem ahead_any (A B : Option Addr) (ca cb : Nat) (a b : List Int) (w : World) (ha : IntsAt w w.heap.size A a.length a) (hb : IntsAt w w.heap.size B b.length b) :
    Calls Tryd.prog 45 #[.slice A a.length ca, .slice B b.length cb] w fun e w' => e = .returned (.bool (PM.aheadB a b)) ∧ Below w.heap.size w w' := by
  have hal := ha.lens
  have hbl := hb.lens
  have HA := Lib.hid ha
  have HB := Lib.hid hb
  have HS : Hid (∀ (k : Nat) (x y : Int), a[k]? = some x → b[k]? = some y → PM.aheadB (a.drop k) (b.drop k) = if x = y then PM.aheadB (a.drop (k + 1)) (b.drop (k + 1)) else decide (x < y)) := fun k x y hx hy => ahead_drop k hx hy
  have HE : Hid (∀ k : Nat, k ≤ a.length → k ≤ b.length → (k = a.length ∨ k = b.length) → PM.aheadB (a.drop k) (b.drop k) = decide (a.length < b.length)) := fun k h1 h2 h3 => ahead_end h1 h2 h3
  obtain ⟨G, hG⟩ : ∃ G, G = fun k => PM.aheadB (a.drop k) (b.drop k) := ⟨_, rfl⟩
  have eG : ∀ k, PM.aheadB (a.drop k) (b.drop k) = G k := fun k => by rw [hG]
  have H0 : PM.aheadB a b = G 0 := by rw [hG]; rfl
  simp only [eG] at HS HE
  obtain ⟨an, han⟩ : ∃ an, an = PM.aheadB a b := ⟨_, rfl⟩
  rw [← han] at H0 ⊢
  have HAN := Lib.hid H0
  clear hG eG han H0 ha hb
  go_enter Tryd.func45, Tryd.ntmps45
  go_wp2_with fail
  go_loopw [5] (fun i wr => ∃ k : Nat, k ≤ a.length ∧ k ≤ b.length ∧ i = .int .i64 k ∧ Hid (an = G k) ∧ Below w.heap.size w wr) (fun i _ => a.length - (intOf i).toNat)
  case atStart => exact ⟨0, Nat.zero_le _, Nat.zero_le _, rfl, HAN, Below.refl _ _⟩
  obtain ⟨k, hk1, hk2, rfl, HK, hB⟩ := hrel
  by_cases hlt : k < a.length ∧ k < b.length
  · obtain ⟨hlt1, hlt2⟩ := hlt
    obtain ⟨x, hx⟩ : ∃ x, a[k]? = some x := ⟨_, List.getElem?_eq_getElem hlt1⟩
    obtain ⟨y, hy⟩ : ∃ y, b[k]? = some y := ⟨_, List.getElem?_eq_getElem hlt2⟩
    obtain ⟨bb, off, rfl, hbb, x0⟩ := ints_at (HA.out.to hB) hx
    obtain ⟨bc, oc, rfl, hbc, y0⟩ := ints_at (HB.out.to hB) hy
    have HSK := Lib.hid (HS.out k x y hx hy)
    have hd1 : decide ((k : Int) < a.length) = true := by simp; omega
    have hd2 : decide ((k : Int) < b.length) = true := by simp; omega
    have hkI : (k : Int) < a.length := by omega
    have hkJ : (k : Int) < b.length := by omega
    have h0k : (0 : Int) ≤ k := by omega
    have zbb : bb < wr.heap.size := hbb
    have zbc : bc < wr.heap.size := hbc
    clear hx hy
    rcases hne : (x != y) with _ | _
    · have NEXT : Hid (an = G (k + 1)) := by
        have : x = y := by simpa using hne
        unfold Hid
        rw [HK.out, HSK.out, if_pos this]
      clear HK HSK
      go_wp2_with fail
      go_quiet (fail)
      go_wp2_with fail
      go_roundw
      case rel => exact ⟨k + 1, by omega, by omega, by go_num, NEXT, below_drewN hB _⟩
      case measure => simp [intOf]; omega
    · have E : Hid (an = decide (x < y)) := by
        have : x ≠ y := by simpa using hne
        unfold Hid
        rw [HK.out, HSK.out, if_neg this]
      clear HK HSK
      go_wp2_with fail
      go_quiet (fail)
      go_wp2_with fail
      go_quiet (fail)
      go_wp2_with fail
      go_ret
      exact ⟨retB E.out.symm, below_drewN (below_drewN hB _) _⟩
  · have E : Hid (an = decide (a.length < b.length)) := by
      unfold Hid
      rw [HK.out]
      exact HE.out k hk1 hk2 (by omega)
    obtain ⟨p, hp⟩ : ∃ p, p = decide ((k : Int) < a.length) := ⟨_, rfl⟩
    rcases p with _ | _
    · have hd1 : decide ((k : Int) < a.length) = false := hp.symm
      have hd3 : decide (k < a.length) = false := by simp at hp ⊢; omega
      clear hp hlt
      go_wp2_with fail
      go_ret
      exact ⟨retB (by rw [E.out]), hB⟩
    · have hd1 : decide ((k : Int) < a.length) = true := hp.symm
      have hd3 : decide (k < a.length) = true := by simp at hp ⊢; omega
      have hd4 : decide (k < b.length) = false := by simp at hp ⊢; omega
      have hd2 : decide ((k : Int) < b.length) = false := by simp at hp ⊢; omega
      clear hp hlt
      go_wp2_with fail
      go_ret
      exact ⟨retB (by rw [E.out]), hB⟩
end Go.Proofs.YtomgnpfpaodpiaaDoor

/- Contract of the specification's alone: which sets of slips one picker has in time. -/
namespace Go.Proofs.YtomgnpfpaodpiaaDoor
open Go Go.RowKit
set_option maxHeartbeats 4000000
def boolC (b : Bool) : List Value := [.bool b]
abbrev BoolsAt (w : World) (B : Nat) (A : Option Addr) (cap : Nat) (l : List Bool) : Prop := RowsAt w B 1 A cap (l.map boolC)
theorem info_bool : (Tryd.prog.info? 4).map (fun i => (i.zero, i.size, i.bytes)) = some (some (.bool false), 1, 1) := by kernel_rfl
theorem boolC_one (l : List Bool) : ∀ r ∈ l.map boolC, r.length = 1 := fun r hr => by
  obtain ⟨b, _, rfl⟩ := List.mem_map.1 hr
  rfl
theorem boolC_flat (l : List Bool) : (l.map boolC).flatten = l.map Value.bool := by
  induction l with
  | nil => rfl
  | cons b l ih => rw [List.map_cons, List.flatten_cons, ih]; rfl
theorem bools_at {w : World} {B cap : Nat} {A : Option Addr} {l : List Bool} (h : BoolsAt w B A cap l) {k : Nat} {x : Bool} (hx : l[k]? = some x) :
    ∃ b off, A = some ⟨b, off, none⟩ ∧ b < B ∧ w.cell? ⟨b, off + k, none⟩ = some (.bool x) := by
  have hk : k < l.length := (List.getElem?_eq_some_iff.1 hx).1
  obtain ⟨b, off, hA, hb, hc⟩ := h.row (by rw [List.length_map]; omega)
  have hr : (l.map boolC)[k]? = some [.bool x] := by rw [List.getElem?_map, hx]; rfl
  exact ⟨b, off, hA, hb, by simpa using hc k _ hr 0 (.bool x) (by omega) rfl⟩
theorem shl_fact : ∀ n : Fin 10, wrap64 (2 ^ n.val) = ((2 ^ n.val : Nat) : Int) := by decide +kernel
theorem pow_512 {n : Nat} (h : n ≤ 9) : 2 ^ n ≤ 512 := Nat.pow_le_pow_right (n := 2) (by omega) (show n ≤ 9 by omega)
def aloneL (f : Floor) (k : Nat) : List Bool := (List.range k).map (aloneQ f)
theorem aloneL_succ (f : Floor) (k : Nat) : aloneL f (k + 1) = aloneL f k ++ [aloneQ f k] := by simp [aloneL, List.range_succ]
theorem byOne_is {f : Floor} (hv : validB f = true) {m : Nat} (hm : m < 2 ^ f.slips.length) {b : Bool} (hb : aloneQ f m = b) (w : World) (h : FloorAt w w.heap.size f) :
    Calls Tryd.prog 116 #[f.val, vi m] w fun e w' => e = .returned (.bool b) ∧ Below w.heap.size w w' := by
  subst hb
  exact byOne_any f hv m hm w h
set_option maxRecDepth 100000 in
theorem alone_any (f : Floor) (hv : validB f = true) (w : World) (h : FloorAt w w.heap.size f) :
    Calls Tryd.prog 105 #[f.val] w fun e w' => ∃ A cap, e = .returned (.slice A (aloneL f (2 ^ f.slips.length)).length cap) ∧ BoolsAt w' w'.heap.size A cap (aloneL f (2 ^ f.slips.length)) ∧ Below w.heap.size w w' := by
  obtain ⟨i0, hi, hy0, hy1, hy2⟩ := info_parts info_bool
  have h9 := (fine hv).slips9
  have HF := Lib.hid h
  have h3l := h.slips.lens
  have HBY := Lib.hid (fun (m : Nat) (hm : m < 2 ^ f.slips.length) (b : Bool) (hb : aloneQ f m = b) (W : World) hW => byOne_is hv hm hb W hW)
  have HS : Hid (∀ k : Nat, aloneL f (k + 1) = aloneL f k ++ [aloneQ f k]) := aloneL_succ f
  have HLN : Hid (∀ k : Nat, (aloneL f k).length = k) := fun k => by simp [aloneL]
  have H0 : Hid (aloneL f 0 = []) := rfl
  have hN := pow_512 h9
  have hsh := shl_fact ⟨f.slips.length, by omega⟩
  simp only at hsh
  obtain ⟨N, hNN⟩ : ∃ N, N = 2 ^ f.slips.length := ⟨_, rfl⟩
  rw [← hNN] at HBY hN hsh ⊢
  obtain ⟨S, hS⟩ : ∃ S, S = aloneL f := ⟨_, rfl⟩
  obtain ⟨q, hq⟩ : ∃ q, q = aloneQ f := ⟨_, rfl⟩
  rw [← hS, ← hq] at HS
  rw [← hS] at HLN H0 ⊢
  rw [← hq] at HBY
  clear hS hq hNN h hv
  obtain ⟨fA, fC, ff, slo, shi, pA, pC, fp, fc, sA, sC, fs⟩ := f
  simp only at h9 h3l HBY hsh
  show Calls Tryd.prog 105 #[.agg #[.slice fA ff.length fC, vi slo, vi shi, .slice pA fp.length pC, vi fc, .slice sA fs.length sC]] w _
  have hb0 := below1 w (.cells #[.slice fA ff.length fC, vi slo, vi shi, .slice pA fp.length pC, vi fc, .slice sA fs.length sC] 28)
  have X0 := CellsBox.new w 28 [.slice fA ff.length fC, vi slo, vi shi, .slice pA fp.length pC, vi fc, .slice sA fs.length sC]
  have hl0 : (0 : Int) ≤ fs.length := by omega
  have hl9 : (fs.length : Int) ≤ 9 := by omega
  go_enter Tryd.func105, Tryd.ntmps105
  go_wp2_with fail
  obtain ⟨wl, hW⟩ : ∃ W, W = w.alloc (.cells #[.slice fA ff.length fC, vi slo, vi shi, .slice pA fp.length pC, vi fc, .slice sA fs.length sC] 28) := ⟨_, rfl⟩
  rw [← hW] at hb0 ⊢
  have HX1 : Hid (CellsBox wl w.heap.size 28 [.slice fA ff.length fC, vi slo, vi shi, .slice pA fp.length pC, vi fc, .slice sA fs.length sC]) := by unfold Hid; rw [hW]; exact X0
  clear hW X0
  go_loopw [3, 4] (fun v i wr => ∃ k : Nat, k ≤ N ∧ i = .int .i64 k ∧ Below wl.heap.size wl wr ∧ wr.ownsRow wl.heap.size 4 1 v k ((S k).map Value.bool)) (fun _ i _ => N - (intOf i).toNat)
  case atStart => exact ⟨0, Nat.zero_le _, rfl, Below.refl _ _, by rw [H0.out]; exact World.ownsRow_nil _ _ _ _⟩
  obtain ⟨k, hk, rfl, hB, hown⟩ := hrel
  have hz := hB.size
  have HBr : Below w.heap.size w wr := hb0.trans (hB.mono hb0.size)
  have XR := HX1.out.keep hB
  have a0 := XR.cell (j := 0) rfl
  have a1 := XR.cell (j := 1) rfl
  have a2 := XR.cell (j := 2) rfl
  have a3 := XR.cell (j := 3) rfl
  have a4 := XR.cell (j := 4) rfl
  have a5 := XR.cell (j := 5) rfl
  have za := XR.lt
  have HXR := Lib.hid XR
  clear XR
  by_cases hlt : k < N
  · have hd : decide ((k : Int) < wrap64 (2 ^ fs.length)) = true := by rw [hsh]; simp; omega
    have HSK := Lib.hid (HS.out k)
    obtain ⟨b, hb⟩ : ∃ b, q k = b := ⟨_, rfl⟩
    have IN := Lib.hid (fun W hW => HBY.out k hlt b hb W hW)
    rw [hb] at HSK
    obtain ⟨L, hL⟩ : ∃ L, L = S k := ⟨_, rfl⟩
    rw [← hL] at hown HSK
    clear hL hb
    obtain ⟨A', c', rfl, h1, h2⟩ := own_form hown
    go_wp2_with fail
    refine (IN.out _ (HF.out.to HBr)).mono ?_
    rintro e W2 ⟨rfl, hb2⟩
    have hown2 := own_keep hown hb2
    have hB2 : Below wl.heap.size wl W2 := gr_trans hB hb2
    have hz2 := hB2.size
    clear a0 a1 a2 a3 a4 a5 za
    go_wp2_with (at_builtin; go_loud (refine wpList_append_own _ rfl _ _ 147 rfl wl.heap.size 4 i0 (.bool false) 1 1 Tryd.underlying147 hi hy0 hy1 hy2 rfl (by decide) _ _ _ rfl (hown2.alloc _) ⟨W2.heap.size, 0, none⟩ 1 1 [.bool b] rfl rfl (cell_one_new _ _ _) (by simp [Value.oneCell']) (by unfold maxLen; omega) (by omega) (by simp; omega) ?_; intro v5 w5 hown5 hgrow5 _))
    have HB5 : Below wl.heap.size wl w5 := Below.grown (hB2.alloc (by omega) _) hgrow5 (by simp; omega) (fun j e => (hown2.lt j e).1)
    obtain ⟨A5, c5, rfl, -, -⟩ := own_form hown5
    go_roundw
    case rel =>
      refine ⟨k + 1, by omega, by go_num, HB5, ?_⟩
      rw [HSK.out]
      simpa using hown5
    case measure => simp [intOf]; omega
  · obtain rfl : k = N := by omega
    have hd : decide ((k : Int) < wrap64 (2 ^ fs.length)) = false := by rw [hsh]; simp
    have hln := HLN.out k
    rw [← boolC_flat] at hown
    obtain ⟨A', c', rfl, h1, h2, h3⟩ := own_rows (m := (S k).map boolC) (boolC_one _) hown (by simp; omega) (by omega)
    go_wp2_with fail
    go_ret
    rw [hln]
    exact ⟨A', c', rfl, ⟨by simp; omega, by unfold maxLen at h2; omega, h3.few, h3.row⟩, HBr⟩
end Go.Proofs.YtomgnpfpaodpiaaDoor

/- Contract of the specification's fewest: for each set of slips how few pickers have it in time. -/
namespace Go.Proofs.YtomgnpfpaodpiaaDoor
open Go Go.RowKit
set_option maxHeartbeats 4000000
theorem outG_few (can : Nat → Bool) {k i : Nat} {x : Int} (h : (PM.outG can k)[i]? = some x) : x = PM.fewG can i := by
  have hi : i < k := by have := (List.getElem?_eq_some_iff.1 h).1; rwa [PM.out_len] at this
  rw [PM.fewG, ← PM.out_at can hi, h]
  rfl
theorem and_fact (a b : Nat) (ha : a < 512) (hb : b < 512) : bits BinOp.and IntKind.i64 (a : Int) (b : Int) = ((a &&& b : Nat) : Int) := by
  unfold bits
  simp
  have e1 : a % 2 ^ IntKind.i64.bits = a := Nat.mod_eq_of_lt (Nat.lt_of_lt_of_le ha (by decide))
  have e2 : b % 2 ^ IntKind.i64.bits = b := Nat.mod_eq_of_lt (Nat.lt_of_lt_of_le hb (by decide))
  rw [e1, e2]
  have := @Nat.and_le_left a b
  exact wrapI (by omega) (by omega)
set_option maxRecDepth 100000 in
theorem fewest_any2 (f : Floor) (hv : validB f = true) (w : World) (h : FloorAt w w.heap.size f) :
    Calls Tryd.prog 72 #[f.val] w fun e w' => ∃ A cap, e = .returned (.slice A (PM.outG (aloneQ f) (2 ^ f.slips.length)).length cap) ∧ IntsAt w' w'.heap.size A cap (PM.outG (aloneQ f) (2 ^ f.slips.length)) ∧ Below w.heap.size w w' := by
  obtain ⟨i0, hi, hy0, hy1, hy2⟩ := info_parts info_int
  have h9 := (fine hv).slips9
  have HF := Lib.hid h
  have AL := Lib.hid (fun (W : World) hW => alone_any f hv W hW)
  have hN := pow_512 h9
  have hN1 : 1 ≤ 2 ^ f.slips.length := Nat.two_pow_pos _
  obtain ⟨N, hNN⟩ : ∃ N, N = 2 ^ f.slips.length := ⟨_, rfl⟩
  rw [← hNN] at AL hN hN1 ⊢
  have HAT : Hid (∀ p : Nat, p < N → (aloneL f N)[p]? = some (aloneQ f p)) := fun p hp => by
    unfold aloneL
    rw [List.getElem?_map, List.getElem?_range hp]
    rfl
  have HAL : Hid ((aloneL f N).length = N) := by unfold Hid; simp [aloneL]
  obtain ⟨L, hL⟩ : ∃ L, L = aloneL f N := ⟨_, rfl⟩
  rw [← hL] at HAT HAL AL
  obtain ⟨q, hq⟩ : ∃ q, q = aloneQ f := ⟨_, rfl⟩
  rw [← hq] at HAT ⊢
  clear hL hq hNN
  have OS : Hid (∀ k : Nat, 1 ≤ k → PM.outG q (k + 1) = PM.outG q k ++ [PM.bestG q (fun i => (PM.outG q k)[i]?.getD 0) k k 99]) := fun k hk => by
    obtain ⟨j, rfl⟩ : ∃ j, k = j + 1 := ⟨k - 1, by omega⟩
    rfl
  have OL : Hid (∀ k, (PM.outG q k).length = k) := PM.out_len q
  have O1 : Hid (PM.outG q 1 = [0]) := rfl
  have OR : Hid (∀ (k i : Nat) (x : Int), (PM.outG q k)[i]? = some x → 0 ≤ x ∧ x ≤ 99) := fun k i x hx => by
    rw [outG_few q hx]
    exact ⟨PM.few_nonneg q i, PM.few_top q i⟩
  have BZ : Hid (∀ (o : Nat → Int) (k : Nat) (b : Int), PM.bestG q o k 0 b = b) := fun o k b => by unfold PM.bestG; rfl
  have BS : Hid (∀ (o : Nat → Int) (k p : Nat) (b : Int), p ≠ 0 → PM.bestG q o k p b = PM.bestG q o k ((p - 1) &&& k) (if q p then min b (1 + o (k - p)) else b)) := fun o k p b hp => by
    conv => lhs; unfold PM.bestG
    rw [dif_neg hp]
  obtain ⟨G, hG⟩ : ∃ G, G = PM.outG q := ⟨_, rfl⟩
  obtain ⟨BG, hBG⟩ : ∃ BG, BG = PM.bestG q := ⟨_, rfl⟩
  rw [← hG] at OS OL O1 OR ⊢
  rw [← hBG] at OS BZ BS
  clear hG hBG h hv
  obtain ⟨fA, fC, ff, slo, shi, pA, pC, fp, fc, sA, sC, fs⟩ := f
  simp only at h9 AL
  show Calls Tryd.prog 72 #[.agg #[.slice fA ff.length fC, vi slo, vi shi, .slice pA fp.length pC, vi fc, .slice sA fs.length sC]] w _
  go_enter Tryd.func72, Tryd.ntmps72
  go_wp2_with fail
  refine (AL.out _ (HF.out.to (by (repeat (first | exact Below.refl _ _ | refine Below.setCell ?_ (by first | omega | (simp; omega) | (simp; done)) _ | refine Below.alloc ?_ (by first | omega | (simp; omega) | (simp; done)) _ | refine Below.drew ?_ | refine below_drewN ?_ _ | refine Below.trans ?_ (Below.mono (by assumption) (by first | omega | (simp; omega) | (simp; done)))))))).mono ?_
  rintro e W1 ⟨A, cap, rfl, hA, hb⟩
  have HB1 : Below w.heap.size w W1 := by (repeat (first | exact Below.refl _ _ | refine Below.setCell ?_ (by first | omega | (simp; omega) | (simp; done)) _ | refine Below.alloc ?_ (by first | omega | (simp; omega) | (simp; done)) _ | refine Below.drew ?_ | refine below_drewN ?_ _ | refine Below.trans ?_ (Below.mono (by assumption) (by first | omega | (simp; omega) | (simp; done)))))
  have HA := Lib.hid hA
  have hLL := HAL.out
  clear hb hA
  rw [hLL]
  go_wp2_with fail
  have hO1 : (W1.alloc (.cells #[vi 0] 3)).ownsRow W1.heap.size 3 1 (.slice (some ⟨W1.heap.size, 0, none⟩) 1 1) 1 ((G 1).map vi) := by
    rw [O1.out]
    exact World.ownsRow_lit W1 #[vi 0] 1 (Nat.le_refl _) (by decide) rfl
  go_loopw [4, 5, 6, 7] (fun v i x6 x7 wr => ∃ k : Nat, 1 ≤ k ∧ k ≤ N ∧ i = .int .i64 k ∧ Below W1.heap.size W1 wr ∧ wr.ownsRow W1.heap.size 3 1 v k ((G k).map vi)) (fun _ i _ _ _ => N - (intOf i).toNat)
  case atStart => exact ⟨1, Nat.le_refl _, hN1, rfl, by (repeat (first | exact Below.refl _ _ | refine Below.setCell ?_ (by first | omega | (simp; omega) | (simp; done)) _ | refine Below.alloc ?_ (by first | omega | (simp; omega) | (simp; done)) _ | refine Below.drew ?_ | refine below_drewN ?_ _ | refine Below.trans ?_ (Below.mono (by assumption) (by first | omega | (simp; omega) | (simp; done))))), hO1⟩
  clear hO1
  obtain ⟨k, hk1, hk, rfl, hB, hown⟩ := hrel
  have hz := hB.size
  have HBr : Below w.heap.size w wr := HB1.trans (hB.mono HB1.size)
  by_cases hlt : k < N
  · have hkI : (k : Int) < N := by omega
    have hOL := OL.out k
    have HOS := Lib.hid (OS.out k hk1)
    obtain ⟨o, ho⟩ : ∃ o : Nat → Int, o = fun i => (G k)[i]?.getD 0 := ⟨_, rfl⟩
    have HOO : Hid (∀ (d : Nat), d < k → ∃ y, (G k)[d]? = some y ∧ o d = y ∧ 0 ≤ y ∧ y ≤ 99) := fun d hd => by
      refine ⟨(G k)[d], List.getElem?_eq_getElem (by omega), ?_, ?_⟩
      · rw [ho]; simp only; rw [List.getElem?_eq_getElem (by omega)]; rfl
      · exact OR.out k d _ (List.getElem?_eq_getElem (by omega))
    rw [← ho] at HOS
    obtain ⟨fin, hfin⟩ : ∃ fin, BG o k k 99 = fin := ⟨_, rfl⟩
    rw [hfin] at HOS
    have HFIN := Lib.hid hfin
    have BZK := Lib.hid (BZ.out o k)
    have BSK := Lib.hid (BS.out o k)
    obtain ⟨B2, hB2⟩ : ∃ B2, B2 = BG o k := ⟨_, rfl⟩
    rw [← hB2] at HFIN BZK BSK
    obtain ⟨Gk, hGk⟩ : ∃ Gk, Gk = G k := ⟨_, rfl⟩
    rw [← hGk] at HOO hown HOS hOL
    clear ho hfin hB2 hGk
    obtain ⟨A', c', rfl, h1, h2⟩ := own_form hown
    have HOWN := Lib.hid hown
    have IN : Hid (∀ (d : Nat) (y : Int), Gk[d]? = some y → ∃ b, A' = some ⟨b, 0, none⟩ ∧ wr.cell? ⟨b, d, none⟩ = some (vi y)) := fun d y hy => by
      rcases hown.2 with ⟨e1, h0⟩ | ⟨g, cp, cur, e1, _⟩
      · omega
      · cases e1
        refine ⟨g, rfl, ?_⟩
        have hdl := (List.getElem?_eq_some_iff.1 hy).1
        rw [World.ownsRow.cellAt hown d (by omega), List.getElem?_map, hy]
        rfl
    clear hown
    go_wp2_with fail
    obtain ⟨wo, rfl⟩ : ∃ wo : World, wo = wr := ⟨_, rfl⟩
    go_loopw [6, 7] (fun b p wr => ∃ (p' : Nat) (b' : Int), p' ≤ k ∧ p = .int .i64 p' ∧ b = vi b' ∧ 0 ≤ b' ∧ b' ≤ 99 ∧ Hid (B2 p' b' = fin) ∧ wr = wo) (fun _ p _ => (intOf p).toNat)
    case atStart => exact ⟨k, 99, Nat.le_refl _, rfl, rfl, by omega, by omega, HFIN, rfl⟩
    obtain ⟨p, b, hpk, rfl, rfl, hb0, hb1, HP, hwr⟩ := hrel
    subst hwr
    by_cases hp0 : p = 0
    · have hd : decide ((0 : Int) < p) = false := by simp; omega
      have hbf : Hid (b = fin) := by
        have := HP.out
        rw [hp0] at this
        unfold Hid
        rw [← this]
        exact (BZK.out b).symm
      have HO2 := HOWN.out
      clear HP
      go_wp2_with (at_builtin; go_loud (refine wpList_append_own _ rfl _ _ 22 rfl W1.heap.size 3 i0 (.int .i64 0) 1 8 Tryd.underlying22 hi hy0 hy1 hy2 rfl (by decide) _ _ _ rfl (HO2.alloc _) ⟨wr.heap.size, 0, none⟩ 1 1 [vi b] rfl rfl (cell_one_new _ _ _) (by simp [Value.oneCell']) (by unfold maxLen; omega) (by omega) (by simp; omega) ?_; intro v5 w5 hown5 hgrow5 _))
      have HB5 : Below W1.heap.size W1 w5 := Below.grown (hB.alloc (by omega) _) hgrow5 (by simp; omega) (fun j e => (HO2.lt j e).1)
      obtain ⟨A5, c5, rfl, -, -⟩ := own_form hown5
      go_roundw
      case rel =>
        refine ⟨k + 1, by omega, by omega, by go_num, HB5, ?_⟩
        rw [HOS.out, ← hbf.out]
        simpa using hown5
      case measure => simp [intOf]; omega
    · have hd : decide ((0 : Int) < p) = true := by simp; omega
      obtain ⟨x, hx⟩ : ∃ x, q p = x := ⟨_, rfl⟩
      have hLp := HAT.out p (by omega)
      rw [hx] at hLp
      obtain ⟨bb, off, rfl, hbb, x0⟩ := bools_at (HA.out.to hB) hLp
      have zbb : bb < wr.heap.size := hbb
      have HPS := Lib.hid (BSK.out p b hp0)
      rw [hx, HP.out] at HPS
      have hpI : (p : Int) < N := by omega
      have h0p : (0 : Int) ≤ p := by omega
      obtain ⟨p1, hp1⟩ : ∃ p1 : Nat, p1 = p - 1 := ⟨_, rfl⟩
      have hw1 : IntKind.wrap .i64 ((p : Int) - 1) = (p1 : Int) := by rw [wrapI (by omega) (by omega)]; omega
      obtain ⟨p2, hp2⟩ : ∃ p2 : Nat, p2 = p1 &&& k := ⟨_, rfl⟩
      have hw2 : bits BinOp.and IntKind.i64 (p1 : Int) (k : Int) = (p2 : Int) := by rw [hp2]; exact and_fact p1 k (by omega) (by omega)
      have hlt2 : p2 < p := by have := @Nat.and_le_left p1 k; omega
      rw [← hp1, ← hp2] at HPS
      clear hp1 hp2 hLp hx HP
      rcases x with _ | _
      · have NEXT : Hid (B2 p2 b = fin) := by unfold Hid; have := HPS.out; simpa using this.symm
        clear HPS
        go_wp2_with fail
        go_roundw
        case rel => exact ⟨p2, b, by omega, by first | rfl | go_num, rfl, hb0, hb1, NEXT, trivial⟩
        case measure => simp [intOf]; omega
      · obtain ⟨d, hdd⟩ : ∃ d : Nat, d = k - p := ⟨_, rfl⟩
        obtain ⟨y, hy1, hy2', hy3, hy4⟩ := HOO.out d (by omega)
        obtain ⟨g, rfl, y0⟩ := IN.out d y hy1
        have hw3 : IntKind.wrap .i64 ((k : Int) - (p : Int)) = (d : Int) := by rw [wrapI (by omega) (by omega)]; omega
        have hw4 : IntKind.wrap .i64 (1 + y) = 1 + y := wrapI (by omega) (by omega)
        have hdk : (d : Int) < k := by omega
        have h0d : (0 : Int) ≤ d := by omega
        have zg : g < wr.heap.size := cell_lt y0
        have NEXT : Hid (B2 p2 (min b (1 + y)) = fin) := by unfold Hid; have := HPS.out; rw [← hdd, hy2'] at this; simpa using this.symm
        clear HPS hy1 hy2' hdd
        go_wp2_with fail
        go_roundw
        case rel => exact ⟨p2, min b (1 + y), by omega, by first | rfl | go_num, congrArg vi (by split <;> omega), by omega, by omega, NEXT, trivial⟩
        case measure => simp [intOf]; omega
  · obtain rfl : k = N := by omega
    have hln := OL.out k
    rw [← intC_flat] at hown
    obtain ⟨A', c', rfl, h1, h2, h3⟩ := own_rows (m := (G k).map intC) (intC_one _) hown (by simp; omega) (by omega)
    go_wp2_with fail
    go_ret
    rw [hln]
    exact ⟨A', c', rfl, ⟨by simp; omega, by unfold maxLen at h2; omega, h3.few, h3.row⟩, HBr⟩
end Go.Proofs.YtomgnpfpaodpiaaDoor

