/- Which crews have their slips in time: plain forms. -/
import Derived.Test.YtomgnpfpaodpiaaDoorK05
import Derived.Test.YtomgnpfpaodpiaaDoorK02
import Derived.Deep.RegionHeld3
import Derived.Deep.AppendLies
import Derived.Test.YtomgnpfpaodpiaaDoorK04
import Derived.Test.YtomgnpfpaodpiaaDoorK03
import Derived.Laws.OwnMore
set_option linter.unusedVariables false
set_option linter.unusedSimpArgs false
namespace Go.Proofs.YtomgnpfpaodpiaaDoor
open Go Go.RowKit
/-- slips without some of them -/
def lessF (m x : Nat) : Nat := m ^^^ (m &&& x)
theorem less_lt {m : Nat} (hm : m < 512) (x : Nat) : lessF m x < 512 := Nat.xor_lt_two_pow (n := 9) hm (Nat.lt_of_le_of_lt Nat.and_le_left hm)
theorem less_bits (m x : Nat) (hm : m < 512) (hx : x < 512) : m &&& (2 ^ 64 - 1 - x) = lessF m x := by
  apply Nat.eq_of_testBit_eq
  intro i
  rw [show 2 ^ 64 - 1 - x = 2 ^ 64 - (x + 1) by omega, Nat.testBit_and, Nat.testBit_two_pow_sub_succ (by omega), lessF, Nat.testBit_xor, Nat.testBit_and]
  by_cases h : m.testBit i = true
  · have hi : i < 64 := by
      apply Classical.byContradiction
      intro hn
      have : m < 2 ^ i := Nat.lt_of_lt_of_le (Nat.lt_of_lt_of_le hm (show 512 ≤ 2 ^ 64 by decide)) (Nat.pow_le_pow_right (by omega) (by omega))
      rw [Nat.testBit_lt_two_pow this] at h
      cases h
    rw [h]
    simp [hi]
  · have h' : m.testBit i = false := by simpa using h
    rw [h']
    simp
set_option maxRecDepth 100000 in
theorem less_fact (m x : Nat) (hm : m < 512) (hx : x < 512) : bits BinOp.andNot IntKind.i64 (m : Int) (x : Int) = ((lessF m x : Nat) : Int) := by
  unfold bits
  simp
  have e1 : m % 2 ^ IntKind.i64.bits = m := Nat.mod_eq_of_lt (Nat.lt_of_lt_of_le hm (by decide))
  have e2 : x % 2 ^ IntKind.i64.bits = x := Nat.mod_eq_of_lt (Nat.lt_of_lt_of_le hx (by decide))
  have e3 : (2 : Nat) ^ IntKind.i64.bits = 2 ^ 64 := rfl
  rw [e1, e2, e3, less_bits m x hm hx]
  have := less_lt hm x
  exact wrapI (by omega) (by omega)
/-- has a crew its slips in time -/
def canF (f : Floor) : Nat → Nat → Bool
  | 0, m => m == 0
  | p + 1, m => m == 0 || (givenF f m).any fun x => canF f p (lessF m x)
/-- what one picker of a crew is given -/
def shareF (f : Floor) (p m : Nat) : Nat := ((givenF f m).find? fun x => canF f (p - 1) (lessF m x)).getD 0
theorem given_pos (f : Floor) (m : Nat) : ∀ (rest : List Nat) (to : Nat) (sec : Int), ∀ x ∈ loopF f m to sec rest, x ≠ 0
  | [], to, sec, x, h => by
    rw [loopF] at h
    split at h
    · simp at h
    · rw [List.mem_singleton] at h; subst h; assumption
  | s :: rest, to, sec, x, h => by
    rw [loopF, List.mem_append] at h
    rcases h with h | h
    · split at h
      · exact given_pos f m rest _ _ x h
      · simp at h
    · exact given_pos f m rest _ _ x h
theorem given_lt (f : Floor) (m : Nat) : ∀ (rest : List Nat) (to : Nat) (sec : Int), to < 512 → (∀ s ∈ rest, s < 9) → ∀ x ∈ loopF f m to sec rest, x < 512
  | [], to, sec, hto, _, x, h => by
    rw [loopF] at h
    split at h
    · simp at h
    · rw [List.mem_singleton] at h; subst h; exact hto
  | s :: rest, to, sec, hto, hr, x, h => by
    have hs := hr s (by simp)
    rw [loopF, List.mem_append] at h
    rcases h with h | h
    · split at h
      · exact given_lt f m rest _ _ (Nat.or_lt_two_pow (n := 9) hto (Nat.pow_lt_pow_right (by omega) hs)) (fun y hy => hr y (by simp [hy])) x h
      · simp at h
    · exact given_lt f m rest _ _ hto (fun y hy => hr y (by simp [hy])) x h
theorem can_share {f : Floor} {p m : Nat} (hp : p ≠ 0) (hm : m ≠ 0) : canF f p m = decide (shareF f p m ≠ 0) := by
  obtain ⟨q, rfl⟩ : ∃ q, p = q + 1 := ⟨p - 1, by omega⟩
  rw [canF, shareF]
  have h0 : (m == 0) = false := by simpa using hm
  rw [h0, Bool.false_or, Nat.add_sub_cancel]
  cases hf : (givenF f m).find? fun x => canF f q (lessF m x) with
  | none =>
    rw [List.find?_eq_none] at hf
    have : ((givenF f m).any fun x => canF f q (lessF m x)) = false := by
      rw [List.any_eq_false]
      exact hf
    rw [this]
    simp
  | some x =>
    have hx := List.mem_of_find?_eq_some hf
    have h1 := given_pos f m _ _ _ x hx
    have h2 := List.find?_some hf
    have : ((givenF f m).any fun x => canF f q (lessF m x)) = true := List.any_eq_true.2 ⟨x, hx, h2⟩
    rw [this]
    simp [h1]
/-- what is in the map of shares of crews of at most so many -/
structure Inv (f : Floor) (P : Nat) (μ : Nat → Nat → Option Nat) : Prop where
  val : ∀ m p s, p ≤ P → μ m p = some s → m ≠ 0 ∧ p ≠ 0 ∧ s = shareF f p m
  rest : ∀ m p s, p ≤ P → μ m p = some s → s ≠ 0 → lessF m s ≠ 0 → p - 1 ≠ 0 → μ (lessF m s) (p - 1) ≠ none
structure Grows (P : Nat) (μ μ' : Nat → Nat → Option Nat) : Prop where
  above : ∀ m p, P < p → μ' m p = μ m p
  keep : ∀ m p s, μ m p = some s → μ' m p = some s
theorem Grows.refl (P : Nat) (μ : Nat → Nat → Option Nat) : Grows P μ μ := ⟨fun _ _ _ => rfl, fun _ _ _ h => h⟩
theorem Grows.trans {P : Nat} {a b c : Nat → Nat → Option Nat} (h : Grows P a b) (k : Grows P b c) : Grows P a c := ⟨fun m p hp => (k.above m p hp).trans (h.above m p hp), fun m p s e => k.keep m p s (h.keep m p s e)⟩
theorem Inv.less {f : Floor} {P Q : Nat} {μ : Nat → Nat → Option Nat} (h : Inv f P μ) (hq : Q ≤ P) : Inv f Q μ := ⟨fun m p s hp => h.val m p s (by omega), fun m p s hp => h.rest m p s (by omega)⟩
def setM (μ : Nat → Nat → Option Nat) (m p g : Nat) : Nat → Nat → Option Nat := fun m' p' => if m' = m ∧ p' = p then some g else μ m' p'
theorem set_less {f : Floor} {P : Nat} {μ : Nat → Nat → Option Nat} (h : Inv f P μ) (m g : Nat) : Inv f P (setM μ m (P + 1) g) := by
  refine ⟨fun m' p' s hp e => ?_, fun m' p' s hp e h1 h2 h3 => ?_⟩
  · rw [setM, if_neg (by omega)] at e
    exact h.val m' p' s hp e
  · rw [setM, if_neg (by omega)] at e
    rw [setM, if_neg (by omega)]
    exact h.rest m' p' s hp e h1 h2 h3
/-- the share of a crew is put into the map -/
theorem Inv.close {f : Floor} {P m : Nat} {μ μ1 : Nat → Nat → Option Nat} (h : Inv f (P + 1) μ) (hm : m ≠ 0) (hn : μ m (P + 1) = none) (h1 : Inv f P μ1) (hg : Grows P (setM μ m (P + 1) 0) μ1) (s : Nat) (hs : s = shareF f (P + 1) m) (hr : s ≠ 0 → lessF m s ≠ 0 → P ≠ 0 → μ1 (lessF m s) P ≠ none) :
    Inv f (P + 1) (setM μ1 m (P + 1) s) ∧ Grows (P + 1) μ (setM μ1 m (P + 1) s) := by
  have up : ∀ m' p' t, μ m' p' = some t → setM μ1 m (P + 1) s m' p' = some t := fun m' p' t e => by
    have hne : ¬ (m' = m ∧ p' = P + 1) := by rintro ⟨rfl, rfl⟩; rw [hn] at e; cases e
    rw [setM, if_neg hne]
    exact hg.keep m' p' t (by rw [setM, if_neg hne]; exact e)
  refine ⟨⟨fun m' p' t hp e => ?_, fun m' p' t hp e g1 g2 g3 => ?_⟩, ⟨fun m' p' hp => ?_, up⟩⟩
  · by_cases hc : m' = m ∧ p' = P + 1
    · obtain ⟨rfl, rfl⟩ := hc
      rw [setM, if_pos ⟨rfl, rfl⟩] at e
      cases e
      exact ⟨hm, by omega, hs⟩
    · rw [setM, if_neg hc] at e
      by_cases hp2 : p' ≤ P
      · exact h1.val m' p' t hp2 e
      · have : μ1 m' p' = μ m' p' := by rw [hg.above m' p' (by omega), setM, if_neg hc]
        rw [this] at e
        exact h.val m' p' t hp e
  · have lift : μ1 (lessF m' t) (p' - 1) ≠ none → setM μ1 m (P + 1) s (lessF m' t) (p' - 1) ≠ none := fun hx => by
      rw [setM, if_neg (by omega)]; exact hx
    by_cases hc : m' = m ∧ p' = P + 1
    · obtain ⟨rfl, rfl⟩ := hc
      rw [setM, if_pos ⟨rfl, rfl⟩] at e
      cases e
      exact lift (hr g1 g2 (by omega))
    · rw [setM, if_neg hc] at e
      by_cases hp2 : p' ≤ P
      · exact lift (h1.rest m' p' t hp2 e g1 g2 g3)
      · have e2 : μ1 m' p' = μ m' p' := by rw [hg.above m' p' (by omega), setM, if_neg hc]
        rw [e2] at e
        have h9 := h.rest m' p' t hp e g1 g2 g3
        obtain ⟨u, hu⟩ : ∃ u, μ (lessF m' t) (p' - 1) = some u := Option.ne_none_iff_exists'.1 h9
        rw [up _ _ _ hu]
        simp
  · rw [setM, if_neg (by omega), hg.above m' p' (by omega), setM, if_neg (by omega)]
end Go.Proofs.YtomgnpfpaodpiaaDoor
/- Contract of can: a recursion over what a picker can be given, that keeps what it found in a map. -/
namespace Go.Proofs.YtomgnpfpaodpiaaDoor
open Go Go.RowKit Go.Shelf
set_option maxHeartbeats 2000000
attribute [local go_sem] Oper.semAt_some
/-- the lists that a desk holds -/
structure DeskIn (W : World) (f : Floor) (oA qA : Option Addr) (oC : Nat) : Prop where
  floor : FloorAt W W.heap.size f
  ord : IntsAt W W.heap.size oA oC (orderF f)
  secs : IntsAt W W.heap.size qA f.slips.length (secsL f)
theorem DeskIn.cs {w w' : World} {f : Floor} {oA qA : Option Addr} {oC : Nat} (h : DeskIn w f oA qA oC) (hc : CS w w') : DeskIn w' f oA qA oC := ⟨hc.floor h.floor, hc.rows h.ord, hc.rows h.secs⟩
/-- what can leaves -/
structure CanPost (f : Floor) (bm p m : Nat) (μ μ' : Nat → Nat → Option Nat) (W W' : World) : Prop where
  map : CrewMap W' bm μ'
  inv : Inv f p μ'
  grows : Grows p μ μ'
  known : m ≠ 0 → p ≠ 0 → μ' m p ≠ none
  cs : CS W W'
  spare : Spare W.heap.size bm W W'
theorem cs_row {X Y : World} {row : Option Nat} {B : Nat} (hg : X.grownBy Y row) (hr : ∀ r, row = some r → B ≤ r ∧ ∃ o : Obj, X.heap[r]? = some o ∧ o.isCells = false) : CS X Y :=
  ⟨hg.os, hg.tape, hg.output, hg.size, fun k c t z hk => (hg.block k (Array.getElem?_eq_some_iff.1 hk).1 fun e => by
    obtain ⟨_, o, ho, hc⟩ := hr k e.symm
    rw [hk] at ho; cases ho; cases hc).trans hk⟩
theorem spare_row {X Y w : World} {row : Option Nat} {B n L : Nat} (h : Spare n L w X) (hn : n ≤ w.heap.size) (hB : n ≤ B) (hg : X.grownBy Y row) (hr : ∀ r, row = some r → B ≤ r ∧ ∃ o : Obj, X.heap[r]? = some o ∧ o.isCells = false) : Spare n L w Y :=
  h.trans ⟨hg.os, hg.tape, hg.output, hg.size, fun k hk _ => hg.block k (by have := h.size; omega) fun e => by have := (hr k e.symm).1; omega⟩
theorem crew_row {X Y : World} {row : Option Nat} {B bm : Nat} {μ : Nat → Nat → Option Nat} (h : CrewMap X bm μ) (hB : bm < B) (hg : X.grownBy Y row) (hr : ∀ r, row = some r → B ≤ r ∧ ∃ o : Obj, X.heap[r]? = some o ∧ o.isCells = false) : CrewMap Y bm μ :=
  h.keep (hg.block bm h.lt fun e => by have := (hr bm e.symm).1; omega)
/-- what is so between rounds: none of those that were given so far does -/
def CanI (f : Floor) (bm p m : Nat) (μ : Nat → Nat → Option Nat) (W w4 : World) (pre : List Nat) (X : World) : Prop :=
  ∃ μ', CrewMap X bm μ' ∧ Inv f p μ' ∧ Grows p (setM μ m (p + 1) 0) μ' ∧ (∀ x ∈ pre, canF f p (lessF m x) = false) ∧ CS w4 X ∧ Spare W.heap.size bm W X
def CanX (f : Floor) (bm p m br : Nat) (μ : Nat → Nat → Option Nat) (W : World) (c : Code) (pre : List Nat) (X : World) : Prop :=
  c = .ret ∧ ∃ d x μ', pre = d ++ [x] ∧ (∀ y ∈ d, canF f p (lessF m y) = false) ∧ canF f p (lessF m x) = true ∧ CrewMap X bm (setM μ' m (p + 1) x) ∧ Inv f p μ' ∧ Grows p (setM μ m (p + 1) 0) μ' ∧ (lessF m x ≠ 0 → p ≠ 0 → μ' (lessF m x) p ≠ none) ∧ CellsBox X br 4 [.bool true] ∧ CS W X ∧ Spare W.heap.size bm W X
theorem own_canI (f : Floor) (bm p m : Nat) (μ : Nat → Nat → Option Nat) (W w4 : World) (B : Nat) (hbm : bm < B) (hB : W.heap.size ≤ B) : OwnFrom B (CanI f bm p m μ W w4) := by
  rintro s X Y row ⟨μ', h1, h2, h3, h4, h5, h6⟩ hg hr
  exact ⟨μ', crew_row h1 hbm hg hr, h2, h3, h4, h5.trans (cs_row hg hr), spare_row h6 (Nat.le_refl _) hB hg hr⟩
theorem own_canX (f : Floor) (bm p m br : Nat) (μ : Nat → Nat → Option Nat) (W : World) (B : Nat) (hbm : bm < B) (hB : W.heap.size ≤ B) (c : Code) : OwnFrom B (CanX f bm p m br μ W c) := by
  rintro s X Y row ⟨hc, d, x, μ', h0, h1, h2, h3, h4, h5, h6, h7, h8, h9⟩ hg hr
  exact ⟨hc, d, x, μ', h0, h1, h2, crew_row h3 hbm hg hr, h4, h5, h6, (cs_row hg hr).box h7, h8.trans (cs_row hg hr), spare_row h9 (Nat.le_refl _) hB hg hr⟩
theorem can_zero (f : Floor) (p : Nat) : canF f p 0 = true := by cases p <;> simp [canF]
theorem can_none (f : Floor) {m : Nat} (hm : m ≠ 0) : canF f 0 m = false := by simpa [canF] using hm
set_option maxRecDepth 100000 in
theorem can_any (f : Floor) (hv : validB f = true) (oA qA : Option Addr) (oC qC bm : Nat) : ∀ (p m : Nat), p ≤ 5 → m < 512 → ∀ (W : World) (μ : Nat → Nat → Option Nat), DeskIn W f oA qA oC → CrewMap W bm μ → Inv f p μ →
    Calls Tryd.prog 76 #[.agg (deskC f oA oC qA f.slips.length qC bm).toArray, crewV m p] W fun e W' => e = .returned (.bool (canF f p m)) ∧ ∃ μ', CanPost f bm p m μ μ' W W' := by
  intro p
  induction p with
  | zero =>
    intro m _ hm W μ hD hM hI
    have HM := Lib.hid hM
    have HI := Lib.hid hI
    show Calls Tryd.prog 76 #[.agg #[.slice f.fA f.far.length f.fC, vi f.slo, vi f.shi, .slice f.pA f.picks.length f.pC, vi f.carry, .slice f.sA f.slips.length f.sC, .slice oA f.slips.length oC, .slice qA f.slips.length qC, .map (some bm)], .agg #[vi m, vi 0]] W _
    refine (callsIn_wide (n := 12)).1 ?_
    refine callsIn_of_wp_marks Tryd.func76 rfl trivial ?_ rfl
    simp only [Tryd.ntmps76, List.size_toArray, List.length_cons, List.length_nil, Nat.reduceAdd, Nat.reduceSub, Array.replicate_succ, Array.replicate_zero, List.push_toArray, List.append_toArray, List.nil_append, List.cons_append]
    have HP : Hid (∀ W', Below W.heap.size W W' → CanPost f bm 0 m μ μ W W') := fun W' hb => ⟨HM.out.below hb, HI.out, Grows.refl _ _, fun _ h => absurd rfl h, cs_of_below hb, spare_of_below bm hb (Nat.le_refl _)⟩
    by_cases hm0 : m = 0
    · subst hm0
      rw [can_zero]
      clear hD hM hI
      gi_wp2_with fail
      refine ⟨.bool true, by simp [results, Tryd.results76, go_sem], rfl, μ, HP.out _ ?_⟩
      (repeat (first | exact Below.refl _ _ | refine Below.setCell ?_ (by first | omega | (simp; omega) | (simp; done)) _ | refine Below.alloc ?_ (by first | omega | (simp; omega) | (simp; done)) _ | refine Below.drew ?_ | refine below_drewN ?_ _ | refine Below.trans ?_ (Below.mono (by assumption) (by first | omega | (simp; omega) | (simp; done)))))
    · have hme : ((m : Int) == 0) = false := by simp; omega
      rw [can_none f hm0]
      clear hD hM hI
      gi_wp2_with fail
      refine ⟨.bool false, by simp [results, Tryd.results76, go_sem], rfl, μ, HP.out _ ?_⟩
      (repeat (first | exact Below.refl _ _ | refine Below.setCell ?_ (by first | omega | (simp; omega) | (simp; done)) _ | refine Below.alloc ?_ (by first | omega | (simp; omega) | (simp; done)) _ | refine Below.drew ?_ | refine below_drewN ?_ _ | refine Below.trans ?_ (Below.mono (by assumption) (by first | omega | (simp; omega) | (simp; done)))))
  | succ p ih =>
    intro m hp hm W μ hD hM hI
    have IH := Lib.hid ih
    have HD := Lib.hid hD
    have HM := Lib.hid hM
    have HI := Lib.hid hI
    have HV := Lib.hid hv
    have zM := hM.lt
    clear ih hD hI hv
    show Calls Tryd.prog 76 #[.agg #[.slice f.fA f.far.length f.fC, vi f.slo, vi f.shi, .slice f.pA f.picks.length f.pC, vi f.carry, .slice f.sA f.slips.length f.sC, .slice oA f.slips.length oC, .slice qA f.slips.length qC, .map (some bm)], .agg #[vi m, vi (p + 1 : Nat)]] W _
    refine (callsIn_wide (n := 12)).1 ?_
    refine callsIn_of_wp_marks Tryd.func76 rfl trivial ?_ rfl
    simp only [Tryd.ntmps76, List.size_toArray, List.length_cons, List.length_nil, Nat.reduceAdd, Nat.reduceSub, Array.replicate_succ, Array.replicate_zero, List.push_toArray, List.append_toArray, List.nil_append, List.cons_append]
    obtain ⟨pI, hpI⟩ : ∃ pI : Int, pI = ((p + 1 : Nat) : Int) := ⟨_, rfl⟩
    have hpe : (pI == 0) = false := by simp; omega
    have hp1 : pI - 1 = p := by omega
    have HPI := Lib.hid hpI
    rw [← hpI]
    clear hpI
    by_cases hm0 : m = 0
    · subst hm0
      rw [can_zero]
      have HP : Hid (∀ W', Below W.heap.size W W' → CanPost f bm (p + 1) 0 μ μ W W') := fun W' hb => ⟨hM.below hb, HI.out, Grows.refl _ _, fun h => absurd rfl h, cs_of_below hb, spare_of_below bm hb (Nat.le_refl _)⟩
      gi_wp2_with fail
      refine ⟨.bool true, by simp [results, Tryd.results76, go_sem], rfl, μ, HP.out _ ?_⟩
      (repeat (first | exact Below.refl _ _ | refine Below.setCell ?_ (by first | omega | (simp; omega) | (simp; done)) _ | refine Below.alloc ?_ (by first | omega | (simp; omega) | (simp; done)) _ | refine Below.drew ?_ | refine below_drewN ?_ _ | refine Below.trans ?_ (Below.mono (by assumption) (by first | omega | (simp; omega) | (simp; done)))))
    · have hme : ((m : Int) == 0) = false := by simp; omega
      have HM0 := Lib.hid hm0
      obtain ⟨V, hV⟩ : ∃ V, V = ((W.alloc (.cells #[.slice f.fA f.far.length f.fC, vi f.slo, vi f.shi, .slice f.pA f.picks.length f.pC, vi f.carry, .slice f.sA f.slips.length f.sC, .slice oA f.slips.length oC, .slice qA f.slips.length qC, .map (some bm)] 108)).alloc (.cells #[vi m, vi pI] 116)).alloc (.cells #[.bool false] 4) := ⟨_, rfl⟩
      have hb : Below W.heap.size W V := by rw [hV]; (repeat (first | exact Below.refl _ _ | refine Below.setCell ?_ (by first | omega | (simp; omega) | (simp; done)) _ | refine Below.alloc ?_ (by first | omega | (simp; omega) | (simp; done)) _ | refine Below.drew ?_ | refine below_drewN ?_ _ | refine Below.trans ?_ (Below.mono (by assumption) (by first | omega | (simp; omega) | (simp; done)))))
      have HB := Lib.hid hb
      have X1 : Hid (CellsBox V W.heap.size 108 (deskC f oA oC qA f.slips.length qC bm)) := by unfold Hid; rw [hV]; exact ((CellsBox.new W 108 (deskC f oA oC qA f.slips.length qC bm)).alloc _).alloc _
      have X2 : Hid (CellsBox V (W.heap.size + 1) 116 [vi m, vi pI]) := by
        unfold Hid; rw [hV]
        have := (CellsBox.new (W.alloc (.cells #[.slice f.fA f.far.length f.fC, vi f.slo, vi f.shi, .slice f.pA f.picks.length f.pC, vi f.carry, .slice f.sA f.slips.length f.sC, .slice oA f.slips.length oC, .slice qA f.slips.length qC, .map (some bm)] 108)) 116 [vi m, vi pI]).alloc (.cells #[.bool false] 4)
        rwa [World.size_alloc] at this
      have X3 : Hid (CellsBox V (W.heap.size + 1 + 1) 4 [.bool false]) := by
        unfold Hid; rw [hV]
        have := CellsBox.new ((W.alloc (.cells #[.slice f.fA f.far.length f.fC, vi f.slo, vi f.shi, .slice f.pA f.picks.length f.pC, vi f.carry, .slice f.sA f.slips.length f.sC, .slice oA f.slips.length oC, .slice qA f.slips.length qC, .map (some bm)] 108)).alloc (.cells #[vi m, vi pI] 116)) 4 [.bool false]
        simpa using this
      have hlk0 := look_crew (hM.below hb) m (p + 1) true
      rw [show crewV m (p + 1) = .agg #[vi m, vi pI] from by rw [HPI.out]] at hlk0
      cases hk : μ m (p + 1) with
      | some s =>
        obtain ⟨_, _, hs⟩ := HI.out.val m (p + 1) s (Nat.le_refl _) hk
        have hcan : canF f (p + 1) m = decide (s ≠ 0) := by rw [can_share (by omega) hm0, ← hs]
        rw [hcan]
        have HP : Hid (∀ W', Below W.heap.size W W' → CanPost f bm (p + 1) m μ μ W W') := fun W' hb => ⟨hM.below hb, HI.out, Grows.refl _ _, fun _ _ => by rw [hk]; simp, cs_of_below hb, spare_of_below bm hb (Nat.le_refl _)⟩
        rw [hk, hV] at hlk0
        simp only [Option.getD_some, Option.isSome_some, if_true] at hlk0
        clear hs hcan hk hV hb
        gi_wp2_with fail
        refine ⟨.bool ((s : Int) != 0), by simp [results, Tryd.results76, go_sem], ?_, μ, HP.out _ ?_⟩
        · have e : ((s : Int) != 0) = decide (s ≠ 0) := by
            by_cases h : s = 0 <;> simp [h]
          rw [e]
        · (repeat (first | exact Below.refl _ _ | refine Below.setCell ?_ (by first | omega | (simp; omega) | (simp; done)) _ | refine Below.alloc ?_ (by first | omega | (simp; omega) | (simp; done)) _ | refine Below.drew ?_ | refine below_drewN ?_ _ | refine Below.trans ?_ (Below.mono (by assumption) (by first | omega | (simp; omega) | (simp; done)))))
      | none =>
        obtain ⟨w2, hst, hC2, hcs2, hsz2, hoth2⟩ := store_crew (hM.below hb) m (p + 1) 0
        rw [show crewV m (p + 1) = .agg #[vi m, vi pI] from by rw [HPI.out]] at hst
        rw [hV, show ((0 : Nat) : Int) = 0 from rfl] at hst
        rw [hk, hV] at hlk0
        simp only [Option.getD_none, Option.isSome_none, if_true] at hlk0
        have HK := Lib.hid hk
        have HC2 := Lib.hid hC2
        have HCS2 : Hid (CS W w2) := (cs_of_below hb).trans hcs2
        have HO2 : Hid (Spare W.heap.size bm W w2) := ⟨HCS2.out.os, HCS2.out.tape, HCS2.out.output, HCS2.out.size, fun k hk hl => (hoth2 k hl).trans (hb.block k hk)⟩
        have X1w := Lib.hid (hcs2.box X1.out)
        have X2w := Lib.hid (hcs2.box X2.out)
        have X3w := Lib.hid (hcs2.box X3.out)
        have hzV : V.heap.size = W.heap.size + 1 + 1 + 1 := by rw [hV]; simp
        rw [hzV] at hsz2
        have HD2 := Lib.hid (HD.out.cs HCS2.out)
        clear hk hV hb hC2 hcs2 hoth2 X1 X2 X3 HB hM
        have a0 := X1w.out.cell (j := 0) rfl
        have a1 := X1w.out.cell (j := 1) rfl
        have a2 := X1w.out.cell (j := 2) rfl
        have a3 := X1w.out.cell (j := 3) rfl
        have a4 := X1w.out.cell (j := 4) rfl
        have a5 := X1w.out.cell (j := 5) rfl
        have a6 := X1w.out.cell (j := 6) rfl
        have a7 := X1w.out.cell (j := 7) rfl
        have a8 := X1w.out.cell (j := 8) rfl
        have c0 := X2w.out.cell (j := 0) rfl
        have c1 := X2w.out.cell (j := 1) rfl
        have z1 := X1w.out.lt
        have z2 := X2w.out.lt
        gi_wp2_with fail
        refine ⟨trivial, ?_⟩
        refine (callsIn_wide.2 (given_any f m oA qA oC qC bm _ HD2.out.floor HD2.out.ord HD2.out.secs)).mono ?_
        rintro e w4 ⟨pD, pS, pJ, rfl, hGA, hb4⟩
        have hzb := hb4.size
        have HGA := Lib.hid hGA
        clear a0 a1 a2 a3 a4 a5 a6 a7 a8 c0 c1 z1 z2 hGA hst hlk0
        gi_wp2_with fail
        have hbmw : bm < w4.heap.size := by omega
        have hW4 : W.heap.size ≤ w4.heap.size := by omega
        have HCS4 : Hid (CS W w4) := HCS2.out.trans (cs_of_below hb4)
        have HO4 : Hid (Spare W.heap.size bm W w4) := HO2.out.trans (spare_of_below bm hb4 (by omega))
        have HC4 : Hid (CrewMap w4 bm (setM μ m (p + 1) 0)) := HC2.out.below hb4
        have X1v := Lib.hid (X1w.out.keep hb4)
        have X2v := Lib.hid (X2w.out.keep hb4)
        have X3v := Lib.hid (X3w.out.keep hb4)
        have HI0 : Hid (Inv f p (setM μ m (p + 1) 0)) := set_less (HI.out.less (Nat.le_succ p)) m 0
        refine wpIn_rangeFunc_ownG rfl (by omega) (gf := 117) (lb := #[.pointer (some ⟨pD, 0, none⟩), .pointer (some ⟨pS, 0, none⟩), .pointer (some ⟨pJ, 0, none⟩)]) rfl trivial (enters_of Tryd.func117 (by kernel_rfl) rfl)
          (given_seq f HV.out m hm oA qA oC qC bm pD pS pJ w4 HGA.out _) (fun h k => CS.trans h k) (fun W l o o' _ h h1 _ => CS.turn W l o o' h h1) (Below.refl _ _) (fun _ => rfl)
          (fun pre X => CanI f bm p m μ W w4 (Subs pre) X) (fun c pre X => CanX f bm p m (W.heap.size + 1 + 1) μ W c (Subs pre) X) (fun s X Y row hs hg hr => own_canI f bm p m μ W w4 _ hbmw hW4 (Subs s) X Y row hs hg hr) (fun c s X Y row hs hg hr => own_canX f bm p m _ μ W _ hbmw hW4 c (Subs s) X Y row hs hg hr)
          ⟨_, HC4.out, HI0.out, Grows.refl _ _, by simp [Subs], CS.refl _, HO4.out⟩
          (fun x => { tmps := #[.agg #[.slice f.fA f.far.length f.fC, vi f.slo, vi f.shi, .slice f.pA f.picks.length f.pC, vi f.carry, .slice f.sA f.slips.length f.sC, .slice oA f.slips.length oC, .slice qA f.slips.length qC, .map (some bm)], .agg #[vi m, vi pI], .pointer (some ⟨W.heap.size, 0, none⟩), .pointer (some ⟨W.heap.size + 1, 0, none⟩), .pointer (some ⟨W.heap.size + 1 + 1, 0, none⟩), vi 0, .bool false, vi x.1, .pointer (some ⟨W.heap.size + 1, 0, none⟩), vi m, .bool false, .bool false, .pointer (some ⟨W.heap.size + 1, 1, none⟩), vi pI, .bool false, .bool false, undef, undef, undef, .tuple #[vi 0, .bool false], .pointer (some ⟨W.heap.size, 8, none⟩), .map (some bm), .agg #[vi m, vi pI], .tuple #[vi 0, .bool false], vi 0, .bool false, .bool false, undef, undef, .pointer (some ⟨W.heap.size, 8, none⟩), .map (some bm), .agg #[vi m, vi pI], .agg #[.slice f.fA f.far.length f.fC, vi f.slo, vi f.shi, .slice f.pA f.picks.length f.pC, vi f.carry, .slice f.sA f.slips.length f.sC, .slice oA f.slips.length oC, .slice qA f.slips.length qC, .map (some bm)], .pointer (some ⟨W.heap.size + 1, 0, none⟩), vi m, .pointer (some ⟨W.heap.size, 0, none⟩), .agg #[.slice f.fA f.far.length f.fC, vi f.slo, vi f.shi, .slice f.pA f.picks.length f.pC, vi f.carry, .slice f.sA f.slips.length f.sC], inTimeV f, givenV pD pS pJ, vi x.1, undef, undef, undef, undef, undef, undef, undef, undef, undef, undef, undef, undef, undef, undef], defers := [] }) ?assign ?body ?done ?stop
        case assign =>
          intro l x X K hK
          gi_wp2
          exact hK
        case body =>
          rintro l pre ⟨x, hx⟩ X ⟨μ1, h1, h2, h3, h4, h5, h6⟩ hlt
          have hzX := h5.size
          have hbX : bm < X.heap.size := by omega
          have HX1 := Lib.hid (h5.box X1v.out)
          have HX2 := Lib.hid (h5.box X2v.out)
          have HX3 := Lib.hid (h5.box X3v.out)
          have a0 := HX1.out.cell (j := 0) rfl
          have a1 := HX1.out.cell (j := 1) rfl
          have a2 := HX1.out.cell (j := 2) rfl
          have a3 := HX1.out.cell (j := 3) rfl
          have a4 := HX1.out.cell (j := 4) rfl
          have a5 := HX1.out.cell (j := 5) rfl
          have a6 := HX1.out.cell (j := 6) rfl
          have a7 := HX1.out.cell (j := 7) rfl
          have a8 := HX1.out.cell (j := 8) rfl
          have c0 := HX2.out.cell (j := 0) rfl
          have c1 := HX2.out.cell (j := 1) rfl
          have z1 := HX1.out.lt
          have z2 := HX2.out.lt
          have hbits := less_fact m x hm hx
          have hpw : IntKind.wrap .i64 (pI - 1) = p := by rw [hp1]; exact wrapI (by omega) (by omega)
          have HSUB : Hid (Subs (pre ++ [⟨x, hx⟩]) = Subs pre ++ [x]) := by unfold Hid; simp [Subs]
          have HDX := Lib.hid (HD.out.cs (HCS4.out.trans h5))
          have CAN := Lib.hid (IH.out (lessF m x) (by omega) (less_lt hm x) X μ1 HDX.out h1 h2)
          obtain ⟨cb, hcb⟩ : ∃ cb, cb = canF f p (lessF m x) := ⟨_, rfl⟩
          have HCB := Lib.hid hcb
          rw [← hcb] at CAN
          obtain ⟨lx, hlx⟩ : ∃ lx, lx = lessF m x := ⟨_, rfl⟩
          have HLX := Lib.hid hlx
          rw [← hlx] at CAN hbits
          have H1 := Lib.hid h1
          have H2 := Lib.hid h2
          have H3 := Lib.hid h3
          have H4 := Lib.hid h4
          have H5 := Lib.hid h5
          have H6 := Lib.hid h6
          clear hcb hlx h1 h2 h3 h4 h5 h6
          gi_wp2_with fail
          refine ⟨trivial, ?_⟩
          refine (CallsIn.inRound l (callsIn_wide.2 CAN.out)).mono ?_
          rintro e X2 ⟨rfl, μ2, hP⟩
          have HP := Lib.hid hP
          have HS2 : Hid (Spare W.heap.size bm W X2) := ⟨hP.cs.os.trans H6.out.os, hP.cs.tape.trans H6.out.tape, hP.cs.output.trans H6.out.output, Nat.le_trans H6.out.size hP.cs.size, fun k hk hl => (hP.spare.block k (by omega) hl).trans (H6.out.block k hk hl)⟩
          have HKF : Hid (KeepsFrom w4.heap.size X X2) := ⟨hP.cs.size, fun k o hk ho _ => (hP.spare.block k (Array.getElem?_eq_some_iff.1 ho).1 (by omega)).trans ho⟩
          have Y1 := Lib.hid (hP.cs.box HX1.out)
          have Y2 := Lib.hid (hP.cs.box HX2.out)
          have Y3 := Lib.hid (hP.cs.box HX3.out)
          clear a0 a1 a2 a3 a4 a5 a6 a7 a8 c0 c1 z1 z2 hbits hpw hP
          rcases cb with _ | _
          · gi_wp2_with fail
            refine ⟨HKF.out, HP.out.cs, μ2, HP.out.map, HP.out.inv, H3.out.trans HP.out.grows, ?_, H5.out.trans HP.out.cs, HS2.out⟩
            intro y hy
            rw [HSUB.out, List.mem_append, List.mem_singleton] at hy
            rcases hy with hy | rfl
            · exact H4.out y hy
            · exact HCB.out.symm
          · obtain ⟨w5, hst, hC5, hcs5, hsz5, hoth5⟩ := store_crew HP.out.map m (p + 1) x
            rw [show crewV m (p + 1) = .agg #[vi m, vi pI] from by rw [HPI.out]] at hst
            have HC5 := Lib.hid hC5
            have HCS5 := Lib.hid hcs5
            have HO5 := Lib.hid hoth5
            have b0 := Y1.out.cell (j := 8) rfl
            have c0 := Y2.out.cell (j := 0) rfl
            have c1 := Y2.out.cell (j := 1) rfl
            have z1 := Y1.out.lt
            have z2 := Y2.out.lt
            have Y5 := hcs5.box Y3.out
            have r0 := Y5.cell (j := 0) rfl
            have q0 := Y5.frozen 0
            have zr := Y5.lt
            have HY5 := Lib.hid Y5
            have hzX2 := HP.out.cs.size
            have hrb : bm ≠ W.heap.size + 1 + 1 := by omega
            clear hC5 hcs5 hoth5 Y5
            gi_wp2_with fail
            refine ⟨?_, rfl, Subs pre, x, μ2, HSUB.out, H4.out, HCB.out.symm, ?_, HP.out.inv, H3.out.trans HP.out.grows, ?_, HY5.out.store 0 (.bool true), ?_, ?_⟩
            · refine ⟨by have := HKF.out.size; simp; omega, fun k o hk ho hc => ?_⟩
              have h1 := HKF.out.same k o hk ho hc
              rw [heap_setCell_other _ _ k _ (by rintro e; have := HX3.out; unfold CellsBox at this; simp only at e; rw [e, this] at ho; cases ho; cases hc), HO5.out k (by omega)]
              exact h1
            · exact HC5.out.keep (heap_setCell_other _ _ bm _ hrb)
            · intro g1 g2
              rw [← HLX.out]
              exact HP.out.known (by rw [HLX.out]; exact g1) g2
            · have hh : CS W w5 := (HCS4.out.trans H5.out).trans (HP.out.cs.trans HCS5.out)
              exact ⟨hh.os, hh.tape, hh.output, by have := hh.size; simpa using this, fun k c t z hk => (heap_setCell_other _ _ k _ (by have := (Array.getElem?_eq_some_iff.1 hk).1; simp only; omega)).trans (hh.boxes k c t z hk)⟩
            · have hh : CS W w5 := (HCS4.out.trans H5.out).trans (HP.out.cs.trans HCS5.out)
              exact ⟨hh.os, hh.tape, hh.output, by have := hh.size; simpa using this, fun k hk hl => ((heap_setCell_other _ _ k _ (by simp only; omega)).trans (HO5.out k hl)).trans (HS2.out.block k hk hl)⟩
        case done =>
          rintro D xs X hD hxs ⟨μ1, h1, h2, h3, h4, h5, h6⟩ hDf
          rw [hxs] at h4
          have hsh : shareF f (p + 1) m = 0 := by
            unfold shareF
            rw [Nat.add_sub_cancel, List.find?_eq_none.2 (fun x hx => by rw [h4 x hx]; simp)]
            rfl
          have hcan : canF f (p + 1) m = false := by rw [can_share (by omega) HM0.out, hsh]; simp
          obtain ⟨hinv, hgr⟩ := HI.out.close HM0.out HK.out h2 h3 0 hsh.symm (fun h => absurd rfl h)
          have heq : setM μ1 m (p + 1) 0 = μ1 := by
            funext m' p'
            unfold setM
            split
            · rename_i h
              obtain ⟨rfl, rfl⟩ := h
              exact (h3.keep m' (p + 1) 0 (by simp [setM])).symm
            · rfl
          rw [heq] at hinv hgr
          have hc := CS.box h5 X3v.out
          have r0 := hc.cell (j := 0) rfl
          have q0 := hc.frozen 0
          have zr := hc.lt
          have HCAN := Lib.hid hcan
          have hzX := h5.size
          obtain ⟨Z, hZ⟩ : ∃ Z, Z = X.setCell ⟨W.heap.size + 1 + 1, 0, none⟩ (.bool false) := ⟨_, rfl⟩
          have hZo : ∀ k, k ≠ W.heap.size + 1 + 1 → Z.heap[k]? = X.heap[k]? := fun k hk => by rw [hZ]; exact heap_setCell_other _ _ k _ hk
          have hZc : CellsBox Z (W.heap.size + 1 + 1) 4 [.bool false] := by rw [hZ]; exact hc.store 0 (.bool false)
          have hZD : Z.heap[D]? = some (.deferred (some [])) := (hZo D (by omega)).trans hDf
          have hZs : Z.heap.size = X.heap.size ∧ Z.os = X.os ∧ Z.tape = X.tape ∧ Z.output = X.output := by rw [hZ]; exact ⟨by simp, rfl, rfl, rfl⟩
          have HP : Hid (CanPost f bm (p + 1) m μ μ1 W (Z.putObj D (.deferred none))) := by
            have hW := HCS4.out.trans h5
            have hk : ∀ k, k ≠ D → k ≠ W.heap.size + 1 + 1 → (Z.putObj D (.deferred none)).heap[k]? = X.heap[k]? := fun k h1 h2 => (World.putObj_heap_other h1).trans (hZo k h2)
            have hbd := h1.lt
            refine ⟨h1.keep (hk bm (by omega) (by omega)), hinv, hgr, fun _ _ => ?_, ⟨hZs.2.1.trans hW.os, hZs.2.2.1.trans hW.tape, hZs.2.2.2.trans hW.output, by have := hW.size; simp; omega, fun k c t z hkc => ?_⟩, ⟨hZs.2.1.trans hW.os, hZs.2.2.1.trans hW.tape, hZs.2.2.2.trans hW.output, by have := hW.size; simp; omega, fun k hk1 hk2 => ?_⟩⟩
            · rw [h3.keep m (p + 1) 0 (by simp [setM])]; simp
            · have := (Array.getElem?_eq_some_iff.1 hkc).1
              exact (hk k (by omega) (by omega)).trans (hW.boxes k c t z hkc)
            · exact (hk k (by omega) (by omega)).trans (h6.block k hk1 hk2)
          have Z0 := hZc.cell (j := 0) rfl
          have HZ := Lib.hid hZ
          have HZD := Lib.hid hZD
          have HZ0 := Lib.hid Z0
          have HDne : Hid (D ≠ W.heap.size + 1 + 1) := by unfold Hid; omega
          clear hinv hgr heq hsh hcan h1 h2 h3 h4 h5 h6 hc hZ hZo hZc hZD hZs Z0
          gi_wp2
          refine (?_ : ∀ Z' : World, Z = Z' → bodyPostM _ _ _ _ _ _ _ Z') _ HZ.out
          rintro _ rfl
          refine ⟨by simp, .inl ⟨_, _, rfl, run_takeDeferred HZD.out, ?_⟩⟩
          have o0 : (Z.putObj D (.deferred none)).cell? ⟨W.heap.size + 1 + 1, 0, none⟩ = some (.bool false) := (World.cell?_of_block (World.putObj_heap_other HDne.out.symm)).trans HZ0.out
          refine ⟨.bool false, by simp [results, Tryd.results76, go_sem, o0], ?_, μ1, HP.out⟩
          rw [HCAN.out]
        case stop =>
          rintro D c pre X hD ⟨d, x, r, hd, hpre⟩ ⟨rfl, d', x', μ1, hpre', g1, g2, g3, g4, g5, g6, g7, g8, g9⟩ hDf
          have hdd : d = d' ∧ x = x' := by
            have := hpre.symm.trans hpre'
            have h1 := List.append_inj' this rfl
            exact ⟨h1.1, by simpa using h1.2⟩
          obtain ⟨rfl, rfl⟩ := hdd
          have hfind : (givenF f m).find? (fun y => canF f p (lessF m y)) = some x := by
            rw [hd, List.find?_append, List.find?_eq_none.2 (fun y hy => by rw [g1 y hy]; simp), List.find?_cons, g2]
            rfl
          have hsh : shareF f (p + 1) m = x := by
            unfold shareF
            rw [Nat.add_sub_cancel, hfind]
            rfl
          have hx0 : x ≠ 0 := given_pos f m _ _ _ x (by have : x ∈ givenF f m := by rw [hd]; simp
                                                        exact this)
          have hcan : canF f (p + 1) m = true := by rw [can_share (by omega) HM0.out, hsh]; simpa using hx0
          obtain ⟨hinv, hgr⟩ := HI.out.close HM0.out HK.out g4 g5 x hsh.symm (fun _ h1 h2 => g6 h1 h2)
          have HCAN := Lib.hid hcan
          have HP : Hid (CanPost f bm (p + 1) m μ (setM μ1 m (p + 1) x) W (X.putObj D (.deferred none))) := by
            have hk : ∀ k, k ≠ D → (X.putObj D (.deferred none)).heap[k]? = X.heap[k]? := fun k h1 => World.putObj_heap_other h1
            refine ⟨g3.keep (hk bm (by omega)), hinv, hgr, fun _ _ => by simp [setM], ⟨g8.os, g8.tape, g8.output, by have := g8.size; simpa using this, fun k c t z hkc => ?_⟩, ⟨g8.os, g8.tape, g8.output, by have := g8.size; simpa using this, fun k hk1 hk2 => ?_⟩⟩
            · have := (Array.getElem?_eq_some_iff.1 hkc).1
              exact (hk k (by omega)).trans (g8.boxes k c t z hkc)
            · exact (hk k (by omega)).trans (g9.block k hk1 hk2)
          have o0 : (X.putObj D (.deferred none)).cell? ⟨W.heap.size + 1 + 1, 0, none⟩ = some (.bool true) := (World.cell?_of_block (World.putObj_heap_other (by simp only; omega))).trans (g7.cell (j := 0) rfl)
          have HO0 := Lib.hid o0
          clear hinv hgr hcan hx0 hsh hfind g1 g2 g3 g4 g5 g6 g7 g8 g9 o0
          gi_wp2
          refine ⟨by simp, .inl ⟨_, _, rfl, run_takeDeferred hDf, ?_⟩⟩
          have o0 := HO0.out
          refine ⟨.bool true, by simp [results, Tryd.results76, go_sem, o0], ?_, _, HP.out⟩
          rw [HCAN.out]
end Go.Proofs.YtomgnpfpaodpiaaDoor
/- Contract of fewest. -/
namespace Go.Proofs.YtomgnpfpaodpiaaDoor
open Go Go.RowKit Go.Shelf
set_option maxHeartbeats 2000000
theorem Lim.cs {a b : World} (h : Lim a) (hc : CS a b) : Lim b :=
  ⟨by have := hc.size; have := h.pos; omega, fun k hk => hc.cell (h.lo k hk), fun k hk => hc.cell (h.hi k hk)⟩
theorem Inv.widen {f : Floor} {p P : Nat} {μ μ' : Nat → Nat → Option Nat} (h : Inv f P μ) (h' : Inv f p μ') (hg : Grows p μ μ') (hp : p ≤ P) : Inv f P μ' := by
  refine ⟨fun m q s hq e => ?_, fun m q s hq e h1 h2 h3 => ?_⟩
  · by_cases hc : q ≤ p
    · exact h'.val m q s hc e
    · rw [hg.above m q (by omega)] at e
      exact h.val m q s hq e
  · by_cases hc : q ≤ p
    · exact h'.rest m q s hc e h1 h2 h3
    · rw [hg.above m q (by omega)] at e
      have := h.rest m q s hq e h1 h2 h3
      cases hr : μ (lessF m s) (q - 1) with
      | none => exact absurd hr this
      | some t => rw [hg.keep _ _ _ hr]; simp
/-- all slips of a floor -/
def allF (f : Floor) : Nat := 2 ^ f.slips.length - 1
theorem allF_lt {f : Floor} (h : f.slips.length ≤ 9) : allF f < 512 := by
  have : 2 ^ f.slips.length ≤ 2 ^ 9 := Nat.pow_le_pow_right (by omega) h
  unfold allF
  omega
/-- how many pickers at least have all in time -/
def fewF (f : Floor) : Option Nat := [1, 2, 3, 4, 5].find? fun p => canF f p (allF f)
theorem few_some {f : Floor} {k : Nat} (h1 : 1 ≤ k) (h5 : k ≤ 5) (hb : ∀ j, 1 ≤ j → j < k → canF f j (allF f) = false) (hk : canF f k (allF f) = true) : fewF f = some k := by
  unfold fewF
  obtain rfl | rfl | rfl | rfl | rfl : k = 1 ∨ k = 2 ∨ k = 3 ∨ k = 4 ∨ k = 5 := by omega
  · simp [List.find?_cons, hk]
  · simp [List.find?_cons, hk, hb 1 (by omega) (by omega)]
  · simp [List.find?_cons, hk, hb 1 (by omega) (by omega), hb 2 (by omega) (by omega)]
  · simp [List.find?_cons, hk, hb 1 (by omega) (by omega), hb 2 (by omega) (by omega), hb 3 (by omega) (by omega)]
  · simp [List.find?_cons, hk, hb 1 (by omega) (by omega), hb 2 (by omega) (by omega), hb 3 (by omega) (by omega), hb 4 (by omega) (by omega)]
theorem few_none {f : Floor} (hb : ∀ j, 1 ≤ j → j < 6 → canF f j (allF f) = false) : fewF f = none := by
  unfold fewF
  simp [List.find?_cons, hb 1 (by omega) (by omega), hb 2 (by omega) (by omega), hb 3 (by omega) (by omega), hb 4 (by omega) (by omega), hb 5 (by omega) (by omega)]
/-- what fewest leaves -/
structure FewPost (f : Floor) (bm : Nat) (μ' : Nat → Nat → Option Nat) (W W' : World) : Prop where
  map : CrewMap W' bm μ'
  inv : Inv f 5 μ'
  cs : CS W W'
  spare : Spare W.heap.size bm W W'
/-- what is so between rounds -/
structure FewI (f : Floor) (bm bd k : Nat) (dc : List Value) (μ' : Nat → Nat → Option Nat) (W X : World) : Prop extends FewPost f bm μ' W X where
  box : CellsBox X bd 108 dc
  none : ∀ j, 1 ≤ j → j < k → canF f j (allF f) = false
set_option maxRecDepth 100000 in
theorem fewest_any (f : Floor) (hv : validB f = true) (oA qA : Option Addr) (oC qC bm : Nat) (W : World) (μ : Nat → Nat → Option Nat) (hL : Lim W) (hD : DeskIn W f oA qA oC) (hM : CrewMap W bm μ) (hI : Inv f 5 μ) :
    Calls Tryd.prog 69 #[.agg (deskC f oA oC qA f.slips.length qC bm).toArray] W fun e W' => e = .returned (.tuple #[vi ((fewF f).getD 0 : Nat), .bool (fewF f).isSome]) ∧ ∃ μ', FewPost f bm μ' W W' ∧ ∀ p, fewF f = some p → allF f ≠ 0 → μ' (allF f) p ≠ none := by
  have h9 : f.slips.length ≤ 9 := (fine hv).slips9
  have HA := Lib.hid (allF_lt h9)
  have HV := Lib.hid hv
  have HD := Lib.hid hD
  have HL := Lib.hid hL
  have H9 := Lib.hid h9
  have zM := hM.lt
  have HW : Hid (FewI f bm W.heap.size 1 (deskC f oA oC qA f.slips.length qC bm) μ W (W.alloc (.cells (deskC f oA oC qA f.slips.length qC bm).toArray 108))) := by
    have hb : Below W.heap.size W (W.alloc (.cells (deskC f oA oC qA f.slips.length qC bm).toArray 108)) := by (repeat (first | exact Below.refl _ _ | refine Below.setCell ?_ (by first | omega | (simp; omega) | (simp; done)) _ | refine Below.alloc ?_ (by first | omega | (simp; omega) | (simp; done)) _ | refine Below.drew ?_ | refine below_drewN ?_ _ | refine Below.trans ?_ (Below.mono (by assumption) (by first | omega | (simp; omega) | (simp; done)))))
    exact ⟨⟨hM.below hb, hI, cs_of_below hb, spare_of_below bm hb (Nat.le_refl _)⟩, CellsBox.new _ _ _, fun j h1 h2 => by omega⟩
  have l0 := (hL.row 9 (by omega) (a := 1) (b := 5) (by decide) (by decide)).1
  have l1 := (hL.row 9 (by omega) (a := 1) (b := 5) (by decide) (by decide)).2
  have zL := hL.pos
  clear hv hD hL h9 hM hI
  show Calls Tryd.prog 69 #[.agg #[.slice f.fA f.far.length f.fC, vi f.slo, vi f.shi, .slice f.pA f.picks.length f.pC, vi f.carry, .slice f.sA f.slips.length f.sC, .slice oA f.slips.length oC, .slice qA f.slips.length qC, .map (some bm)]] W _
  go_enter Tryd.func69, Tryd.ntmps69
  go_wp2_with fail
  go_loopw [4] (fun v wr => ∃ (k : Nat) (μ' : Nat → Nat → Option Nat), 1 ≤ k ∧ k ≤ 6 ∧ v = vi k ∧ FewI f bm W.heap.size k (deskC f oA oC qA f.slips.length qC bm) μ' W wr) (fun v _ => 6 - (intOf v).toNat)
  case atStart => exact ⟨1, μ, by omega, by omega, rfl, HW.out⟩
  obtain ⟨k, μ1, h1, h6, rfl, hF⟩ := hrel
  have HF := Lib.hid hF
  have HCS : Hid (CS W wr) := hF.cs
  have l0 := HCS.out.cell l0
  have l1 := HCS.out.cell l1
  have zL : 0 < wr.heap.size := (HL.out.cs HCS.out).pos
  have a0 := hF.box.cell (j := 0) rfl
  have a1 := hF.box.cell (j := 1) rfl
  have a2 := hF.box.cell (j := 2) rfl
  have a3 := hF.box.cell (j := 3) rfl
  have a4 := hF.box.cell (j := 4) rfl
  have a5 := hF.box.cell (j := 5) rfl
  have a6 := hF.box.cell (j := 6) rfl
  have a7 := hF.box.cell (j := 7) rfl
  have a8 := hF.box.cell (j := 8) rfl
  have z1 := hF.box.lt
  clear hF
  by_cases hk : k ≤ 5
  · have hkI : (k : Int) ≤ 5 := by omega
    have hwr : IntKind.wrap .i64 ((k : Int) + 1) = (k : Int) + 1 := wrapI (by omega) (by omega)
    have BX : Hid (CellsBox wr W.heap.size 108 (deskC f oA oC qA f.slips.length qC bm)) := HF.out.box
    have AL := Lib.hid (fun X => all_any f H9.out X)
    have HDR := Lib.hid (HD.out.cs HCS.out)
    have CAN := Lib.hid (fun X hX hY hZ => can_any f HV.out oA qA oC qC bm k (allF f) hk HA.out X μ1 hX hY hZ)
    obtain ⟨cb, hcb⟩ : ∃ cb, cb = canF f k (allF f) := ⟨_, rfl⟩
    have HCB := Lib.hid hcb
    have E0 : (2 ^ f.slips.length - 1 : Nat) = allF f := rfl
    rw [E0] at AL
    rw [← hcb] at CAN
    obtain ⟨m, hm⟩ : ∃ m, m = allF f := ⟨_, rfl⟩
    have HMM := Lib.hid hm
    rw [← hm] at CAN AL
    clear hcb hm E0
    go_wp2_with fail
    refine' wp_region_box (fun w' => CS wr w') (fun a b h h' => h.trans (cs_of_below h')) [0, 1, 2, 3, 4, 5] 1 23 (by kernel_rfl) (by kernel_rfl) rfl (by kernel_rfl) (by kernel_rfl) rfl (by kernel_rfl) ?hl5 (CS.refl _) ?hq5 ?hr5
    case hl5 =>
      simp only [List.map_cons, List.map_nil, List.getD_cons_zero, List.getD_cons_succ]
      exact rfl
    case hq5 =>
      intro w0 K
      have Y := K.box BX.out
      have f0 := Y.cell (j := 0) rfl
      have f1 := Y.cell (j := 1) rfl
      have f2 := Y.cell (j := 2) rfl
      have f3 := Y.cell (j := 3) rfl
      have f4 := Y.cell (j := 4) rfl
      have f5 := Y.cell (j := 5) rfl
      have f6 := Y.cell (j := 6) rfl
      have f7 := Y.cell (j := 7) rfl
      have f8 := Y.cell (j := 8) rfl
      have zf := Y.lt
      (repeat (go_big_quiet_step ((go_at_call 71; refine Calls.grow_of (AL.out _)))))
      exact wpQuiet_nil rfl
    case hr5 =>
      refine wpUp_one (i := 6) (by kernel_rfl) rfl rfl (fun wa a1 a2 Ka hKa => ?_)
      go_simp
      refine (CAN.out wa (HDR.out.cs a2) (HF.out.map.below a1) (HF.out.inv.less hk)).mono ?_
      rintro e w2 ⟨rfl, μ2, hP⟩
      have HP := Lib.hid hP
      clear hP
      refine hKa _ _ (a2.trans HP.out.cs) (wpUp_done (by kernel_rfl) (fun W8 g1 g2 => NoPanic.normal ?_))
      have H8 : Hid (FewPost f bm μ2 W W8) := by
        have hsa := spare_of_below bm a1 (Nat.le_refl _)
        have hz0 := HCS.out.size
        have hz1 := a1.size
        have hz2 := HP.out.cs.size
        refine ⟨HP.out.map.below g1, HF.out.inv.widen HP.out.inv HP.out.grows hk, (HCS.out.trans a2).trans (HP.out.cs.trans (cs_of_below g1)), ?_⟩
        have s1 : Spare W.heap.size bm wr wa := spare_of_below bm a1 hz0
        have s2 : Spare W.heap.size bm wa w2 := ⟨HP.out.cs.os, HP.out.cs.tape, HP.out.cs.output, HP.out.cs.size, fun k hk hl => HP.out.spare.block k (by omega) hl⟩
        have s3 : Spare W.heap.size bm w2 W8 := spare_of_below bm g1 (by omega)
        exact HF.out.spare.trans (s1.trans (s2.trans s3))
      have HB8 : Hid (CellsBox W8 W.heap.size 108 (deskC f oA oC qA f.slips.length qC bm)) := (a2.trans (HP.out.cs.trans (cs_of_below g1))).box BX.out
      rcases cb with _ | _
      · go_wp2_with fail
        go_roundw
        case rel =>
          refine ⟨k + 1, μ2, by omega, by omega, by go_num, H8.out, HB8.out, fun j h1 h2 => ?_⟩
          by_cases e : j = k
          · subst e; exact HCB.out.symm
          · exact HF.out.none j h1 (by omega)
        case measure => simp [intOf]; omega
      · have hsome := few_some h1 hk HF.out.none HCB.out.symm
        go_wp2_with fail
        go_ret2
        rw [hsome]
        refine ⟨rfl, μ2, H8.out, fun p hp hne => ?_⟩
        cases hp
        have := HP.out.known (by rw [HMM.out]; exact hne) (by omega)
        rwa [HMM.out] at this
  · obtain rfl : k = 6 := by omega
    have HN := few_none HF.out.none
    go_wp2_with fail
    go_ret2
    rw [HN]
    exact ⟨rfl, μ1, HF.out.toFewPost, fun p h => by cases h⟩
end Go.Proofs.YtomgnpfpaodpiaaDoor
/- Contract of desk.sorted. -/
namespace Go.Proofs.YtomgnpfpaodpiaaDoor
open Go Go.RowKit
set_option maxHeartbeats 2000000
def sortedK (m : Nat) (l : List Nat) (k : Nat) : List Nat := (l.take k).filter (fun s => m.testBit s)
def sortedF (m : Nat) (l : List Nat) : List Nat := l.filter (fun s => m.testBit s)
theorem sortedK_succ {m : Nat} {l : List Nat} {k s : Nat} (h : l[k]? = some s) : sortedK m l (k + 1) = sortedK m l k ++ (if m.testBit s then [s] else []) := by
  obtain ⟨hk, rfl⟩ := List.getElem?_eq_some_iff.1 h
  unfold sortedK
  rw [List.take_succ_eq_append_getElem hk, List.filter_append]
  by_cases h : m.testBit l[k] <;> simp [h]
theorem sortedK_le (m : Nat) (l : List Nat) (k : Nat) : (sortedK m l k).length ≤ k := by
  have := List.length_filter_le (fun s => m.testBit s) (l.take k)
  rw [List.length_take] at this
  unfold sortedK
  omega
theorem sorted_any (f0 f1 f2 f3 f4 f5 : Value) (oA : Option Addr) (oC : Nat) (ol : List Nat) (qs mv : Value) (ho : ∀ s ∈ ol, s < 9) (hol : ol.length ≤ 9) (m : Nat) (hm : m < 512) (w : World) (h : IntsAt w w.heap.size oA oC (natsC ol)) (c0 : f0.oneCell' = true) (c1 : f1.oneCell' = true) (c2 : f2.oneCell' = true) (c3 : f3.oneCell' = true) (c4 : f4.oneCell' = true) (c5 : f5.oneCell' = true) (cq : qs.oneCell' = true) (cm : mv.oneCell' = true) :
    Calls Tryd.prog 104 #[.agg #[f0, f1, f2, f3, f4, f5, .slice oA ol.length oC, qs, mv], vi m] w fun e w' => ∃ A, e = .returned (.slice A (sortedF m ol).length (sortedF m ol).length) ∧ IntsAt w' w'.heap.size A (sortedF m ol).length (natsC (sortedF m ol)) ∧ (∀ b, A = some b → w.heap.size ≤ b.block) ∧ Below w.heap.size w w' := by
  have hll := h.lens
  simp only [List.length_map] at hll
  have HH := Lib.hid h
  obtain ⟨i0, hi, hy0, hy1, hy2⟩ := info_parts info_int
  have HX : Hid (∀ (k s : Nat), ol[k]? = some s → s < 9 ∧ ∃ b : Bool, m.testBit s = b ∧ sortedK m ol (k + 1) = sortedK m ol k ++ (if b then [s] else [])) := fun k s hs => ⟨ho s (List.mem_of_getElem? hs), _, rfl, sortedK_succ hs⟩
  have HL : Hid (∀ k, (sortedK m ol k).length ≤ k) := sortedK_le m ol
  have HA : Hid (sortedK m ol ol.length = sortedF m ol) := by unfold Hid sortedK sortedF; rw [List.take_length]
  have E0 : Hid (sortedK m ol 0 = []) := rfl
  obtain ⟨R, hR⟩ : ∃ R, R = sortedF m ol := ⟨_, rfl⟩
  obtain ⟨S, hS⟩ : ∃ S, S = sortedK m ol := ⟨_, rfl⟩
  rw [← hS] at HX HL HA E0
  rw [← hR] at HA ⊢
  clear hR hS h ho
  go_enter Tryd.func104, Tryd.ntmps104
  go_wp2_with fail
  go_loopw [5, 7, 11] (fun v x i wr => ∃ k : Nat, k ≤ ol.length ∧ i = .int .i64 k ∧ Below w.heap.size w wr ∧ wr.ownsRow w.heap.size 3 1 v (S k).length ((natsC (S k)).map vi)) (fun _ _ i _ => ol.length - (intOf i).toNat)
  case atStart => exact ⟨0, Nat.zero_le _, rfl, by (repeat (first | exact Below.refl _ _ | refine Below.setCell ?_ (by first | omega | (simp; omega) | (simp; done)) _ | refine Below.alloc ?_ (by first | omega | (simp; omega) | (simp; done)) _ | refine Below.drew ?_ | refine below_drewN ?_ _ | refine Below.trans ?_ (Below.mono (by assumption) (by first | omega | (simp; omega) | (simp; done))))), by rw [E0.out]; exact World.ownsRow_nil _ _ _ _⟩
  obtain ⟨k, hk, rfl, hB, hown⟩ := hrel
  have hlen := HL.out k
  have hz := hB.size
  by_cases hlt : k < ol.length
  · obtain ⟨s, hs⟩ : ∃ s, ol[k]? = some s := ⟨_, List.getElem?_eq_getElem hlt⟩
    obtain ⟨s9, b, hb, S1⟩ := HX.out k s hs
    obtain ⟨bb, off, rfl, hbb, x0⟩ := ints_at (HH.out.to hB) (k := k) (x := (s : Int)) (by rw [List.getElem?_map, hs]; rfl)
    have hkI : (k : Int) < ol.length := by omega
    have h0k : (0 : Int) ≤ k := by omega
    have HI := Lib.hid (setHas_is hb hm s9)
    have S1 := Lib.hid S1
    have zbb : bb < wr.heap.size := cell_lt x0
    obtain ⟨L, hL⟩ : ∃ L, L = S k := ⟨_, rfl⟩
    rw [← hL] at hown hlen S1
    clear hL hb hs
    obtain ⟨A', c', rfl, h1, h2⟩ := own_form hown
    go_wp2_with fail
    refine (HI.out _).mono ?_
    rintro e W2 ⟨rfl, hb2⟩
    have HB2 : Below w.heap.size w W2 := hB.trans (hb2.mono hz)
    have hown2 := own_keep hown hb2
    have hz2 := HB2.size
    clear hb2 hown x0
    rcases b with _ | _
    · go_wp2_with fail
      go_roundw
      case rel =>
        refine ⟨k + 1, by omega, by go_num, HB2, ?_⟩
        rw [S1.out]
        simpa using hown2
      case measure => simp [intOf]; omega
    · go_wp2_with (at_builtin; go_loud (refine wpList_append_own _ rfl _ _ 22 rfl w.heap.size 3 i0 (.int .i64 0) 1 8 Tryd.underlying22 hi hy0 hy1 hy2 rfl (by decide) _ _ _ rfl (hown2.alloc _) ⟨W2.heap.size, 0, none⟩ 1 1 [vi s] rfl rfl (cell_one_new _ _ _) (by simp [Value.oneCell']) (by unfold maxLen; omega) (by omega) (by simp; omega) ?_; intro v5 w5 hown5 hgrow5 _))
      have HB5 : Below w.heap.size w w5 := Below.grown (HB2.alloc (by omega) _) hgrow5 (by simp; omega) (fun j e => (hown2.lt j e).1)
      obtain ⟨A5, c5, rfl, -, -⟩ := own_form hown5
      go_roundw
      case rel =>
        refine ⟨k + 1, by omega, by go_num, HB5, ?_⟩
        rw [S1.out]
        simpa using hown5
      case measure => simp [intOf]; omega
  · obtain rfl : k = ol.length := by omega
    rw [HA.out] at hown hlen
    rw [← intC_flat] at hown
    obtain ⟨A', c', rfl, h1, h2, h3⟩ := own_rows (m := (natsC R).map intC) (intC_one _) hown (by simp) (by omega)
    go_wp2_with fail
    go_ret
    exact ⟨A', rfl, h3, fun b hb => (hown.lt b.block (by rw [hb]; rfl)).1, hB⟩
end Go.Proofs.YtomgnpfpaodpiaaDoor
/- Contract of roster. -/
namespace Go.Proofs.YtomgnpfpaodpiaaDoor
open Go Go.RowKit Go.Shelf
set_option maxHeartbeats 3000000
theorem info_ints : (Tryd.prog.info? 22).map (fun i => (i.zero, i.size, i.bytes)) = some (some (.slice none 0 0), 1, 24) := by kernel_rfl
/-- what one of so many is given -/
def oneF (f : Floor) (p m : Nat) : Nat := if m = 0 then 0 else shareF f p m
/-- the lists of a crew -/
def rosterF (f : Floor) : Nat → Nat → List (List Nat)
  | 0, _ => []
  | p + 1, m => sortedF (oneF f (p + 1) m) (ordN f) :: rosterF f p (lessF m (oneF f (p + 1) m))
/-- an int row that does not lie in a block -/
def FreeI (t : SRow) (g : Nat) : Prop := 0 < t.slips.length → ∀ b, t.ad = some b → b.block ≠ g
theorem ints_apart {w w' : World} {B cap g : Nat} {A : Option Addr} {l : List Int} (h : IntsAt w B A cap l) (ha : 0 < l.length → ∀ b, A = some b → b.block ≠ g) (hk : ∀ p : Addr, p.block < B → p.block ≠ g → w'.cell? p = w.cell? p) : IntsAt w' B A cap l := by
  refine ⟨h.len, h.cap, h.few, fun hl => ?_⟩
  obtain ⟨b, off, hA, hb, hc⟩ := h.row hl
  have hne := ha (by simpa using hl) _ hA
  exact ⟨b, off, hA, hb, fun i r hr j u hj hu => (hk ⟨b, off + i * 1 + j, none⟩ hb hne).trans (hc i r hr j u hj hu)⟩
theorem ints_more {w : World} {B B' cap : Nat} {A : Option Addr} {l : List Int} (h : IntsAt w B A cap l) (hB : B ≤ B') : IntsAt w B' A cap l := by
  refine ⟨h.len, h.cap, h.few, fun hl => ?_⟩
  obtain ⟨b, off, hA, hb, hc⟩ := h.row hl
  exact ⟨b, off, hA, Nat.lt_of_lt_of_le hb hB, hc⟩
/-- a crew that can have its slips in time, and that the map knows -/
structure Crew (f : Floor) (μ : Nat → Nat → Option Nat) (p m : Nat) : Prop where
  many : p ≤ 5
  lt : m < 512
  can : canF f p m = true
  known : m ≠ 0 → p ≠ 0 → μ m p ≠ none
theorem Crew.share {f : Floor} (h9 : f.slips.length ≤ 9) {μ : Nat → Nat → Option Nat} {p m : Nat} (h : Crew f μ (p + 1) m) (hI : Inv f 5 μ) : (μ m (p + 1)).getD 0 = oneF f (p + 1) m ∧ oneF f (p + 1) m < 512 := by
  have hs : oneF f (p + 1) m < 512 := by
    unfold oneF
    split
    · omega
    · unfold shareF
      cases hf : (givenF f m).find? fun x => canF f (p + 1 - 1) (lessF m x) with
      | none => simp
      | some x => exact given_lt f m (ordN f) 0 0 (by omega) (fun s hs => Nat.lt_of_lt_of_le (ordN_mem h9 s hs) h9) x (List.mem_of_find?_eq_some hf)
  refine ⟨?_, hs⟩
  by_cases h0 : m = 0
  · subst h0
    cases hk : μ 0 (p + 1) with
    | none => simp [oneF]
    | some s => exact absurd rfl (hI.val 0 (p + 1) s h.many hk).1
  · cases hk : μ m (p + 1) with
    | none => exact absurd hk (h.known h0 (by omega))
    | some s =>
      have := (hI.val m (p + 1) s h.many hk).2.2
      simp [oneF, h0, this]
theorem Crew.next {f : Floor} {μ : Nat → Nat → Option Nat} {p m : Nat} (h : Crew f μ (p + 1) m) (hI : Inv f 5 μ) : Crew f μ p (lessF m (oneF f (p + 1) m)) := by
  have hm := h.many
  refine ⟨by omega, less_lt h.lt _, ?_, ?_⟩
  · by_cases h0 : m = 0
    · subst h0
      have : lessF 0 (oneF f (p + 1) 0) = 0 := by simp [lessF]
      rw [this, can_zero]
    · have hc := h.can
      rw [can_share (by omega) h0, decide_eq_true_eq] at hc
      simp only [oneF, h0, if_false]
      unfold shareF at hc ⊢
      cases hf : (givenF f m).find? fun x => canF f (p + 1 - 1) (lessF m x) with
      | none => rw [hf] at hc; exact absurd rfl hc
      | some x =>
        have := List.find?_some (p := fun x => canF f (p + 1 - 1) (lessF m x)) hf
        exact this
  · intro h1 h2
    have h0 : m ≠ 0 := by
      rintro rfl
      exact h1 (by simp [lessF])
    have hc := h.can
    rw [can_share (by omega) h0, decide_eq_true_eq] at hc
    cases hk : μ m (p + 1) with
    | none => exact absurd hk (h.known h0 (by omega))
    | some s =>
      have hv := (hI.val m (p + 1) s h.many hk).2.2
      have := hI.rest m (p + 1) s h.many hk (by rw [hv]; exact hc) (by rw [hv]; simpa [oneF, h0] using h1) (by omega)
      rw [hv] at this
      simpa [oneF, h0] using this
end Go.Proofs.YtomgnpfpaodpiaaDoor
/- Contract of roster: the walk. -/
namespace Go.Proofs.YtomgnpfpaodpiaaDoor
open Go Go.RowKit Go.Shelf
set_option maxHeartbeats 4000000
structure RosI (f : Floor) (oA qA : Option Addr) (oC qC bm bd bc p m g cp i p' m' : Nat) (v : Value) (μ : Nat → Nat → Option Nat) (ts : List SRow) (W X : World) : Prop where
  below : Below W.heap.size W X
  box : CellsBox X bd 108 (deskC f oA oC qA f.slips.length qC bm)
  crew : CellsBox X bc 116 [vi m', vi p']
  own : X.ownsRow (W.heap.size + 2) 22 1 v i (ts.map SRow.cells).flatten
  form : v = .slice (some ⟨g, 0, none⟩) i cp
  many : ts.length = i
  each : ∀ t ∈ ts, IntsAt X X.heap.size t.ad t.cap t.slips ∧ FreeI t g ∧ FreeI t (W.heap.size + 1)
  lists : ts.map SRow.slips ++ (rosterF f p' m').map natsC = (rosterF f p m).map natsC
  ok : Crew f μ p' m'
set_option maxRecDepth 100000 in
theorem roster_any (f : Floor) (hv : validB f = true) (oA qA : Option Addr) (oC qC bm p m : Nat) (W : World) (μ : Nat → Nat → Option Nat) (hD : DeskIn W f oA qA oC) (hM : CrewMap W bm μ) (hI : Inv f 5 μ) (hC : Crew f μ p m) :
    Calls Tryd.prog 70 #[.agg (deskC f oA oC qA f.slips.length qC bm).toArray, crewV m p] W fun e W' => ∃ A ts, e = .returned (.slice A ts.length ts.length) ∧ RosterAt W' W'.heap.size A ts.length ts ∧ ts.map SRow.slips = (rosterF f p m).map natsC ∧ Below W.heap.size W W' := by
  have h9 : f.slips.length ≤ 9 := (fine hv).slips9
  obtain ⟨i0, hi, hy0, hy1, hy2⟩ := info_parts info_ints
  have hp5 := hC.many
  have HV := Lib.hid hv
  have HD := Lib.hid hD
  have H9 := Lib.hid h9
  have HM := Lib.hid hM
  have HI := Lib.hid hI
  have HC := Lib.hid hC
  have zM := hM.lt
  clear hv hD hM hI hC h9
  show Calls Tryd.prog 70 #[.agg #[.slice f.fA f.far.length f.fC, vi f.slo, vi f.shi, .slice f.pA f.picks.length f.pC, vi f.carry, .slice f.sA f.slips.length f.sC, .slice oA f.slips.length oC, .slice qA f.slips.length qC, .map (some bm)], .agg #[vi m, vi p]] W _
  have hp0 : (0 : Int) ≤ p := by omega
  go_enter Tryd.func70, Tryd.ntmps70
  go_wp2_with (at_make; go_loud (refine wpList_make_own _ rfl _ _ _ rfl (W.heap.size + 2) 22 i0 _ 1 Tryd.underlying43 hi hy0 hy1 .i64 .i64 (p : Int) p rfl rfl rfl (by rw [hy2]; omega) (by unfold maxLen; omega) (by simp) ?_; intro wb hown hgrow))
  have hsb := hgrow.size
  have HB0 : Below W.heap.size W wb := Below.grown (by (repeat (first | exact Below.refl _ _ | refine Below.setCell ?_ (by first | omega | (simp; omega) | (simp; done)) _ | refine Below.alloc ?_ (by first | omega | (simp; omega) | (simp; done)) _ | refine Below.drew ?_ | refine below_drewN ?_ _ | refine Below.trans ?_ (Below.mono (by assumption) (by first | omega | (simp; omega) | (simp; done)))))) hgrow (by simp; omega) (fun j e => by cases e)
  simp only [World.size_alloc] at hown hsb
  have X1 : Hid (CellsBox wb W.heap.size 108 (deskC f oA oC qA f.slips.length qC bm)) := by
    have := (CellsBox.new W 108 (deskC f oA oC qA f.slips.length qC bm)).alloc (.cells #[vi m, vi p] 116)
    exact (hgrow.block W.heap.size (by simp; omega) (by simp)).trans this
  have X2 : Hid (CellsBox wb (W.heap.size + 1) 116 [vi m, vi p]) := by
    have := CellsBox.new (W.alloc (.cells (deskC f oA oC qA f.slips.length qC bm).toArray 108)) 116 [vi m, vi p]
    rw [World.size_alloc] at this
    exact (hgrow.block (W.heap.size + 1) (by simp) (by simp)).trans this
  clear hgrow
  go_loopw [5] (fun v wr => ∃ (g cp i p' m' : Nat) (ts : List SRow), RosI f oA qA oC qC bm W.heap.size (W.heap.size + 1) p m g cp i p' m' v μ ts W wr ∧ i + p' = p) (fun v wr => (match v with | .slice _ i _ => p - i | _ => 0))
  case atStart => exact ⟨_, _, 0, p, m, [], ⟨HB0, X1.out, X2.out, hown, rfl, rfl, by simp, by simp, HC.out⟩, by omega⟩
  obtain ⟨g, cp, i, p', m', ts, hR, hip⟩ := hrel
  have HR := Lib.hid hR
  obtain ⟨hB, hbx, hcw, hown, rfl, hmany, heach, hlists, hok⟩ := hR
  have c0 := hcw.cell (j := 0) rfl
  have c1 := hcw.cell (j := 1) rfl
  have z2 := hcw.lt
  have z1 := hbx.lt
  have a0 := hbx.cell (j := 0) rfl
  have a1 := hbx.cell (j := 1) rfl
  have a2 := hbx.cell (j := 2) rfl
  have a3 := hbx.cell (j := 3) rfl
  have a4 := hbx.cell (j := 4) rfl
  have a5 := hbx.cell (j := 5) rfl
  have a6 := hbx.cell (j := 6) rfl
  have a7 := hbx.cell (j := 7) rfl
  have a8 := hbx.cell (j := 8) rfl
  have hcp : i ≤ cp := by
    rcases hown.2 with ⟨e, _⟩ | ⟨g', c', cur, e, _, _, h1, h2, _⟩
    · cases e
    · obtain ⟨_, rfl⟩ : _ ∧ cp = c' := by simpa using e
      exact h1
  have hcpI : (i : Int) ≤ cp := by omega
  clear hbx hcw hown heach hlists
  have hlk := look_crew (HM.out.below hB) m' p' false
  cases p' with
  | zero =>
    have hm0 : m' = 0 := by have := hok.can; unfold canF at this; simpa using this
    subst hm0
    clear hok
    go_wp2_with fail
    go_ret
    have hB := HR.out.below
    have hl := HR.out.lists
    rw [rosterF, List.map_nil, List.append_nil] at hl
    subst hmany
    refine ⟨some ⟨g, 0, none⟩, ts, rfl, ⟨?_, fun t ht => (HR.out.each t ht).1⟩, hl, hB⟩
    obtain ⟨A', c', e, h1, h2, h3, h4, h5, h6⟩ := own_rows (m := ts.map SRow.cells) (sz := 1) (by intro r hr; obtain ⟨t, _, rfl⟩ := List.mem_map.1 hr; rfl) HR.out.own (by simp) (by omega)
    obtain ⟨rfl, rfl⟩ : some ⟨g, 0, none⟩ = A' ∧ cp = c' := by simpa using e
    exact ⟨by simp, by rw [List.length_map] at h5; omega, h5, h6⟩
  | succ p' =>
    obtain ⟨hsh, hs9⟩ := hok.share H9.out HI.out
    have hnext := hok.next HI.out
    obtain ⟨s, hs⟩ : ∃ s, s = oneF f (p' + 1) m' := ⟨_, rfl⟩
    rw [← hs] at hsh hs9 hnext
    rw [hsh] at hlk
    obtain ⟨pI, hpI⟩ : ∃ pI : Int, pI = ((p' + 1 : Nat) : Int) := ⟨_, rfl⟩
    have hpe : (pI == 0) = false := by simp; omega
    have hp1 : pI - 1 = p' := by omega
    have hpw : IntKind.wrap .i64 (pI - 1) = p' := by rw [hp1]; exact wrapI (by omega) (by omega)
    have hm9 := hok.lt
    have hbits := less_fact m' s hm9 hs9
    have HPI := Lib.hid hpI
    rw [show crewV m' (p' + 1) = .agg #[vi m', vi pI] from by rw [hpI]] at hlk
    rw [← hpI] at c1
    simp only [Bool.false_eq_true, if_false] at hlk
    have SRT := Lib.hid (fun (X : World) hX => sorted_any (.slice f.fA f.far.length f.fC) (vi f.slo) (vi f.shi) (.slice f.pA f.picks.length f.pC) (vi f.carry) (.slice f.sA f.slips.length f.sC) oA oC (ordN f) (.slice qA f.slips.length qC) (.map (some bm)) (fun x hx => Nat.lt_of_lt_of_le (ordN_mem H9.out x hx) H9.out) (by rw [ordN_len H9.out]; exact H9.out) s hs9 X hX rfl rfl rfl rfl rfl rfl rfl rfl)
    rw [ordN_len H9.out] at SRT
    have HNX := Lib.hid hnext
    have HS := Lib.hid hs
    have HORD := Lib.hid (by rw [natsC_ord H9.out]; exact HD.out.ord : IntsAt W W.heap.size oA oC (natsC (ordN f)))
    obtain ⟨R, hRe⟩ : ∃ R, R = sortedF s (ordN f) := ⟨_, rfl⟩
    have HRE := Lib.hid hRe
    rw [← hRe] at SRT
    clear hpI hs hsh hnext hok hRe
    have hownr := HR.out.own
    go_wp2_with fail
    have n0 : ¬ (W.heap.size = wr.heap.size) := by omega
    have n1 : ¬ (W.heap.size + 1 = wr.heap.size) := by omega
    refine (SRT.out _ (HORD.out.to hB)).mono ?_
    rintro e wq ⟨A, rfl, hAt, hAb, hbq⟩
    have hownq := own_keep hownr hbq
    have hzq := hbq.size
    have hgl := hownr.lt g rfl
    have hAT := Lib.hid hAt
    have hAB := Lib.hid hAb
    have HR0 := HR.out.box
    have HR1 := HR.out.crew
    clear a0 a1 a2 a3 a4 a5 a6 a7 a8 c0 c1 hlk hAt hAb hown hownr SRT HORD
    go_wp2_with (at_builtin; go_loud (refine wpList_append_lies _ rfl _ _ 43 rfl (W.heap.size + 2) 22 i0 _ 1 24 Tryd.underlying43 hi hy0 hy1 hy2 rfl (by decide) (.slice (some ⟨g, 0, none⟩) i cp) i _ rfl (hownq.alloc _) ⟨wq.heap.size, 0, none⟩ 1 1 [.slice A R.length R.length] rfl rfl (cell_one_new _ _ _) (by simp [Value.oneCell']) (by omega) (by unfold maxLen; omega) (by omega) (by simp; omega) (wq.heap.size + 1) (by simp) ?_; intro gg cap5 w5 hown5 hgrow hat hlt5; have hcr5 : CellsBox w5 (W.heap.size + 1) 116 [vi m', vi pI] := (by rw [HPI.out]; exact (hgrow.block (W.heap.size + 1) (by simp; omega) (by simp [Value.ownBlock]; omega)).trans ((HR1.keep hbq).alloc _)); have c0 := hcr5.cell (j := 0) rfl; have c1 := hcr5.cell (j := 1) rfl; have q0 := hcr5.frozen 0; have q1 := hcr5.frozen 1; have z3 := hcr5.lt; have HCR5 := Lib.hid hcr5; clear hcr5))
    have hsz5 := hgrow.size
    simp only [World.size_alloc] at hsz5
    have hgg : g = gg ∨ gg = wq.heap.size + 1 := by simpa [Value.ownBlock] using hat
    have far : ∀ q : Addr, q.block < wq.heap.size → q.block ≠ g → w5.cell? q = wq.cell? q := fun q hp hne =>
      (hgrow.cell_far q (by simp; omega) (by simp [Value.ownBlock]; omega)).trans (((Below.refl _ wq).alloc (Nat.le_refl _) _).cell hp)
    have B5 : Below W.heap.size W w5 := Below.grown ((hB.trans (hbq.mono (by omega))).alloc (by omega) _) hgrow (by simp; omega) (fun j e => by simp [Value.ownBlock] at e; omega)
    have D5 : CellsBox w5 W.heap.size 108 (deskC f oA oC qA f.slips.length qC bm) := (hgrow.block W.heap.size (by simp; omega) (by simp [Value.ownBlock]; omega)).trans ((HR0.keep hbq).alloc _)
    have OW : w5.ownsRow (W.heap.size + 2) 22 1 (.slice (some ⟨gg, 0, none⟩) (i + 1) cap5) (i + 1) ((ts ++ [(⟨A, R.length, natsC R⟩ : SRow)]).map SRow.cells).flatten := by
      simpa [SRow.cells, SRow.slice] using hown5
    have E5 : ∀ t ∈ ts ++ [(⟨A, R.length, natsC R⟩ : SRow)], IntsAt w5 w5.heap.size t.ad t.cap t.slips ∧ FreeI t gg ∧ FreeI t (W.heap.size + 1) := by
      intro t ht
      rcases List.mem_append.1 ht with h1 | h1
      · obtain ⟨e1, e2, e3⟩ := HR.out.each t h1
        refine ⟨ints_more (ints_apart (e1.to hbq) e2 far) (by omega), ?_, e3⟩
        rcases hgg with rfl | rfl
        · exact e2
        · intro hl b hb
          obtain ⟨b', o', hA, hlt, _⟩ := e1.row (by simpa using hl)
          rw [hA] at hb
          cases hb
          simp only
          omega
      · obtain rfl : t = (⟨A, R.length, natsC R⟩ : SRow) := by simpa using h1
        have hf : FreeI (⟨A, R.length, natsC R⟩ : SRow) g := fun hl b hb => by have := hAB.out b hb; omega
        refine ⟨ints_more (ints_apart hAT.out hf far) (by omega), ?_, fun hl b hb => by have := hAB.out b hb; omega⟩
        rcases hgg with rfl | rfl
        · exact hf
        · intro hl b hb
          obtain ⟨b', o', hA, hlt, _⟩ := hAT.out.row (by simpa using hl)
          rw [show A = some b from hb] at hA
          cases hA
          simp only
          omega
    have L5 : (ts ++ [(⟨A, R.length, natsC R⟩ : SRow)]).map SRow.slips ++ (rosterF f p' (lessF m' s)).map natsC = (rosterF f p m).map natsC := by
      rw [← HR.out.lists, rosterF, ← HS.out, ← HRE.out]
      simp
    refine ⟨⟨gg, cap5, i + 1, p', lessF m' s, ts ++ [(⟨A, R.length, natsC R⟩ : SRow)], ⟨?_, ?_, ?_, ?_, rfl, by simp [hmany], ?_, L5, HNX.out⟩, by omega⟩, by simp only; omega⟩
    · exact (B5.setCell (by simp) _).setCell (by simp) _
    · exact (D5.apart _ _ (by simp)).apart _ _ (by simp)
    · exact (HCR5.out.store 0 _).store 1 _
    · have hlo := (OW.lt gg rfl).1
      have hne : (Value.slice (some ⟨gg, 0, none⟩) (i + 1) cap5).ownBlock ≠ some (W.heap.size + 1) := by
        intro e
        have : gg = W.heap.size + 1 := by simpa [Value.ownBlock] using e
        omega
      exact (OW.kept (grownBy_set w5 (W.heap.size + 1) 0 (vi (lessF m' s))) (.inr hne)).kept (grownBy_set _ (W.heap.size + 1) 1 (vi p')) (.inr hne)
    · intro t ht
      obtain ⟨e1, e2, e3⟩ := E5 t ht
      refine ⟨?_, e2, e3⟩
      have := ints_apart (w' := (w5.setCell ⟨W.heap.size + 1, 0, none⟩ (vi (lessF m' s))).setCell ⟨W.heap.size + 1, 1, none⟩ (vi p')) e1 e3 (fun q _ hne => by
        rw [World.cell?_of_block (heap_setCell_other _ _ q.block _ hne), World.cell?_of_block (heap_setCell_other _ _ q.block _ hne)])
      simpa using this
end Go.Proofs.YtomgnpfpaodpiaaDoor
/- Contract of Roster. -/
namespace Go.Proofs.YtomgnpfpaodpiaaDoor
open Go Go.RowKit Go.Shelf
set_option maxHeartbeats 3000000
theorem below_spare {w X Y : World} {bm : Nat} (h : Below w.heap.size w X) (hs : Spare X.heap.size bm X Y) (hb : w.heap.size ≤ bm) : Below w.heap.size w Y :=
  ⟨hs.os.trans h.os, hs.tape.trans h.tape, hs.output.trans h.output, Nat.le_trans h.size hs.size, fun k hk => (hs.block k (by have := h.size; omega) (by omega)).trans (h.block k hk)⟩
theorem DeskAt.into {w : World} {f : Floor} {oA qA : Option Addr} {qC bm : Nat} (h : DeskAt w f oA qA qC bm) (hf : FloorAt w w.heap.size f) : DeskIn w f oA qA f.slips.length := ⟨hf, h.ord, h.secs⟩
theorem Inv.empty (f : Floor) (P : Nat) : Inv f P fun _ _ => none := ⟨(fun _ _ _ _ e => by cases e), (fun _ _ _ _ e => by cases e)⟩
def RosterV (f : Floor) : List (List Nat) × Int := if checkV f = 0 then (match fewF f with | none => ([], 4) | some p => (rosterF f p (allF f), 0)) else ([], checkV f)
theorem few_can {f : Floor} {p : Nat} (h : fewF f = some p) : 1 ≤ p ∧ p ≤ 5 ∧ canF f p (allF f) = true := by
  unfold fewF at h
  have h1 := List.mem_of_find?_eq_some h
  have h2 := List.find?_some (p := fun p => canF f p (allF f)) h
  refine ⟨?_, ?_, h2⟩
  · simp at h1; omega
  · simp at h1; omega
set_option maxRecDepth 100000 in
theorem Roster_any (f : Floor) (w : World) (hl : Lim w) (h : FloorAt w w.heap.size f) :
    Calls Tryd.prog 28 #[f.val] w fun e w' => ∃ A ts, e = .returned (.tuple #[.slice A ts.length ts.length, vi (RosterV f).2]) ∧ RosterAt w' w'.heap.size A ts.length ts ∧ ts.map SRow.slips = (RosterV f).1.map natsC ∧ Below w.heap.size w w' := by
  have HL := Lib.hid hl
  have HF := Lib.hid h
  rcases check_two f with ⟨hc, hv⟩ | ⟨hc, hv⟩
  · have CH := Lib.hid (fun (W : World) hL hW => check_is hc W hL hW)
    have E : RosterV f = ([], 30) := by unfold RosterV; rw [if_neg (by omega), hc]
    rw [E]
    clear h hl hc E hv
    go_enter Tryd.func28, Tryd.ntmps28
    go_wp2_with fail
    refine (CH.out _ (HL.out.next (by (repeat (first | exact Below.refl _ _ | refine Below.setCell ?_ (by first | omega | (simp; omega) | (simp; done)) _ | refine Below.alloc ?_ (by first | omega | (simp; omega) | (simp; done)) _ | refine Below.drew ?_ | refine below_drewN ?_ _ | refine Below.trans ?_ (Below.mono (by assumption) (by first | omega | (simp; omega) | (simp; done))))))) (HF.out.to (by (repeat (first | exact Below.refl _ _ | refine Below.setCell ?_ (by first | omega | (simp; omega) | (simp; done)) _ | refine Below.alloc ?_ (by first | omega | (simp; omega) | (simp; done)) _ | refine Below.drew ?_ | refine below_drewN ?_ _ | refine Below.trans ?_ (Below.mono (by assumption) (by first | omega | (simp; omega) | (simp; done)))))))).mono ?_
    rintro e W ⟨rfl, hb⟩
    have HB0 : Below w.heap.size w W := by (repeat (first | exact Below.refl _ _ | refine Below.setCell ?_ (by first | omega | (simp; omega) | (simp; done)) _ | refine Below.alloc ?_ (by first | omega | (simp; omega) | (simp; done)) _ | refine Below.drew ?_ | refine below_drewN ?_ _ | refine Below.trans ?_ (Below.mono (by assumption) (by first | omega | (simp; omega) | (simp; done)))))
    clear hb
    go_wp2_with fail
    go_ret2
    exact ⟨none, [], rfl, ⟨rows_nil _ _, by simp⟩, rfl, HB0⟩
  · have hf := fine hv
    have CH := Lib.hid (fun (W : World) hL hW => check_is hc W hL hW)
    have E : Hid (RosterV f = match fewF f with | none => ([], 4) | some p => (rosterF f p (allF f), 0)) := by unfold Hid RosterV; rw [if_pos hc]
    have HV := Lib.hid hv
    have H9 := Lib.hid hf.slips9
    obtain ⟨RV, hRV⟩ : ∃ RV, RV = RosterV f := ⟨_, rfl⟩
    rw [← hRV] at E ⊢
    clear h hl hc hf hRV
    go_enter Tryd.func28, Tryd.ntmps28
    go_wp2_with fail
    refine (CH.out _ (HL.out.next (by (repeat (first | exact Below.refl _ _ | refine Below.setCell ?_ (by first | omega | (simp; omega) | (simp; done)) _ | refine Below.alloc ?_ (by first | omega | (simp; omega) | (simp; done)) _ | refine Below.drew ?_ | refine below_drewN ?_ _ | refine Below.trans ?_ (Below.mono (by assumption) (by first | omega | (simp; omega) | (simp; done))))))) (HF.out.to (by (repeat (first | exact Below.refl _ _ | refine Below.setCell ?_ (by first | omega | (simp; omega) | (simp; done)) _ | refine Below.alloc ?_ (by first | omega | (simp; omega) | (simp; done)) _ | refine Below.drew ?_ | refine below_drewN ?_ _ | refine Below.trans ?_ (Below.mono (by assumption) (by first | omega | (simp; omega) | (simp; done)))))))).mono ?_
    rintro e W ⟨rfl, hb⟩
    have HB0 : Below w.heap.size w W := by (repeat (first | exact Below.refl _ _ | refine Below.setCell ?_ (by first | omega | (simp; omega) | (simp; done)) _ | refine Below.alloc ?_ (by first | omega | (simp; omega) | (simp; done)) _ | refine Below.drew ?_ | refine below_drewN ?_ _ | refine Below.trans ?_ (Below.mono (by assumption) (by first | omega | (simp; omega) | (simp; done)))))
    have a0 : W.cell? ⟨w.heap.size, 0, none⟩ = some (.slice f.fA f.far.length f.fC) := cell_keep hb (by simp [go_sem])
    have a1 : W.cell? ⟨w.heap.size, 1, none⟩ = some (vi f.slo) := cell_keep hb (by simp [go_sem])
    have a2 : W.cell? ⟨w.heap.size, 2, none⟩ = some (vi f.shi) := cell_keep hb (by simp [go_sem])
    have a3 : W.cell? ⟨w.heap.size, 3, none⟩ = some (.slice f.pA f.picks.length f.pC) := cell_keep hb (by simp [go_sem])
    have a4 : W.cell? ⟨w.heap.size, 4, none⟩ = some (vi f.carry) := cell_keep hb (by simp [go_sem])
    have a5 : W.cell? ⟨w.heap.size, 5, none⟩ = some (.slice f.sA f.slips.length f.sC) := cell_keep hb (by simp [go_sem])
    have zW := cell_lt a0
    clear hb CH
    go_wp2_with fail
    refine (desk_any f hv _ (HF.out.to HB0)).mono ?_
    rintro e W1 ⟨oA, qA, qC, bm, rfl, hD, hbm, hb⟩
    have HB1 : Below w.heap.size w W1 := HB0.trans (hb.mono HB0.size)
    have hz0 := HB0.size
    have hz1 := hb.size
    have HD := Lib.hid (hD.into (HF.out.to HB1))
    have hMt := (Array.getElem?_eq_some_iff.1 hD.map).1
    have HM := Lib.hid (CrewMap.new hD.map)
    clear hb hD a0 a1 a2 a3 a4 a5
    go_wp2_with fail
    obtain ⟨V, hV⟩ : ∃ V, V = W1.alloc (.cells #[.slice f.fA f.far.length f.fC, vi f.slo, vi f.shi, .slice f.pA f.picks.length f.pC, vi f.carry, .slice f.sA f.slips.length f.sC, .slice oA f.slips.length f.slips.length, .slice qA f.slips.length qC, .map (some bm)] 108) := ⟨_, rfl⟩
    have hbV : Below W1.heap.size W1 V := by rw [hV]; (repeat (first | exact Below.refl _ _ | refine Below.setCell ?_ (by first | omega | (simp; omega) | (simp; done)) _ | refine Below.alloc ?_ (by first | omega | (simp; omega) | (simp; done)) _ | refine Below.drew ?_ | refine below_drewN ?_ _ | refine Below.trans ?_ (Below.mono (by assumption) (by first | omega | (simp; omega) | (simp; done)))))
    have HX : Hid (CellsBox V W1.heap.size 108 (deskC f oA f.slips.length qA f.slips.length qC bm)) := by unfold Hid; rw [hV]; exact CellsBox.new W1 _ _
    rw [← hV]
    clear hV
    have HBV := HB1.trans (hbV.mono HB1.size)
    have HDV := Lib.hid (HD.out.cs (cs_of_below hbV))
    have HMV := Lib.hid (HM.out.below hbV)
    have hzV := hbV.size
    clear hbV HD HM
    refine (fewest_any f hv oA qA f.slips.length qC bm V _ (HL.out.next HBV) HDV.out HMV.out (Inv.empty f 5)).mono ?_
    rintro e W2 ⟨rfl, μ, hP, hk⟩
    have HP := Lib.hid hP
    have HK := Lib.hid hk
    have HB2 := below_spare HBV hP.spare (by omega)
    have HX2 := Lib.hid (hP.cs.box HX.out)
    have hz2 := hP.cs.size
    have HD2 := Lib.hid (HDV.out.cs hP.cs)
    clear hP hk HX hv
    cases hfew : fewF f with
    | none =>
      have E2 : Hid (RV = ([], 4)) := by unfold Hid; rw [E.out, hfew]
      simp only [Option.getD_none, Option.isSome_none]
      clear E
      go_wp2_with fail
      go_ret2
      rw [E2.out]
      exact ⟨none, [], rfl, ⟨rows_nil _ _, by simp⟩, rfl, HB2⟩
    | some p =>
      have E2 : Hid (RV = (rosterF f p (allF f), 0)) := by unfold Hid; rw [E.out, hfew]
      simp only [Option.getD_some, Option.isSome_some]
      obtain ⟨hp1, hp5, hcan⟩ := few_can hfew
      have HCR : Hid (Crew f μ p (allF f)) := ⟨hp5, allF_lt H9.out, hcan, fun h _ => HK.out p hfew h⟩
      have AL := Lib.hid (fun X => all_any f H9.out X)
      have E0 : (2 ^ f.slips.length - 1 : Nat) = allF f := rfl
      rw [E0] at AL
      have ROS := Lib.hid (fun X hX hY => roster_any f HV.out oA qA f.slips.length qC bm p (allF f) X μ hX hY HP.out.inv HCR.out)
      obtain ⟨m, hm⟩ : ∃ m, m = allF f := ⟨_, rfl⟩
      rw [← hm] at AL ROS E2
      clear E E0 hfew hcan HK HCR hm
      go_wp2_with fail
      refine' wp_region_box (fun w' => CS W2 w') (fun a b h h' => h.trans (cs_of_below h')) [0, 1, 2, 3, 4, 5] 3 30 (by kernel_rfl) (by kernel_rfl) rfl (by kernel_rfl) (by kernel_rfl) rfl (by kernel_rfl) ?hl5 (CS.refl _) ?hq5 ?hr5
      case hl5 =>
        simp only [List.map_cons, List.map_nil, List.getD_cons_zero, List.getD_cons_succ]
        exact rfl
      case hq5 =>
        intro w0 K
        have Y := K.box HX2.out
        have f0 := Y.cell (j := 0) rfl
        have f1 := Y.cell (j := 1) rfl
        have f2 := Y.cell (j := 2) rfl
        have f3 := Y.cell (j := 3) rfl
        have f4 := Y.cell (j := 4) rfl
        have f5 := Y.cell (j := 5) rfl
        have f6 := Y.cell (j := 6) rfl
        have f7 := Y.cell (j := 7) rfl
        have f8 := Y.cell (j := 8) rfl
        have zf := Y.lt
        (repeat (go_big_quiet_step ((go_at_call 71; refine Calls.grow_of (AL.out _)))))
        exact wpQuiet_nil rfl
      case hr5 =>
        refine wpUp_one (i := 6) (by kernel_rfl) rfl rfl (fun wa a1 a2 Ka hKa => ?_)
        go_simp
        refine (ROS.out wa (HD2.out.cs a2) (HP.out.map.below a1)).mono ?_
        rintro e w3 ⟨A, ts, rfl, hAt, hts, hb3⟩
        have hAT := Lib.hid hAt
        have hTS := Lib.hid hts
        clear hAt hts
        refine hKa _ _ (a2.trans (cs_of_below hb3)) ?_
        refine wpUp_one (i := 7) (by kernel_rfl) rfl rfl (fun wb b1 b2 Kb hKb => ?_)
        go_simp
        refine hKb _ _ b2 ?_
        refine wpUp_one (i := 8) (by kernel_rfl) rfl rfl (fun wc c1 c2 Kc hKc => ?_)
        go_simp
        refine hKc _ _ c2 (wpUp_done (by kernel_rfl) (fun W8 g1 g2 => NoPanic.normal ?_))
        have hbb : Below w3.heap.size w3 W8 := gr_trans (gr_trans b1 c1) g1
        have HB8 : Below w.heap.size w W8 := ((HB2.trans (a1.mono HB2.size)).trans (hb3.mono (by have := a1.size; have := HB2.size; omega))).trans (hbb.mono (by have := a1.size; have := HB2.size; have := hb3.size; omega))
        have hA8 := hAT.out.to hbb
        have HA8 := Lib.hid hA8
        clear hA8
        go_wp2_with fail
        go_ret2
        rw [E2.out]
        exact ⟨A, ts, rfl, HA8.out, hTS.out, HB8⟩
end Go.Proofs.YtomgnpfpaodpiaaDoor
/- Contract of sort.Search with the closure of Spare. -/
namespace Go.Proofs.YtomgnpfpaodpiaaDoor
open Go Go.RowKit Go.Shelf
set_option maxHeartbeats 3000000
abbrev spareV (bF bN bP : Nat) : Value := .func (.func 79) #[] #[.pointer (some ⟨bF, 0, none⟩), .pointer (some ⟨bN, 0, none⟩), .pointer (some ⟨bP, 0, none⟩)]
set_option maxRecDepth 100000 in
theorem search_any (n : Nat) (hn : n ≤ 100000) (Q : Nat → Bool) (bF bN bP : Nat) (w : World)
    (hQ : ∀ (i : Nat) (X : World), i < n → Below w.heap.size w X → Calls Tryd.prog 79 #[vi i, .pointer (some ⟨bF, 0, none⟩), .pointer (some ⟨bN, 0, none⟩), .pointer (some ⟨bP, 0, none⟩)] X fun e X' => e = .returned (.bool (Q i)) ∧ Below X.heap.size X X') :
    Calls Tryd.prog 78 #[vi n, spareV bF bN bP] w fun e w' => ∃ r : Nat, e = .returned (vi r) ∧ r ≤ n ∧ (∀ k, r = k + 1 → Q k = false) ∧ (r < n → Q r = true) ∧ Below w.heap.size w w' := by
  have HQ := Lib.hid hQ
  clear hQ
  go_enter Tryd.func78, Tryd.ntmps78
  go_wp2_with fail
  go_loopw [5, 6] (fun x y wr => ∃ i j : Nat, x = vi i ∧ y = vi j ∧ i ≤ j ∧ j ≤ n ∧ Hid (∀ k, i = k + 1 → Q k = false) ∧ Hid (j < n → Q j = true) ∧ Below w.heap.size w wr) (fun x y _ => (intOf y).toNat - (intOf x).toNat)
  case atStart => exact ⟨0, n, rfl, rfl, by omega, by omega, fun k h => by omega, fun h => by omega, Below.refl _ _⟩
  obtain ⟨i, j, rfl, rfl, hij, hjn, H1, H2, hB⟩ := hrel
  by_cases hlt : i < j
  · have hltI : (i : Int) < j := by omega
    have hsum : IntKind.wrap .i64 ((i : Int) + j) = ((i + j : Nat) : Int) := by rw [show (i : Int) + j = ((i + j : Nat) : Int) by omega]; exact wrapI (by omega) (by omega)
    go_wp2_with fail
    obtain ⟨h, hh⟩ : ∃ h : Nat, h = (i + j) / 2 := ⟨_, rfl⟩
    have hhI : ((i : Int) + j) / 2 = (h : Int) := by omega
    have hi1 : i ≤ h := by omega
    have hi2 : h < j := by omega
    simp only [hhI]
    refine (HQ.out h wr (by omega) hB).mono ?_
    rintro e W2 ⟨rfl, hb⟩
    have hB2 : Below w.heap.size w W2 := hB.trans (hb.mono hB.size)
    obtain ⟨b, hbb⟩ : ∃ b, b = Q h := ⟨_, rfl⟩
    rw [← hbb]
    have HBB := Lib.hid hbb
    clear hbb hb hhI hh hsum
    have hwr : IntKind.wrap .i64 ((h : Int) + 1) = ((h + 1 : Nat) : Int) := by rw [show (h : Int) + 1 = ((h + 1 : Nat) : Int) by omega]; exact wrapI (by omega) (by omega)
    rcases b with _ | _
    · go_wp2_with fail
      go_roundw
      case rel =>
        refine ⟨h + 1, j, by go_num, rfl, by omega, hjn, ?_, H2, hB2⟩
        intro k e
        have e2 : k = h := by omega
        subst e2
        exact HBB.out.symm
      case measure => simp [intOf]; omega
    · go_wp2_with fail
      go_roundw
      case rel => exact ⟨i, h, rfl, rfl, hi1, by omega, H1, fun _ => HBB.out.symm, hB2⟩
      case measure => simp [intOf]; omega
  · obtain rfl : i = j := by omega
    go_wp2_with fail
    go_ret
    exact ⟨i, rfl, hjn, H1.out, H2.out, hB⟩
end Go.Proofs.YtomgnpfpaodpiaaDoor
/- The closure of Spare. -/
namespace Go.Proofs.YtomgnpfpaodpiaaDoor
open Go Go.RowKit Go.Shelf
set_option maxHeartbeats 3000000
/-- the floor with another Until, wherever its slips lie -/
abbrev tillF (f : Floor) (k : Nat) (u : Int) : Floor := withF f none 0 k u
theorem hi_at (f : Floor) (A : Option Addr) (C k : Nat) (u : Int) (l : List SLine) (st : Int) : ∀ n, secsKHi (withF f A C k u) l st n = secsKHi f l st n
  | 0 => rfl
  | n + 1 => by rw [secsKHi, secsKHi, hi_at f A C k u l st n]; rfl
theorem lo_at (f : Floor) (A : Option Addr) (C k : Nat) (u : Int) (l : List SLine) (st : Int) : ∀ n, secsKLo (withF f A C k u) l st n = secsKLo f l st n
  | 0 => rfl
  | n + 1 => by rw [secsKLo, secsKLo, lo_at f A C k u l st n]; rfl
theorem steps_at (f : Floor) (A : Option Addr) (C k : Nat) (u : Int) (s : SSlip) : stepsF (withF f A C k u) s = stepsF f s := by
  unfold stepsF
  rfl
theorem takes_at (f : Floor) (A : Option Addr) (C k : Nat) (u : Int) (s : SSlip) : takesF (withF f A C k u) s = takesF f s := by
  rw [takesF, takesF, steps_at, secsFLo, secsFLo, secsFHi, secsFHi, hi_at, lo_at]
theorem secs_at (f : Floor) (A : Option Addr) (C k : Nat) (u : Int) : secsL (withF f A C k u) = secsL (tillF f k u) := by
  unfold secsL
  apply List.map_congr_left
  intro s _
  rw [takes_at, takes_at]
theorem key_at (f : Floor) (A : Option Addr) (C k : Nat) (u : Int) : keyF (withF f A C k u) = keyF (tillF f k u) := rfl
theorem loop_at (f : Floor) (A : Option Addr) (C k : Nat) (u : Int) (m : Nat) : ∀ (rest : List Nat) (to : Nat) (sec : Int), loopF (withF f A C k u) m to sec rest = loopF (tillF f k u) m to sec rest
  | [], _, _ => rfl
  | s :: rest, to, sec => by
    rw [loopF, loopF, loop_at f A C k u m rest, loop_at f A C k u m rest, okF, okF, secs_at, key_at]
theorem given_at (f : Floor) (A : Option Addr) (C k : Nat) (u : Int) (m : Nat) : givenF (withF f A C k u) m = givenF (tillF f k u) m := loop_at f A C k u m _ _ _
theorem can_at (f : Floor) (A : Option Addr) (C k : Nat) (u : Int) : ∀ (p m : Nat), canF (withF f A C k u) p m = canF (tillF f k u) p m
  | 0, _ => rfl
  | p + 1, m => by
    rw [canF, canF, given_at]
    have : (fun x => canF (withF f A C k u) p (lessF m x)) = fun x => canF (tillF f k u) p (lessF m x) := funext fun x => can_at f A C k u p (lessF m x)
    rw [this]
theorem valid_till {f : Floor} (hv : validB f = true) (A : Option Addr) (C k : Nat) {u : Int} (h0 : 0 ≤ u) (h1 : u ≤ 100000) : validB (withF f A C k u) = true := by
  unfold validB at hv ⊢
  simp only [Bool.and_eq_true] at hv ⊢
  obtain ⟨⟨⟨⟨v1, v2⟩, v3⟩, v4⟩, v5⟩ := hv
  have hl : (withF f A C k u).slips.length = f.slips.length := by simp [withF]
  rw [hl]
  refine ⟨⟨⟨⟨v1, v2⟩, v3⟩, v4⟩, ?_⟩
  rw [List.all_eq_true] at v5 ⊢
  intro i hi
  have hg := v5 i hi
  have hlt := List.mem_range.1 hi
  have e : (withF f A C k u).slips[i]? = some (if k = i then { f.slips[i] with till := u } else f.slips[i]) := by
    simp only [withF, List.getElem?_modify, List.getElem?_eq_getElem hlt, Option.map_some]
    split <;> rfl
  rw [goodSlip_of (List.getElem?_eq_getElem hlt), Bool.and_eq_true] at hg
  rw [goodSlip_of e, Bool.and_eq_true]
  split
  · exact ⟨by simp [hasB]; omega, hg.2⟩
  · exact hg
/-- are so many pickers enough with another Until -/
def enoughF (f : Floor) (k p : Nat) (u : Int) : Bool := canF (tillF f k u) p (allF f)
end Go.Proofs.YtomgnpfpaodpiaaDoor
/- Contract of the closure of Spare. -/
namespace Go.Proofs.YtomgnpfpaodpiaaDoor
open Go Go.RowKit Go.Shelf
set_option maxHeartbeats 3000000
set_option maxRecDepth 100000 in
theorem enough_any (f : Floor) (hv : validB f = true) (k p u : Nat) (s : SSlip) (hs : f.slips[k]? = some s) (hp : p ≤ 5) (hu : u ≤ 100000) (bF bN bP : Nat) (w : World)
    (hF : CellsBox w bF 28 f.cells) (hN : CellsBox w bN 3 [vi k]) (hP : CellsBox w bP 3 [vi p]) (h : FloorAt w w.heap.size f) :
    Calls Tryd.prog 79 #[vi u, .pointer (some ⟨bF, 0, none⟩), .pointer (some ⟨bN, 0, none⟩), .pointer (some ⟨bP, 0, none⟩)] w fun e w' => e = .returned (.bool (enoughF f k p u)) ∧ Below w.heap.size w w' := by
  have h9 := (fine hv).slips9
  have HF := Lib.hid h
  have HV := Lib.hid hv
  have HPB := Lib.hid hP
  have a0 := hF.cell (j := 0) rfl
  have a1 := hF.cell (j := 1) rfl
  have a2 := hF.cell (j := 2) rfl
  have a3 := hF.cell (j := 3) rfl
  have a4 := hF.cell (j := 4) rfl
  have a5 := hF.cell (j := 5) rfl
  have za := hF.lt
  have n0 := hN.cell (j := 0) rfl
  have zn := hN.lt
  have zp := hP.lt
  have WA := Lib.hid (fun (W : World) hW => with_any f k s hs h9 u W hW)
  have H9 := Lib.hid h9
  obtain ⟨an, han⟩ : ∃ an, an = enoughF f k p u := ⟨_, rfl⟩
  rw [← han]
  have HAN := Lib.hid han
  clear h hv hs h9 han hF hN hP
  go_enter Tryd.func79, Tryd.ntmps79
  go_wp2_with fail
  refine (WA.out _ (HF.out.to (by (repeat (first | exact Below.refl _ _ | refine Below.setCell ?_ (by first | omega | (simp; omega) | (simp; done)) _ | refine Below.alloc ?_ (by first | omega | (simp; omega) | (simp; done)) _ | refine Below.drew ?_ | refine below_drewN ?_ _ | refine Below.trans ?_ (Below.mono (by assumption) (by first | omega | (simp; omega) | (simp; done)))))))).mono ?_
  rintro e W0 ⟨g, c, rfl, hFW, hb⟩
  have HB0 : Below w.heap.size w W0 := by (repeat (first | exact Below.refl _ _ | refine Below.setCell ?_ (by first | omega | (simp; omega) | (simp; done)) _ | refine Below.alloc ?_ (by first | omega | (simp; omega) | (simp; done)) _ | refine Below.drew ?_ | refine below_drewN ?_ _ | refine Below.trans ?_ (Below.mono (by assumption) (by first | omega | (simp; omega) | (simp; done)))))
  have HFW := Lib.hid hFW
  have hvw : validB (withF f (some ⟨g, 0, none⟩) c k u) = true := valid_till HV.out _ _ _ (by omega) (by omega)
  have HVW := Lib.hid hvw
  obtain ⟨f2, hf2⟩ : ∃ f2, f2 = withF f (some ⟨g, 0, none⟩) c k u := ⟨_, rfl⟩
  rw [← hf2] at HFW HVW hvw ⊢
  have HF2 := Lib.hid hf2
  clear hb hFW hf2 a0 a1 a2 a3 a4 a5 n0
  go_wp2_with fail
  refine (desk_any f2 hvw _ HFW.out).mono ?_
  rintro e W1 ⟨oA, qA, qC, bm, rfl, hD, hbm, hb⟩
  have hz0 := HB0.size
  have hz1 := hb.size
  have HB1 : Below w.heap.size w W1 := HB0.trans (hb.mono HB0.size)
  have HD := Lib.hid (hD.into (HFW.out.to hb))
  have hMt := (Array.getElem?_eq_some_iff.1 hD.map).1
  have HM := Lib.hid (CrewMap.new hD.map)
  clear hb hD
  go_wp2_with fail
  obtain ⟨V, hV⟩ : ∃ V, V = W1.alloc (.cells #[.slice f2.fA f2.far.length f2.fC, vi f2.slo, vi f2.shi, .slice f2.pA f2.picks.length f2.pC, vi f2.carry, .slice f2.sA f2.slips.length f2.sC, .slice oA f2.slips.length f2.slips.length, .slice qA f2.slips.length qC, .map (some bm)] 108) := ⟨_, rfl⟩
  have hbV : Below W1.heap.size W1 V := by rw [hV]; (repeat (first | exact Below.refl _ _ | refine Below.setCell ?_ (by first | omega | (simp; omega) | (simp; done)) _ | refine Below.alloc ?_ (by first | omega | (simp; omega) | (simp; done)) _ | refine Below.drew ?_ | refine below_drewN ?_ _ | refine Below.trans ?_ (Below.mono (by assumption) (by first | omega | (simp; omega) | (simp; done)))))
  have HX : Hid (CellsBox V W1.heap.size 108 (deskC f2 oA f2.slips.length qA f2.slips.length qC bm)) := by unfold Hid; rw [hV]; exact CellsBox.new W1 _ _
  rw [← hV]
  clear hV
  have HBV := HB1.trans (hbV.mono HB1.size)
  have HDV := Lib.hid (HD.out.cs (cs_of_below hbV))
  have HMV := Lib.hid (HM.out.below hbV)
  have HPV : Hid (CellsBox V bP 3 [vi p]) := HPB.out.keep HBV
  have hlen : f2.slips.length = f.slips.length := by rw [HF2.out]; simp [withF]
  have hz2 := HBV.size
  have hm9 : allF f < 512 := allF_lt H9.out
  have AL := Lib.hid (fun X => all_any f2 (by rw [hlen]; exact H9.out) X)
  have E0 : (2 ^ f2.slips.length - 1 : Nat) = allF f := by rw [hlen]; rfl
  rw [E0] at AL
  have CAN := Lib.hid (fun X hX hY => can_any f2 HVW.out oA qA f2.slips.length qC bm p (allF f) hp hm9 X (fun _ _ => none) hX hY (Inv.empty f2 p))
  have EAN : Hid (canF f2 p (allF f) = an) := by unfold Hid; rw [HAN.out, HF2.out, can_at, enoughF]
  rw [EAN.out] at CAN
  obtain ⟨m, hm⟩ : ∃ m, m = allF f := ⟨_, rfl⟩
  rw [← hm] at AL CAN
  clear hbV HD HM E0 hm hm9 hlen hvw
  refine' wp_region_box (fun w' => CS V w') (fun a b h h' => h.trans (cs_of_below h')) [0, 1, 2, 3, 4, 5] 2 20 (by kernel_rfl) (by kernel_rfl) rfl (by kernel_rfl) (by kernel_rfl) rfl (by kernel_rfl) ?hl5 (CS.refl _) ?hq5 ?hr5
  case hl5 =>
    simp only [List.map_cons, List.map_nil, List.getD_cons_zero, List.getD_cons_succ]
    exact rfl
  case hq5 =>
    intro w0 K
    have Y := K.box HX.out
    have f0 := Y.cell (j := 0) rfl
    have f1 := Y.cell (j := 1) rfl
    have f2 := Y.cell (j := 2) rfl
    have f3 := Y.cell (j := 3) rfl
    have f4 := Y.cell (j := 4) rfl
    have f5 := Y.cell (j := 5) rfl
    have f6 := Y.cell (j := 6) rfl
    have f7 := Y.cell (j := 7) rfl
    have f8 := Y.cell (j := 8) rfl
    have zf := Y.lt
    have q0 := (K.box HPV.out).cell (j := 0) rfl
    have zq := (K.box HPV.out).lt
    (repeat (go_big_quiet_step ((go_at_call 71; refine Calls.grow_of (AL.out _)))))
    exact wpQuiet_nil rfl
  case hr5 =>
    refine wpUp_one (i := 6) (by kernel_rfl) rfl rfl (fun wa a1 a2 Ka hKa => ?_)
    go_simp
    refine (CAN.out wa (HDV.out.cs a2) (HMV.out.below a1)).mono ?_
    rintro e w3 ⟨rfl, μ, hP⟩
    have HP := Lib.hid hP
    clear hP
    refine hKa _ _ (a2.trans HP.out.cs) ?_
    refine wpUp_one (i := 7) (by kernel_rfl) rfl rfl (fun wc c1 c2 Kc hKc => ?_)
    go_simp
    refine hKc _ _ c2 (wpUp_done (by kernel_rfl) (fun W8 g1 g2 => NoPanic.normal ?_))
    have HBa : Below w.heap.size w wa := HBV.trans (a1.mono HBV.size)
    have HB3 : Below w.heap.size w w3 := below_spare HBa HP.out.spare (by omega)
    have HB8 : Below w.heap.size w W8 := HB3.trans ((gr_trans c1 g1).mono HB3.size)
    go_wp2_with fail
    go_ret
    exact ⟨rfl, HB8⟩
end Go.Proofs.YtomgnpfpaodpiaaDoor
/- Contract of Spare. -/
namespace Go.Proofs.YtomgnpfpaodpiaaDoor
open Go Go.RowKit Go.Shelf
set_option maxHeartbeats 3000000
structure IsSpare (f : Floor) (k p t r : Nat) : Prop where
  le : r ≤ t
  under : ∀ j : Nat, r = j + 1 → enoughF f k p j = false
  enough : r < t → enoughF f k p r = true
/-- what Spare answers -/
def SpareA (f : Floor) (n v c : Int) : Prop :=
  (checkSlipV f n ≠ 0 ∧ v = 0 ∧ c = checkSlipV f n) ∨ (checkSlipV f n = 0 ∧ fewF f = none ∧ v = 0 ∧ c = 4) ∨
    (checkSlipV f n = 0 ∧ c = 0 ∧ ∃ (k p t r : Nat) (s : SSlip), n = k ∧ f.slips[k]? = some s ∧ s.till = t ∧ fewF f = some p ∧ v = r ∧ IsSpare f k p t r)
set_option maxRecDepth 100000 in
theorem Spare_any (f : Floor) (n : Int) (w : World) (hl : Lim w) (h : FloorAt w w.heap.size f) :
    Calls Tryd.prog 33 #[f.val, vi n] w fun e w' => ∃ v c, e = .returned (.tuple #[vi v, vi c]) ∧ SpareA f n v c ∧ Below w.heap.size w w' := by
  have HL := Lib.hid hl
  have HF := Lib.hid h
  rcases check_cases f n with hc | ⟨hc, hv, k, s, rfl, hs⟩
  · obtain ⟨ec, hec⟩ : ∃ ec, checkSlipV f n = ec := ⟨_, rfl⟩
    have hne : ec ≠ 0 := by omega
    have hned : decide (ec = 0) = false := by simpa using hne
    have CH := Lib.hid (fun (W : World) hL hW => checkSlip_is hec W hL hW)
    have HA : Hid (SpareA f n 0 ec) := .inl ⟨by omega, rfl, hec.symm⟩
    clear h hl hc hec
    go_enter Tryd.func33, Tryd.ntmps33
    go_wp2_with fail
    refine (CH.out _ (HL.out.next (by (repeat (first | exact Below.refl _ _ | refine Below.setCell ?_ (by first | omega | (simp; omega) | (simp; done)) _ | refine Below.alloc ?_ (by first | omega | (simp; omega) | (simp; done)) _ | refine Below.drew ?_ | refine below_drewN ?_ _ | refine Below.trans ?_ (Below.mono (by assumption) (by first | omega | (simp; omega) | (simp; done))))))) (HF.out.to (by (repeat (first | exact Below.refl _ _ | refine Below.setCell ?_ (by first | omega | (simp; omega) | (simp; done)) _ | refine Below.alloc ?_ (by first | omega | (simp; omega) | (simp; done)) _ | refine Below.drew ?_ | refine below_drewN ?_ _ | refine Below.trans ?_ (Below.mono (by assumption) (by first | omega | (simp; omega) | (simp; done)))))))).mono ?_
    rintro e W ⟨rfl, hb⟩
    have HB0 : Below w.heap.size w W := by (repeat (first | exact Below.refl _ _ | refine Below.setCell ?_ (by first | omega | (simp; omega) | (simp; done)) _ | refine Below.alloc ?_ (by first | omega | (simp; omega) | (simp; done)) _ | refine Below.drew ?_ | refine below_drewN ?_ _ | refine Below.trans ?_ (Below.mono (by assumption) (by first | omega | (simp; omega) | (simp; done)))))
    clear hb
    go_wp2_with fail
    go_ret2
    exact ⟨0, ec, rfl, HA.out, HB0⟩
  · have CH := Lib.hid (fun (W : World) hL hW => checkSlip_is hc W hL hW)
    have hf := fine hv
    have HC := Lib.hid hc
    have HV := Lib.hid hv
    have H9 := Lib.hid hf.slips9
    have HS := Lib.hid hs
    have hk := (List.getElem?_eq_some_iff.1 hs).1
    have hkI : (k : Int) < f.slips.length := by omega
    have h0k : (0 : Int) ≤ k := by omega
    have htill := (hf.slips s (List.mem_of_getElem? hs)).1
    have htill2 := (hf.slips s (List.mem_of_getElem? hs)).2.1
    clear h hl hc hf hs
    go_enter Tryd.func33, Tryd.ntmps33
    go_wp2_with fail
    refine (CH.out _ (HL.out.next (by (repeat (first | exact Below.refl _ _ | refine Below.setCell ?_ (by first | omega | (simp; omega) | (simp; done)) _ | refine Below.alloc ?_ (by first | omega | (simp; omega) | (simp; done)) _ | refine Below.drew ?_ | refine below_drewN ?_ _ | refine Below.trans ?_ (Below.mono (by assumption) (by first | omega | (simp; omega) | (simp; done))))))) (HF.out.to (by (repeat (first | exact Below.refl _ _ | refine Below.setCell ?_ (by first | omega | (simp; omega) | (simp; done)) _ | refine Below.alloc ?_ (by first | omega | (simp; omega) | (simp; done)) _ | refine Below.drew ?_ | refine below_drewN ?_ _ | refine Below.trans ?_ (Below.mono (by assumption) (by first | omega | (simp; omega) | (simp; done)))))))).mono ?_
    rintro e W ⟨rfl, hb⟩
    have HB0 : Below w.heap.size w W := by (repeat (first | exact Below.refl _ _ | refine Below.setCell ?_ (by first | omega | (simp; omega) | (simp; done)) _ | refine Below.alloc ?_ (by first | omega | (simp; omega) | (simp; done)) _ | refine Below.drew ?_ | refine below_drewN ?_ _ | refine Below.trans ?_ (Below.mono (by assumption) (by first | omega | (simp; omega) | (simp; done)))))
    have XF : Hid (CellsBox W w.heap.size 28 f.cells) := ((CellsBox.new w 28 f.cells).alloc _).keep hb
    have XN0 := CellsBox.new (w.alloc (.cells f.cells.toArray 28)) 3 [vi k]
    rw [World.size_alloc] at XN0
    have XN : Hid (CellsBox W (w.heap.size + 1) 3 [vi k]) := XN0.keep hb
    have a0 := XF.out.cell (j := 0) rfl
    have a1 := XF.out.cell (j := 1) rfl
    have a2 := XF.out.cell (j := 2) rfl
    have a3 := XF.out.cell (j := 3) rfl
    have a4 := XF.out.cell (j := 4) rfl
    have a5 := XF.out.cell (j := 5) rfl
    have zW := XF.out.lt
    clear hb CH XN0
    go_wp2_with fail
    refine (desk_any f hv _ (HF.out.to HB0)).mono ?_
    rintro e W1 ⟨oA, qA, qC, bm, rfl, hD, hbm, hb⟩
    have HB1 : Below w.heap.size w W1 := HB0.trans (hb.mono HB0.size)
    have hz0 := HB0.size
    have hz1 := hb.size
    have HD := Lib.hid (hD.into (HF.out.to HB1))
    have hMt := (Array.getElem?_eq_some_iff.1 hD.map).1
    have HM := Lib.hid (CrewMap.new hD.map)
    have XF1 := Lib.hid (XF.out.keep hb)
    have XN1 := Lib.hid (XN.out.keep hb)
    clear hb hD a0 a1 a2 a3 a4 a5 XF XN
    go_wp2_with fail
    refine (fewest_any f hv oA qA f.slips.length qC bm W1 _ (HL.out.next HB1) HD.out HM.out (Inv.empty f 5)).mono ?_
    rintro e W2 ⟨rfl, μ, hP, -⟩
    have HB2 := below_spare HB1 hP.spare (by omega)
    have XF2 := Lib.hid (hP.cs.box XF1.out)
    have XN2 := Lib.hid (hP.cs.box XN1.out)
    have hz2 := hP.cs.size
    clear hP XF1 XN1 hv HD HM
    have a4 := XF2.out.cell (j := 5) rfl
    have n0 := XN2.out.cell (j := 0) rfl
    have zF := XF2.out.lt
    have zN := XN2.out.lt
    cases hfew : fewF f with
    | none =>
      have HA : Hid (SpareA f k 0 4) := .inr (.inl ⟨HC.out, hfew, rfl, rfl⟩)
      clear hfew
      go_wp2_with fail
      go_ret2
      refine ⟨0, 4, rfl, HA.out, ?_⟩
      (repeat (first | exact Below.refl _ _ | refine Below.setCell ?_ (by first | omega | (simp; omega) | (simp; done)) _ | refine Below.alloc ?_ (by first | omega | (simp; omega) | (simp; done)) _ | refine Below.drew ?_ | refine below_drewN ?_ _ | refine Below.trans ?_ (Below.mono (by assumption) (by first | omega | (simp; omega) | (simp; done)))))
    | some p =>
      obtain ⟨hp1, hp5, hcan⟩ := few_can hfew
      have HFEW := Lib.hid hfew
      clear hfew hcan
      obtain ⟨t, ht⟩ : ∃ t : Nat, s.till = t := ⟨s.till.toNat, by omega⟩
      have hsl := (HF.out.to HB2).slips
      obtain ⟨bs, os, hsA, hbs, s0, s1⟩ := row2 hsl.row HS.out rfl
      have hsln := hsl.lens
      rw [ht] at s1
      have zs := cell_lt s1
      obtain ⟨V, hV⟩ : ∃ V, V = W2.alloc (.cells #[vi p] 3) := ⟨_, rfl⟩
      clear hsl
      rw [hsA] at a4
      go_wp2_with fail
      rw [← hV]
      have hbV : Below w.heap.size w V := by rw [hV]; (repeat (first | exact Below.refl _ _ | refine Below.setCell ?_ (by first | omega | (simp; omega) | (simp; done)) _ | refine Below.alloc ?_ (by first | omega | (simp; omega) | (simp; done)) _ | refine Below.drew ?_ | refine below_drewN ?_ _ | refine Below.trans ?_ (Below.mono (by assumption) (by first | omega | (simp; omega) | (simp; done)))))
      have hb2V : Below W2.heap.size W2 V := by rw [hV]; (repeat (first | exact Below.refl _ _ | refine Below.setCell ?_ (by first | omega | (simp; omega) | (simp; done)) _ | refine Below.alloc ?_ (by first | omega | (simp; omega) | (simp; done)) _ | refine Below.drew ?_ | refine below_drewN ?_ _ | refine Below.trans ?_ (Below.mono (by assumption) (by first | omega | (simp; omega) | (simp; done)))))
      have XFV := Lib.hid (XF2.out.keep hb2V)
      have XNV := Lib.hid (XN2.out.keep hb2V)
      have XPV : Hid (CellsBox V W2.heap.size 3 [vi p]) := by unfold Hid; rw [hV]; exact CellsBox.new W2 _ _
      have HBV := Lib.hid hbV
      have HT := Lib.hid ht
      have ht2 : t ≤ 100000 := by omega
      clear hV hb2V a4 n0 s0 s1
      refine (search_any t ht2 (fun u => enoughF f k p u) w.heap.size (w.heap.size + 1) W2.heap.size V (fun i X hi hX => enough_any f HV.out k p i s HS.out hp5 (by omega) _ _ _ X (XFV.out.keep hX) (XNV.out.keep hX) (XPV.out.keep hX) (HF.out.to (HBV.out.trans (hX.mono HBV.out.size))))).mono ?_
      rintro e W3 ⟨r, rfl, r1, r2, r3, hb3⟩
      have HB3 : Below w.heap.size w W3 := hbV.trans (hb3.mono hbV.size)
      have HA : Hid (SpareA f k r 0) := .inr (.inr ⟨HC.out, rfl, k, p, t, r, s, rfl, HS.out, HT.out, HFEW.out, rfl, ⟨r1, r2, r3⟩⟩)
      clear r1 r2 r3 hb3
      go_wp2_with fail
      go_ret2
      exact ⟨r, 0, rfl, HA.out, HB3⟩
end Go.Proofs.YtomgnpfpaodpiaaDoor
/- Contract of Tours. -/
namespace Go.Proofs.YtomgnpfpaodpiaaDoor
open Go Go.RowKit Go.Shelf
set_option maxHeartbeats 2000000
attribute [local go_sem] Oper.semAt_some
/-- a list of lines in a block of its own -/
structure TourIn (W : World) (t : STour) : Prop where
  lines : SLinesAt W W.heap.size t.ad t.cap t.lines
  blk : ∀ b, t.ad = some b → ∃ cs, W.heap[b.block]? = some (.cells cs 64 (0, 0))
theorem TourIn.keep {w w' : World} {t : STour} (h : TourIn w t) (hs : w.heap.size ≤ w'.heap.size) (hk : ∀ (k : Nat) (cs : Array Value), w.heap[k]? = some (.cells cs 64 (0, 0)) → w'.heap[k]? = w.heap[k]?) : TourIn w' t := by
  obtain ⟨hl, hb⟩ := h
  refine ⟨⟨hl.len, hl.cap, hl.few, fun h0 => ?_⟩, fun b e => ?_⟩
  · obtain ⟨b, off, hA, hlt, hc⟩ := hl.row h0
    obtain ⟨cs, hcs⟩ := hb _ hA
    have e := hk _ cs hcs
    exact ⟨b, off, hA, by omega, fun i r hr j u hj hu => by
      have h9 := hc i r hr j u hj hu
      simp only [World.cell?] at h9 ⊢
      rw [e]
      exact h9⟩
  · obtain ⟨cs, hcs⟩ := hb b e
    exact ⟨cs, (hk _ cs hcs).trans hcs⟩
theorem TourIn.to {w w' : World} {t : STour} (h : TourIn w t) (hb : Below w.heap.size w w') : TourIn w' t := h.keep hb.size fun k cs hk => hb.block k (Array.getElem?_eq_some_iff.1 hk).1
abbrev lsT : TypeId := 50
abbrev llT : TypeId := 29
/-- the list of tours so far, in the box L -/
structure ListIn (W : World) (base L : Nat) (want : List (List SLine)) (v : Value) (ts : List STour) : Prop where
  box : Boxed W L llT v
  eq : ts.map STour.lines = want
  own : W.ownsRow base lsT 1 v ts.length (ts.map STour.slice)
  each : ∀ t ∈ ts, TourIn W t
theorem ListIn.to {w w' : World} {base L : Nat} {want : List (List SLine)} {v : Value} {ts : List STour} (h : ListIn w base L want v ts) (hb : Below w.heap.size w w') : ListIn w' base L want v ts :=
  ⟨boxed_below h.box hb, h.eq, own_keep h.own hb, fun t ht => (h.each t ht).to hb⟩
theorem ownE_list {β : Type} {base L B : Nat} (hL : L < B) (want : β → List (List SLine)) : OwnE 102 B (fun s W => ∃ v ts, ListIn W base L (want s) v ts) := by
  rintro s X Y row ⟨v, ts, h⟩ hg hr
  have ne : ∀ (k : Nat) (cs : Array Value) (t : TypeId), t ≠ 102 → X.heap[k]? = some (.cells cs t (0, 0)) → Y.heap[k]? = X.heap[k]? := fun k cs t ht hk =>
    hg.block k (Array.getElem?_eq_some_iff.1 hk).1 fun e => by
      obtain ⟨_, o, ho, h1 | ⟨c, z, h1⟩⟩ := hr k e.symm
      · rw [hk] at ho; cases ho; cases h1
      · rw [hk] at ho; cases ho; cases h1; exact ht rfl
  refine ⟨v, ts, (hg.block L h.box.lt fun e => by have := (hr L e.symm).1; omega).trans h.box, h.eq, h.own.kept hg ?_, fun t ht => (h.each t ht).keep hg.size fun k cs hk => ne k cs _ (by decide) hk⟩
  rcases h.own.2 with ⟨rfl, _⟩ | ⟨g, cap, cur, rfl, _, hh, _⟩
  · exact .inl rfl
  · right
    intro e
    have := (hr g e.symm).2
    obtain ⟨o, ho, h1 | ⟨c, z, h1⟩⟩ := this
    · rw [hh] at ho; cases ho; cases h1
    · rw [hh] at ho; cases ho; cases h1
def ToursV (f : Floor) (n : Int) : List (List SLine) := if checkSlipV f n = 0 then (match f.slips[n.toNat]? with | some s => (loadsOf f s).map linesOf | none => []) else []
theorem info_lines : (Tryd.prog.info? lsT).map (fun i => (i.zero, i.size, i.bytes)) = some (some (.slice none 0 0), 1, 24) := by kernel_rfl
end Go.Proofs.YtomgnpfpaodpiaaDoor
/- A tour appended to the list. -/
namespace Go.Proofs.YtomgnpfpaodpiaaDoor
open Go Go.RowKit Go.Shelf
theorem list_other {w7 w8 : World} {base L : Nat} {want : List (List SLine)} {v : Value} {ts : List STour} (h : ListIn w7 base L want v ts) (hg : w7.grownBy w8 v.ownBlock) (k : Nat) (t' : TypeId) (cs : List Value) (hne : t' ≠ lsT) (hk : CellsBox w7 k t' cs) : CellsBox w8 k t' cs :=
  (hg.block k hk.lt fun e => by
    rcases h.own.2 with ⟨rfl, _⟩ | ⟨g, cap, cur, rfl, _, h2, _⟩
    · cases e
    · cases e
      unfold CellsBox at hk
      rw [h2] at hk; cases hk; exact hne rfl).trans hk
theorem list_box {w7 w8 : World} {base L : Nat} {want : List (List SLine)} {v : Value} {ts : List STour} (h : ListIn w7 base L want v ts) (hg : w7.grownBy w8 v.ownBlock) : Boxed w8 L llT v :=
  list_other h hg L llT [v] (by decide) h.box
theorem list_append {X w7 w8 w9 : World} {base L n₀ : Nat} {want : List (List SLine)} {v v5 : Value} {ts : List STour} {t : STour} (hB : Below X.heap.size X w7) (h : ListIn w7 base L want v ts) (ht : TourIn w7 t) (hg : w7.grownBy w8 v.ownBlock)
    (hown8 : w8.ownsRow base lsT 1 v5 (ts.length + 1) (ts.map STour.slice ++ [t.slice])) (h9 : Below w8.heap.size w8 w9) (hn : n₀ ≤ base) (hnX : n₀ ≤ X.heap.size) :
    ListIn (w9.setCell ⟨L, 0, none⟩ v5) base L (want ++ [t.lines]) v5 (ts ++ [t]) ∧ KE lsT n₀ L X (w9.setCell ⟨L, 0, none⟩ v5) ∧ ∀ B, KeepsFrom B X (w9.setCell ⟨L, 0, none⟩ v5) := by
  have own : ∀ k, v.ownBlock = some k → base ≤ k ∧ ∃ cs, w7.heap[k]? = some (.cells cs lsT (0, 0)) := fun k hk => by
    rcases h.own.2 with ⟨rfl, _⟩ | ⟨g, cap, cur, rfl, h1, h2, _⟩
    · cases hk
    · cases hk; exact ⟨h1, _, h2⟩
  have ty : ∀ (k : Nat) (cs : Array Value) (t' : TypeId), t' ≠ lsT → w7.heap[k]? = some (.cells cs t' (0, 0)) → some k ≠ v.ownBlock := fun k cs t' hne hk e => by
    obtain ⟨_, cs', h1⟩ := own k e.symm
    rw [hk] at h1; cases h1; exact hne rfl
  have up : ∀ k, k < w7.heap.size → some k ≠ v.ownBlock → w9.heap[k]? = w7.heap[k]? := fun k hk hne => (h9.block k (Nat.lt_of_lt_of_le hk hg.size)).trans (hg.block k hk hne)
  have step : ∀ k, k < w7.heap.size → some k ≠ v.ownBlock → k ≠ L → (w9.setCell ⟨L, 0, none⟩ v5).heap[k]? = w7.heap[k]? := fun k hk hne hl => (heap_setCell_other w9 _ k v5 hl).trans (up k hk hne)
  have hLlt := h.box.lt
  have hLne : some L ≠ v.ownBlock := ty L _ llT (by decide) h.box
  have b9 : Boxed w9 L llT v := (up L hLlt hLne).trans h.box
  have hsz : w7.heap.size ≤ (w9.setCell ⟨L, 0, none⟩ v5).heap.size := by
    have := hg.size
    have := h9.size
    simp; omega
  have own9 := own_keep hown8 h9
  refine ⟨⟨b9.set v5, by simp [h.eq], ?_, fun t' ht' => ?_⟩, ⟨⟨?_, ?_, ?_, ?_, fun k hk hl => ?_⟩, fun k c t' hl hne hk => ?_⟩, fun B => ⟨Nat.le_trans hB.size hsz, fun k o hk ho hc => ?_⟩⟩
  · rw [List.length_append, List.length_singleton, List.map_append]
    exact own9.kept (grownBy_setCell' w9 L v5) (.inr (b9.not_row (by decide) own9).symm)
  · have h7 : TourIn w7 t' := by
      rcases List.mem_append.1 ht' with h1 | h1
      · exact h.each t' h1
      · rw [List.mem_singleton] at h1; subst h1; exact ht
    refine h7.keep hsz fun k cs hk => step k (Array.getElem?_eq_some_iff.1 hk).1 (ty k cs _ (by decide) hk) fun e => ?_
    subst e
    have := h.box
    unfold Boxed at this
    rw [hk] at this
    cases this
  · exact (h9.os.trans hg.os).trans hB.os
  · exact (h9.tape.trans hg.tape).trans hB.tape
  · exact (h9.output.trans hg.output).trans hB.output
  · exact Nat.le_trans hB.size hsz
  · rw [step k (by have := hB.size; omega) (fun e => by have := (own k e.symm).1; omega) hl]
    exact hB.block k (by omega)
  · have hkX := (Array.getElem?_eq_some_iff.1 hk).1
    have h7 := (hB.block k hkX).trans hk
    rw [step k (by have := hB.size; omega) (ty k c t' hne h7) hl]
    exact h7
  · have hkX := (Array.getElem?_eq_some_iff.1 ho).1
    have h7 := (hB.block k hkX).trans ho
    rw [step k (by have := hB.size; omega) (fun e => by obtain ⟨_, cs, h1⟩ := own k e.symm; rw [h7] at h1; cases h1; cases hc) (fun e => by subst e; have := h.box; unfold Boxed at this; rw [h7] at this; cases this; cases hc)]
    exact h7
theorem ListIn.put {w : World} {base L D : Nat} {want : List (List SLine)} {v : Value} {ts : List STour} {o : Obj} (h : ListIn w base L want v ts) (o' : Obj) (hD : w.heap[D]? = some o) (hc : o.isCells = false) : ListIn (w.putObj D o') base L want v ts := by
  have ne : ∀ (k : Nat) (cs : Array Value) (t : TypeId), w.heap[k]? = some (.cells cs t (0, 0)) → (w.putObj D o').heap[k]? = w.heap[k]? := fun k cs t hk => World.putObj_heap_other (by
    rintro rfl
    rw [hD] at hk; cases hk; cases hc)
  exact ⟨(ne L _ _ h.box).trans h.box, h.eq, ownsRow_putObj h.own o' hD hc, fun t ht => (h.each t ht).keep (by simp) fun k cs hk => ne k cs _ hk⟩
theorem news1 {w : World} {b : Nat} {u : Value} (h : w.cell? ⟨b, 0, none⟩ = some u) : ∀ j x, [u][j]? = some x → w.cell? ((⟨b, 0, none⟩ : Addr).add j) = some x := by
  intro j x hj
  cases j with
  | zero => simp at hj; subst hj; simpa [Addr.add] using h
  | succ j => simp at hj
end Go.Proofs.YtomgnpfpaodpiaaDoor
