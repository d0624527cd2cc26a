/- Contracts of the small functions. -/
import Derived.Test.YtpcajmkmmkmekaaGreatDoorChecked
import Derived.Test.YtpcajmkmmkmekaaGreatDoorGa
import Derived.Test.YtpcajmkmmkmekaaGreatDoorGb
import Derived.WalkSpells
import Derived.WalkSmall
import Derived.Handy
set_option linter.unusedVariables false
set_option linter.unusedSimpArgs false
namespace Go.Proofs.YtpcajmkmmkmekaaGreatDoor
open Go Go.RowKit
set_option maxHeartbeats 400000
theorem meet_any (a b c d : Int) (w : World) :
    Calls Tryz.prog 79 #[.agg #[vi a, vi b], .agg #[vi c, vi d]] w fun e w' => e = .returned (.bool (meetB a b c d)) ∧ Below w.heap.size w w' := by
  go_enter Tryz.func79, Tryz.ntmps79
  go_wp2
  all_goals
    go_ret
    refine ⟨(by first | (simp [meetB, *]; done) | ((simp only [Bool.not_eq_true', Bool.not_eq_false'] at *); simp [meetB, *]; done) | (simp_all [meetB]; done) | (simp [meetB, *]; omega) | (simp [meetB, *]; intros; omega)), ?_⟩
    (repeat (first | exact Below.refl _ _ | refine Below.setCell ?_ (by first | omega | (simp; omega) | (simp; done)) _ | refine Below.alloc ?_ (by first | omega | (simp; omega) | (simp; done)) _ | refine Below.drew ?_ | refine below_drewN ?_ _ | refine Below.trans ?_ (Below.mono (by assumption) (by first | omega | (simp; omega) | (simp; done)))))
theorem covers_any (a b c d : Int) (w : World) :
    Calls Tryz.prog 80 #[.agg #[vi a, vi b], .agg #[vi c, vi d]] w fun e w' => e = .returned (.bool (coverB a b c d)) ∧ Below w.heap.size w w' := by
  go_enter Tryz.func80, Tryz.ntmps80
  go_wp2
  all_goals
    go_ret
    refine ⟨(by first | (simp [coverB, *]; done) | ((simp only [Bool.not_eq_true', Bool.not_eq_false'] at *); simp [coverB, *]; done) | (simp_all [coverB]; done) | (simp [coverB, *]; omega) | (simp [coverB, *]; intros; omega)), ?_⟩
    (repeat (first | exact Below.refl _ _ | refine Below.setCell ?_ (by first | omega | (simp; omega) | (simp; done)) _ | refine Below.alloc ?_ (by first | omega | (simp; omega) | (simp; done)) _ | refine Below.drew ?_ | refine below_drewN ?_ _ | refine Below.trans ?_ (Below.mono (by assumption) (by first | omega | (simp; omega) | (simp; done)))))
theorem oneDay_any (a : Int) (w : World) :
    Calls Tryz.prog 58 #[vi a] w fun e w' => e = .returned (.agg #[vi a, vi a]) ∧ Below w.heap.size w w' := by
  go_enter Tryz.func58, Tryz.ntmps58
  go_wp2
  go_returns
  refine ⟨rfl, ?_⟩
  (repeat (first | exact Below.refl _ _ | refine Below.setCell ?_ (by first | omega | (simp; omega) | (simp; done)) _ | refine Below.alloc ?_ (by first | omega | (simp; omega) | (simp; done)) _ | refine Below.drew ?_ | refine below_drewN ?_ _ | refine Below.trans ?_ (Below.mono (by assumption) (by first | omega | (simp; omega) | (simp; done)))))
theorem to_any (a b : Int) (w : World) :
    Calls Tryz.prog 50 #[vi a, vi b] w fun e w' => e = .returned (.agg #[vi a, vi b]) ∧ Below w.heap.size w w' := by
  go_enter Tryz.func50, Tryz.ntmps50
  go_wp2
  go_returns
  refine ⟨rfl, ?_⟩
  (repeat (first | exact Below.refl _ _ | refine Below.setCell ?_ (by first | omega | (simp; omega) | (simp; done)) _ | refine Below.alloc ?_ (by first | omega | (simp; omega) | (simp; done)) _ | refine Below.drew ?_ | refine below_drewN ?_ _ | refine Below.trans ?_ (Below.mono (by assumption) (by first | omega | (simp; omega) | (simp; done)))))
theorem tween_any (a b c : Int) (w : World) :
    Calls Tryz.prog 36 #[vi a, vi b, vi c] w fun e w' => e = .returned (.bool (decide (b ≤ a) && decide (a ≤ c))) ∧ w = w' := by
  go_enter Tryz.func36, Tryz.ntmps36
  go_wp2
  all_goals
    go_ret
    exact ⟨(by first | (simp [meetB, *]; done) | ((simp only [Bool.not_eq_true', Bool.not_eq_false'] at *); simp [meetB, *]; done) | (simp_all [meetB]; done) | (simp [meetB, *]; omega) | (simp [meetB, *]; intros; omega)), rfl⟩
theorem has_any (a b n : Int) (w : World) :
    Calls Tryz.prog 46 #[.agg #[vi a, vi b], vi n] w fun e w' => e = .returned (.bool (decide (a ≤ n) && decide (n ≤ b))) ∧ Below w.heap.size w w' := by
  go_enter Tryz.func46, Tryz.ntmps46
  go_wp2_with (go_at_call 36; refine (tween_any _ _ _ _).mono ?_; rintro e w1 ⟨rfl, rfl⟩)
  go_ret
  refine ⟨rfl, ?_⟩
  (repeat (first | exact Below.refl _ _ | refine Below.setCell ?_ (by first | omega | (simp; omega) | (simp; done)) _ | refine Below.alloc ?_ (by first | omega | (simp; omega) | (simp; done)) _ | refine Below.drew ?_ | refine below_drewN ?_ _ | refine Below.trans ?_ (Below.mono (by assumption) (by first | omega | (simp; omega) | (simp; done)))))
theorem common_any (a b c d : Int) (w : World) :
    Calls Tryz.prog 33 #[.agg #[vi a, vi b], .agg #[vi c, vi d]] w fun e w' => e = .returned (.agg #[vi (max a c), vi (min b d)]) ∧ Below w.heap.size w w' := by
  go_enter Tryz.func33, Tryz.ntmps33
  go_wp2_with (go_at_call 50; refine (to_any _ _ _).mono ?_; rintro e w1 ⟨rfl, hb1⟩; obtain ⟨⟨hc1, hf1, hs1⟩, hz1⟩ := after hb1; (try simp only [World.size_alloc, World.size_setCell, World.size_drew] at hz1))
  all_goals
    refine bodyPost_ret (v := .agg #[vi _, vi _]) (by simp [results, Tryz.results33, go_sem, hc1]; exact ⟨rfl, rfl⟩) rfl ⟨ret2 (by omega) (by omega), ?_⟩
    (repeat (first | exact Below.refl _ _ | refine Below.setCell ?_ (by first | omega | (simp; omega) | (simp; done)) _ | refine Below.alloc ?_ (by first | omega | (simp; omega) | (simp; done)) _ | refine Below.drew ?_ | refine below_drewN ?_ _ | refine Below.trans ?_ (Below.mono (by assumption) (by first | omega | (simp; omega) | (simp; done)))))
theorem proper_any (a b c d : Int) (w : World) :
    Calls Tryz.prog 37 #[.agg #[vi a, vi b], vi c, vi d] w fun e w' => e = .returned (.bool (decide (c ≤ a) && decide (a ≤ b) && decide (b ≤ d))) ∧ Below w.heap.size w w' := by
  go_enter Tryz.func37, Tryz.ntmps37
  go_wp2
  all_goals
    go_ret
    refine ⟨(by first | (simp [meetB, *]; done) | ((simp only [Bool.not_eq_true', Bool.not_eq_false'] at *); simp [meetB, *]; done) | (simp_all [meetB]; done) | (simp [meetB, *]; omega) | (simp [meetB, *]; intros; omega)), ?_⟩
    (repeat (first | exact Below.refl _ _ | refine Below.setCell ?_ (by first | omega | (simp; omega) | (simp; done)) _ | refine Below.alloc ?_ (by first | omega | (simp; omega) | (simp; done)) _ | refine Below.drew ?_ | refine below_drewN ?_ _ | refine Below.trans ?_ (Below.mono (by assumption) (by first | omega | (simp; omega) | (simp; done)))))
theorem isNumber_any (a : Int) (w : World) :
    Calls Tryz.prog 32 #[vi a] w fun e w' => e = .returned (.bool (decide (1 ≤ a) && decide (a ≤ 9999))) ∧ w = w' := by
  go_enter Tryz.func32, Tryz.ntmps32
  go_wp2_with (go_at_call 36; refine (tween_any _ _ _ _).mono ?_; rintro e w1 ⟨rfl, rfl⟩)
  go_ret
  exact ⟨rfl, rfl⟩
theorem thing_any (a b c : Int) (w : World) :
    Calls Tryz.prog 51 #[vi a, vi b, vi c] w fun e w' => e = .returned (.agg #[vi a, vi b, vi c]) ∧ Below w.heap.size w w' := by
  go_enter Tryz.func51, Tryz.ntmps51
  go_wp2
  go_returns
  refine ⟨rfl, ?_⟩
  (repeat (first | exact Below.refl _ _ | refine Below.setCell ?_ (by first | omega | (simp; omega) | (simp; done)) _ | refine Below.alloc ?_ (by first | omega | (simp; omega) | (simp; done)) _ | refine Below.drew ?_ | refine below_drewN ?_ _ | refine Below.trans ?_ (Below.mono (by assumption) (by first | omega | (simp; omega) | (simp; done)))))
theorem fit_any (a b c d : Int) (w : World) :
    Calls Tryz.prog 77 #[vi a, vi b, vi c, vi d] w fun e w' => e = .returned (.agg #[vi a, vi b, vi c, vi d]) ∧ Below w.heap.size w w' := by
  go_enter Tryz.func77, Tryz.ntmps77
  go_wp2_with (go_at_call 50; refine (to_any _ _ _).mono ?_; rintro e w1 ⟨rfl, hb1⟩; obtain ⟨⟨hc1, hf1, hs1⟩, hz1⟩ := after hb1; (try simp only [World.size_alloc, World.size_setCell, World.size_drew] at hz1))
  refine bodyPost_ret (v := .agg #[vi a, vi b, vi c, vi d]) (by simp [results, Tryz.results77, go_sem, hc1]) rfl ⟨rfl, ?_⟩
  (repeat (first | exact Below.refl _ _ | refine Below.setCell ?_ (by first | omega | (simp; omega) | (simp; done)) _ | refine Below.alloc ?_ (by first | omega | (simp; omega) | (simp; done)) _ | refine Below.drew ?_ | refine below_drewN ?_ _ | refine Below.trans ?_ (Below.mono (by assumption) (by first | omega | (simp; omega) | (simp; done)))))
theorem held_any (x : Issue) (w : World) :
    Calls Tryz.prog 89 #[x.val] w fun e w' => e = .returned (.agg #[vi x.lo, vi x.held]) ∧ Below w.heap.size w w' := by
  go_enter Tryz.func89, Tryz.ntmps89
  go_wp2
  go_returns
  refine ⟨rfl, ?_⟩
  (repeat (first | exact Below.refl _ _ | refine Below.setCell ?_ (by first | omega | (simp; omega) | (simp; done)) _ | refine Below.alloc ?_ (by first | omega | (simp; omega) | (simp; done)) _ | refine Below.drew ?_ | refine below_drewN ?_ _ | refine Below.trans ?_ (Below.mono (by assumption) (by first | omega | (simp; omega) | (simp; done)))))
theorem isInUse_any (x : Issue) (a b : Int) (w : World) :
    Calls Tryz.prog 99 #[x.val, .agg #[vi a, vi b]] w fun e w' => e = .returned (.bool (meetB x.lo x.hi a b)) ∧ Below w.heap.size w w' := by
  go_enter Tryz.func99, Tryz.ntmps99
  go_wp2_with (go_at_call 79; refine (meet_any _ _ _ _ _).mono ?_; rintro e w1 ⟨rfl, hb1⟩; obtain ⟨⟨hc1, hf1, hs1⟩, hz1⟩ := after hb1; (try simp only [World.size_alloc, World.size_setCell, World.size_drew] at hz1))
  go_ret
  refine ⟨rfl, ?_⟩
  (repeat (first | exact Below.refl _ _ | refine Below.setCell ?_ (by first | omega | (simp; omega) | (simp; done)) _ | refine Below.alloc ?_ (by first | omega | (simp; omega) | (simp; done)) _ | refine Below.drew ?_ | refine below_drewN ?_ _ | refine Below.trans ?_ (Below.mono (by assumption) (by first | omega | (simp; omega) | (simp; done)))))
theorem holdsPrices_any (x : Issue) (a b : Int) (w : World) :
    Calls Tryz.prog 82 #[x.val, .agg #[vi a, vi b]] w fun e w' => e = .returned (.bool (meetB x.lo x.held a b)) ∧ Below w.heap.size w w' := by
  go_enter Tryz.func82, Tryz.ntmps82
  go_wp2_with fail
  (refine wp_region_grow_lit (by kernel_rfl) (by kernel_rfl) ?_; (repeat (go_big_quiet_step (first | (go_at_call 79; refine Calls.grow_of (meet_any _ _ _ _ _)) | (go_at_call 89; refine Calls.grow_of (held_any _ _))))); refine wpQuiet_nil ?_; intro w1 hw1; have hb1 := below_of_plus hw1; clear hw1; obtain ⟨⟨hc1, hf1, hs1⟩, hz1⟩ := after hb1; (try simp only [World.size_alloc, World.size_setCell, World.size_drew] at hz1))
  go_wp2
  go_ret
  refine ⟨rfl, ?_⟩
  (repeat (first | exact Below.refl _ _ | refine Below.setCell ?_ (by first | omega | (simp; omega) | (simp; done)) _ | refine Below.alloc ?_ (by first | omega | (simp; omega) | (simp; done)) _ | refine Below.drew ?_ | refine below_drewN ?_ _ | refine Below.trans ?_ (Below.mono (by assumption) (by first | omega | (simp; omega) | (simp; done)))))
theorem isGood_any (r : Rack) (g : Int) (w : World) :
    Calls Tryz.prog 81 #[r.val, vi g] w fun e w' => e = .returned (.bool (goodB r g)) ∧ Below w.heap.size w w' := by
  go_enter Tryz.func81, Tryz.ntmps81
  go_wp2
  all_goals
    go_ret
    refine ⟨(by first | (simp [goodB, *]; done) | ((simp only [Bool.not_eq_true', Bool.not_eq_false'] at *); simp [goodB, *]; done) | (simp_all [goodB]; done) | (simp [goodB, *]; omega) | (simp [goodB, *]; intros; omega)), ?_⟩
    (repeat (first | exact Below.refl _ _ | refine Below.setCell ?_ (by first | omega | (simp; omega) | (simp; done)) _ | refine Below.alloc ?_ (by first | omega | (simp; omega) | (simp; done)) _ | refine Below.drew ?_ | refine below_drewN ?_ _ | refine Below.trans ?_ (Below.mono (by assumption) (by first | omega | (simp; omega) | (simp; done)))))
theorem hasIssue_any (r : Rack) (g : Int) (w : World) :
    Calls Tryz.prog 40 #[r.val, vi g] w fun e w' => e = .returned (.bool (issueB r g)) ∧ Below w.heap.size w w' := by
  go_enter Tryz.func40, Tryz.ntmps40
  go_wp2
  all_goals
    go_ret
    refine ⟨(by first | (simp [issueB, *]; done) | ((simp only [Bool.not_eq_true', Bool.not_eq_false'] at *); simp [issueB, *]; done) | (simp_all [issueB]; done) | (simp [issueB, *]; omega) | (simp [issueB, *]; intros; omega)), ?_⟩
    (repeat (first | exact Below.refl _ _ | refine Below.setCell ?_ (by first | omega | (simp; omega) | (simp; done)) _ | refine Below.alloc ?_ (by first | omega | (simp; omega) | (simp; done)) _ | refine Below.drew ?_ | refine below_drewN ?_ _ | refine Below.trans ?_ (Below.mono (by assumption) (by first | omega | (simp; omega) | (simp; done)))))
theorem within_any (k n : Int) (w : World) (h0 : 0 ≤ k) (hk : k < 12) (hl : Lim w) :
    Calls Tryz.prog 28 #[vi k, vi n] w fun e w' => e = .returned (.bool (limB k n)) ∧ Below w.heap.size w w' := by
  obtain ⟨k, rfl⟩ := Int.eq_ofNat_of_zero_le h0
  have h0 := hl.lo k (by omega)
  have h1 := hl.hi k (by omega)
  go_enter Tryz.func28, Tryz.ntmps28
  go_wp2
  all_goals
    go_ret
    exact ⟨(by first | (simp [limB, *]; done) | ((simp only [Bool.not_eq_true', Bool.not_eq_false'] at *); simp [limB, *]; done) | (simp_all [limB]; done) | (simp [limB, *]; omega) | (simp [limB, *]; intros; omega)), Below.refl _ _⟩
theorem spanWithin_any (k a b : Int) (w : World) (h0 : 0 ≤ k) (hk : k < 12) (hl : Lim w) :
    Calls Tryz.prog 27 #[vi k, .agg #[vi a, vi b]] w fun e w' => e = .returned (.bool (limS k a b)) ∧ Below w.heap.size w w' := by
  go_enter Tryz.func27, Tryz.ntmps27
  go_wp2_with (go_at_call 28; refine (within_any _ _ _ h0 hk (by repeat (first | assumption | refine Lim.alloc ?_ _ | refine Lim.setCell ?_ (by first | (simp; done) | (simp; omega) | omega) _ | refine Lim.drew ?_))).mono ?_; rintro e w1 ⟨rfl, hb1⟩; obtain ⟨⟨hc1, hf1, hs1⟩, hz1⟩ := after hb1; (try simp only [World.size_alloc, World.size_setCell, World.size_drew] at hz1); have hl1 : Lim w1 := Lim.next (by repeat (first | assumption | refine Lim.alloc ?_ _ | refine Lim.setCell ?_ (by first | (simp; done) | (simp; omega) | omega) _ | refine Lim.drew ?_)) hb1)
  all_goals
    go_ret
    refine ⟨(by first | (simp [limS, *]; done) | ((simp only [Bool.not_eq_true', Bool.not_eq_false'] at *); simp [limS, *]; done) | (simp_all [limS]; done) | (simp [limS, *]; omega) | (simp [limS, *]; intros; omega)), ?_⟩
    (repeat (first | exact Below.refl _ _ | refine Below.setCell ?_ (by first | omega | (simp; omega) | (simp; done)) _ | refine Below.alloc ?_ (by first | omega | (simp; omega) | (simp; done)) _ | refine Below.drew ?_ | refine below_drewN ?_ _ | refine Below.trans ?_ (Below.mono (by assumption) (by first | omega | (simp; omega) | (simp; done)))))
theorem isItem_any (r : Rack) (x : Item) (w : World) (hl : Lim w) :
    Calls Tryz.prog 55 #[r.val, x.val] w fun e w' => e = .returned (.bool (itemB r x)) ∧ Below w.heap.size w w' := by
  go_enter Tryz.func55, Tryz.ntmps55
  go_wp2_with (first | (go_at_call 28; refine (within_any _ _ _ (by omega) (by omega) (by repeat (first | assumption | refine Lim.alloc ?_ _ | refine Lim.setCell ?_ (by first | (simp; done) | (simp; omega) | omega) _ | refine Lim.drew ?_))).mono ?_; rintro e w1 ⟨rfl, hb1⟩; obtain ⟨⟨hc1, hf1, hs1⟩, hz1⟩ := after hb1; (try simp only [World.size_alloc, World.size_setCell, World.size_drew] at hz1); have hl1 : Lim w1 := Lim.next (by repeat (first | assumption | refine Lim.alloc ?_ _ | refine Lim.setCell ?_ (by first | (simp; done) | (simp; omega) | omega) _ | refine Lim.drew ?_)) hb1) | (go_at_call 81; refine (isGood_any _ _ _).mono ?_; rintro e w1 ⟨rfl, hb1⟩; obtain ⟨⟨hc1, hf1, hs1⟩, hz1⟩ := after hb1; (try simp only [World.size_alloc, World.size_setCell, World.size_drew] at hz1); have hl1 : Lim w1 := Lim.next (by repeat (first | assumption | refine Lim.alloc ?_ _ | refine Lim.setCell ?_ (by first | (simp; done) | (simp; omega) | omega) _ | refine Lim.drew ?_)) hb1))
  all_goals
    go_ret
    refine ⟨(by first | (simp [itemB, *]; done) | ((simp only [Bool.not_eq_true', Bool.not_eq_false'] at *); simp [itemB, *]; done) | (simp_all [itemB]; done) | (simp [itemB, *]; omega) | (simp [itemB, *]; intros; omega)), ?_⟩
    (repeat (first | exact Below.refl _ _ | refine Below.setCell ?_ (by first | omega | (simp; omega) | (simp; done)) _ | refine Below.alloc ?_ (by first | omega | (simp; omega) | (simp; done)) _ | refine Below.drew ?_ | refine below_drewN ?_ _ | refine Below.trans ?_ (Below.mono (by assumption) (by first | omega | (simp; omega) | (simp; done)))))
theorem in_any (s k : Int) (w : World) (h0 : 0 ≤ k) (h1 : k < 4) :
    Calls Tryz.prog 85 #[vi s, vi k] w fun e w' => e = .returned (.bool (hasColour s k)) ∧ w = w' := by
  obtain rfl | rfl | rfl | rfl : k = 0 ∨ k = 1 ∨ k = 2 ∨ k = 3 := by omega
  all_goals
    go_enter Tryz.func85, Tryz.ntmps85
    go_wp2
    go_ret
    exact ⟨retB (by first | exact (hasColour0 s).symm | exact (hasColour1 s).symm | exact (hasColour2 s).symm | exact (hasColour3 s).symm), rfl⟩
theorem coloursOf_any (s : Int) (w : World) :
    Calls Tryz.prog 84 #[vi s] w fun e w' => e = .returned (coloursV s) ∧ Below w.heap.size w w' := by
  go_enter Tryz.func84, Tryz.ntmps84
  go_wp2
  go_rounds 5
  go_returns
  refine ⟨by rw [coloursV, hasColour0, hasColour1, hasColour2, hasColour3], ?_⟩
  (repeat (first | exact Below.refl _ _ | refine Below.setCell ?_ (by first | omega | (simp; omega) | (simp; done)) _ | refine Below.alloc ?_ (by first | omega | (simp; omega) | (simp; done)) _ | refine Below.drew ?_ | refine below_drewN ?_ _ | refine Below.trans ?_ (Below.mono (by assumption) (by first | omega | (simp; omega) | (simp; done)))))
theorem neq4 (a b c d : Bool) (w : World) : (binOp .neq 134 (.agg #[.bool a, .bool b, .bool c, .bool d]) (.agg #[.bool false, .bool false, .bool false, .bool false])).run Tryz.prog w = .ok (.bool (a || b || c || d)) w := by
  cases a <;> cases b <;> cases c <;> cases d <;> kernel_rfl
theorem isColourSet_any (s : Int) (w : World) :
    Calls Tryz.prog 100 #[vi s] w fun e w' => e = .returned (.bool (setB s)) ∧ Below w.heap.size w w' := by
  have hne := neq4 (hasColour s 0) (hasColour s 1) (hasColour s 2) (hasColour s 3)
  go_enter Tryz.func100, Tryz.ntmps100
  go_wp2_with (go_at_call 84; refine (coloursOf_any _ _).mono ?_; rintro e w1 ⟨rfl, hb1⟩; obtain ⟨⟨hc1, hf1, hs1⟩, hz1⟩ := after hb1; (try simp only [World.size_alloc, World.size_setCell, World.size_drew] at hz1))
  all_goals
    go_ret
    refine ⟨by first | rfl | (simp [setB, *]; done), ?_⟩
    (repeat (first | exact Below.refl _ _ | refine Below.setCell ?_ (by first | omega | (simp; omega) | (simp; done)) _ | refine Below.alloc ?_ (by first | omega | (simp; omega) | (simp; done)) _ | refine Below.drew ?_ | refine below_drewN ?_ _ | refine Below.trans ?_ (Below.mono (by assumption) (by first | omega | (simp; omega) | (simp; done)))))
end Go.Proofs.YtpcajmkmmkmekaaGreatDoor

/- Contracts of the loops that check a rack. -/
namespace Go.Proofs.YtpcajmkmmkmekaaGreatDoor
open Go Go.RowKit
set_option maxHeartbeats 1000000
theorem areFits_any (A : Option Addr) (cap : Nat) (l : List Fit) (w : World) (hl : Lim w) (h : FitsAt w w.heap.size A cap l) :
    Calls Tryz.prog 101 #[.slice A l.length cap] w fun e w' => e = .returned (.bool (fitsB l)) ∧ Below w.heap.size w w' := by
  have hcap := h.cap
  have hlen := h.len
  rcases h5 : limB 5 l.length with _ | _
  · go_enter Tryz.func101, Tryz.ntmps101
    go_wp2_with (go_at_call 28; refine (within_any _ _ _ (by omega) (by omega) (by repeat (first | assumption | refine Lim.alloc ?_ _ | refine Lim.setCell ?_ (by first | (simp; done) | (simp; omega) | omega) _ | refine Lim.drew ?_))).mono ?_; rintro e w1 ⟨rfl, hb1⟩; obtain ⟨⟨hc1, hf1, hs1⟩, hz1⟩ := after hb1; (try simp only [World.size_alloc, World.size_setCell, World.size_drew] at hz1); have hl1 : Lim w1 := Lim.next (by repeat (first | assumption | refine Lim.alloc ?_ _ | refine Lim.setCell ?_ (by first | (simp; done) | (simp; omega) | omega) _ | refine Lim.drew ?_)) hb1)
    go_ret
    refine ⟨retB (by simp [fitsB, h5]), ?_⟩
    (repeat (first | exact Below.refl _ _ | refine Below.setCell ?_ (by first | omega | (simp; omega) | (simp; done)) _ | refine Below.alloc ?_ (by first | omega | (simp; omega) | (simp; done)) _ | refine Below.drew ?_ | refine below_drewN ?_ _ | refine Below.trans ?_ (Below.mono (by assumption) (by first | omega | (simp; omega) | (simp; done)))))
  · go_enter Tryz.func101, Tryz.ntmps101
    go_wp2_with (go_at_call 28; refine (within_any _ _ _ (by omega) (by omega) (by repeat (first | assumption | refine Lim.alloc ?_ _ | refine Lim.setCell ?_ (by first | (simp; done) | (simp; omega) | omega) _ | refine Lim.drew ?_))).mono ?_; rintro e w1 ⟨rfl, hb1⟩; obtain ⟨⟨hc1, hf1, hs1⟩, hz1⟩ := after hb1; (try simp only [World.size_alloc, World.size_setCell, World.size_drew] at hz1); have hl1 : Lim w1 := Lim.next (by repeat (first | assumption | refine Lim.alloc ?_ _ | refine Lim.setCell ?_ (by first | (simp; done) | (simp; omega) | omega) _ | refine Lim.drew ?_)) hb1)
    go_loopw [11] (fun i wr => ∃ k : Nat, k ≤ l.length ∧ i = .int .i64 k ∧ Below w.heap.size w wr ∧ Hid (∀ j, j < k → goodFit l j = true)) (fun i _ => l.length - (intOf i).toNat)
    case atStart => exact ⟨0, Nat.zero_le _, rfl, hb1, fun j hj => absurd hj (by omega)⟩
    case round =>
      obtain ⟨k, hk, rfl, hB, hgood⟩ := hrel
      have hbs := hB.size
      clear hb1 hz1 hc1 hf1 hs1 hl1
      by_cases hlt : k < l.length
      · obtain ⟨x, hx⟩ : ∃ x, l[k]? = some x := ⟨_, List.getElem?_eq_getElem hlt⟩
        have hlr : Lim wr := hl.below hl.pos hB
        rcases Nat.eq_zero_or_pos k with rfl | hk0
        · obtain ⟨b, off, rfl, hb, c0, c1, c2, c3⟩ := row4 (h.below hB).row hx rfl
          simp only [Nat.zero_mul, Nat.add_zero] at c0 c1 c2 c3
          have G := Lib.hid (goodFit0 hx)
          clear hx
          go_wp2_with (first | (go_at_call 28; refine (within_any _ _ _ (by omega) (by omega) (by repeat (first | assumption | refine Lim.alloc ?_ _ | refine Lim.setCell ?_ (by first | (simp; done) | (simp; omega) | omega) _ | refine Lim.drew ?_))).mono ?_; rintro e w1 ⟨rfl, hb1⟩; obtain ⟨⟨hc1, hf1, hs1⟩, hz1⟩ := after hb1; (try simp only [World.size_alloc, World.size_setCell, World.size_drew] at hz1); have hl1 : Lim w1 := Lim.next (by repeat (first | assumption | refine Lim.alloc ?_ _ | refine Lim.setCell ?_ (by first | (simp; done) | (simp; omega) | omega) _ | refine Lim.drew ?_)) hb1; have hq1 : wr.heap.size < w1.heap.size := (by omega)) | (go_at_call 27; refine (spanWithin_any _ _ _ _ (by omega) (by omega) (by repeat (first | assumption | refine Lim.alloc ?_ _ | refine Lim.setCell ?_ (by first | (simp; done) | (simp; omega) | omega) _ | refine Lim.drew ?_))).mono ?_; rintro e w1 ⟨rfl, hb1⟩; obtain ⟨⟨hc1, hf1, hs1⟩, hz1⟩ := after hb1; (try simp only [World.size_alloc, World.size_setCell, World.size_drew] at hz1); have hl1 : Lim w1 := Lim.next (by repeat (first | assumption | refine Lim.alloc ?_ _ | refine Lim.setCell ?_ (by first | (simp; done) | (simp; omega) | omega) _ | refine Lim.drew ?_)) hb1; have hq1 : wr.heap.size < w1.heap.size := (by omega)))
          all_goals first
            | (go_ret; refine ⟨retB (all_no hlt (G.out.trans (by first | (simp [fitB, *]; done) | ((simp only [Bool.not_eq_true', Bool.not_eq_false'] at *); simp [fitB, *]; done) | (simp_all [fitB]; done) | (simp [fitB, *]; omega) | (simp [fitB, *]; intros; omega)))).symm, ?_⟩; (repeat (first | exact Below.refl _ _ | refine Below.setCell ?_ (by first | omega | (simp; omega) | (simp; done)) _ | refine Below.alloc ?_ (by first | omega | (simp; omega) | (simp; done)) _ | refine Below.drew ?_ | refine below_drewN ?_ _ | refine Below.trans ?_ (Below.mono (by assumption) (by first | omega | (simp; omega) | (simp; done))))); done)
            | ((refine wp_region_grow_lit (by kernel_rfl) (by kernel_rfl) ?_; (repeat (go_big_quiet_step (fail))); refine wpQuiet_nil ?_; intro w1 hw1; have hb1 := below_of_plus hw1; clear hw1; obtain ⟨⟨hc1, hf1, hs1⟩, hz1⟩ := after hb1; (try simp only [World.size_alloc, World.size_setCell, World.size_drew] at hz1); have hl1 : Lim w1 := Lim.next (by repeat (first | assumption | refine Lim.alloc ?_ _ | refine Lim.setCell ?_ (by first | (simp; done) | (simp; omega) | omega) _ | refine Lim.drew ?_)) hb1); go_wp2)
          go_roundw
          case rel => exact ⟨1, by omega, by go_num, (by (repeat (first | exact Below.refl _ _ | refine Below.setCell ?_ (by first | omega | (simp; omega) | (simp; done)) _ | refine Below.alloc ?_ (by first | omega | (simp; omega) | (simp; done)) _ | refine Below.drew ?_ | refine below_drewN ?_ _ | refine Below.trans ?_ (Below.mono (by assumption) (by first | omega | (simp; omega) | (simp; done)))))), upto_succ hgood.out (G.out.trans (by first | (simp [fitB, *]; done) | ((simp only [Bool.not_eq_true', Bool.not_eq_false'] at *); simp [fitB, *]; done) | (simp_all [fitB]; done) | (simp [fitB, *]; omega) | (simp [fitB, *]; intros; omega)))⟩
          case measure => simp [intOf]; omega
        · obtain ⟨m, rfl⟩ : ∃ m, k = m + 1 := ⟨k - 1, by omega⟩
          obtain ⟨y, hy⟩ : ∃ y, l[m]? = some y := ⟨_, List.getElem?_eq_getElem (by omega)⟩
          obtain ⟨b, off, rfl, hb, c0, c1, c2, c3⟩ := row4 (h.below hB).row hx rfl
          have G := Lib.hid (goodFit1 hx hy)
          have Hy := Lib.hid hy
          clear hx hy
          go_wp2_with (first | (go_at_call 28; refine (within_any _ _ _ (by omega) (by omega) (by repeat (first | assumption | refine Lim.alloc ?_ _ | refine Lim.setCell ?_ (by first | (simp; done) | (simp; omega) | omega) _ | refine Lim.drew ?_))).mono ?_; rintro e w1 ⟨rfl, hb1⟩; obtain ⟨⟨hc1, hf1, hs1⟩, hz1⟩ := after hb1; (try simp only [World.size_alloc, World.size_setCell, World.size_drew] at hz1); have hl1 : Lim w1 := Lim.next (by repeat (first | assumption | refine Lim.alloc ?_ _ | refine Lim.setCell ?_ (by first | (simp; done) | (simp; omega) | omega) _ | refine Lim.drew ?_)) hb1; have hq1 : wr.heap.size < w1.heap.size := (by omega)) | (go_at_call 27; refine (spanWithin_any _ _ _ _ (by omega) (by omega) (by repeat (first | assumption | refine Lim.alloc ?_ _ | refine Lim.setCell ?_ (by first | (simp; done) | (simp; omega) | omega) _ | refine Lim.drew ?_))).mono ?_; rintro e w1 ⟨rfl, hb1⟩; obtain ⟨⟨hc1, hf1, hs1⟩, hz1⟩ := after hb1; (try simp only [World.size_alloc, World.size_setCell, World.size_drew] at hz1); have hl1 : Lim w1 := Lim.next (by repeat (first | assumption | refine Lim.alloc ?_ _ | refine Lim.setCell ?_ (by first | (simp; done) | (simp; omega) | omega) _ | refine Lim.drew ?_)) hb1; have hq1 : wr.heap.size < w1.heap.size := (by omega)))
          all_goals first
            | (go_ret; refine ⟨retB (all_no hlt (G.out.trans (by first | (simp [fitB, *]; done) | ((simp only [Bool.not_eq_true', Bool.not_eq_false'] at *); simp [fitB, *]; done) | (simp_all [fitB]; done) | (simp [fitB, *]; omega) | (simp [fitB, *]; intros; omega)))).symm, ?_⟩; (repeat (first | exact Below.refl _ _ | refine Below.setCell ?_ (by first | omega | (simp; omega) | (simp; done)) _ | refine Below.alloc ?_ (by first | omega | (simp; omega) | (simp; done)) _ | refine Below.drew ?_ | refine below_drewN ?_ _ | refine Below.trans ?_ (Below.mono (by assumption) (by first | omega | (simp; omega) | (simp; done))))); done)
            | skip
          have hgt : (0 : Int) < (m : Int) + 1 := by omega
          have hm : (m + 1 : Int) - 1 = m := by omega
          have HB : Below w.heap.size w w1 := by (repeat (first | exact Below.refl _ _ | refine Below.setCell ?_ (by first | omega | (simp; omega) | (simp; done)) _ | refine Below.alloc ?_ (by first | omega | (simp; omega) | (simp; done)) _ | refine Below.drew ?_ | refine below_drewN ?_ _ | refine Below.trans ?_ (Below.mono (by assumption) (by first | omega | (simp; omega) | (simp; done)))))
          obtain ⟨b', off', he, _, d0, _⟩ := row4 (h.below HB).row Hy.out rfl
          obtain ⟨rfl, rfl⟩ : b = b' ∧ off = off' := by simpa using he
          have hq2 : b < w1.heap.size := by omega
          clear he
          (refine wp_region_grow_lit (by kernel_rfl) (by kernel_rfl) ?_; (repeat (go_big_quiet_step (fail))); refine wpQuiet_nil ?_; intro w1 hw1; have hb1 := below_of_plus hw1; clear hw1; obtain ⟨⟨hc1, hf1, hs1⟩, hz1⟩ := after hb1; (try simp only [World.size_alloc, World.size_setCell, World.size_drew] at hz1); have hl1 : Lim w1 := Lim.next (by repeat (first | assumption | refine Lim.alloc ?_ _ | refine Lim.setCell ?_ (by first | (simp; done) | (simp; omega) | omega) _ | refine Lim.drew ?_)) hb1)
          go_wp2
          · go_ret
            refine ⟨retB (all_no hlt (G.out.trans (by first | (simp [fitB, *]; done) | ((simp only [Bool.not_eq_true', Bool.not_eq_false'] at *); simp [fitB, *]; done) | (simp_all [fitB]; done) | (simp [fitB, *]; omega) | (simp [fitB, *]; intros; omega)))).symm, ?_⟩
            (repeat (first | exact Below.refl _ _ | refine Below.setCell ?_ (by first | omega | (simp; omega) | (simp; done)) _ | refine Below.alloc ?_ (by first | omega | (simp; omega) | (simp; done)) _ | refine Below.drew ?_ | refine below_drewN ?_ _ | refine Below.trans ?_ (Below.mono (by assumption) (by first | omega | (simp; omega) | (simp; done)))))
          · go_roundw
            case rel => exact ⟨m + 2, by omega, by go_num, (by (repeat (first | exact Below.refl _ _ | refine Below.setCell ?_ (by first | omega | (simp; omega) | (simp; done)) _ | refine Below.alloc ?_ (by first | omega | (simp; omega) | (simp; done)) _ | refine Below.drew ?_ | refine below_drewN ?_ _ | refine Below.trans ?_ (Below.mono (by assumption) (by first | omega | (simp; omega) | (simp; done)))))), upto_succ hgood.out (G.out.trans (by first | (simp [fitB, *]; done) | ((simp only [Bool.not_eq_true', Bool.not_eq_false'] at *); simp [fitB, *]; done) | (simp_all [fitB]; done) | (simp [fitB, *]; omega) | (simp [fitB, *]; intros; omega)))⟩
            case measure => simp [intOf]; omega
      · go_wp2
        go_ret
        refine ⟨retB (all_yes h5 fun j hj => hgood.out j (by omega)).symm, hB⟩
theorem isEntry_any (r : Rack) (e : Entry) (w : World) (hl : Lim w) (h : EntryAt w w.heap.size e) :
    Calls Tryz.prog 90 #[r.val, e.val] w fun e' w' => e' = .returned (.bool (entryB r e)) ∧ Below w.heap.size w w' := by
  go_enter Tryz.func90, Tryz.ntmps90
  go_wp2_with (first | (go_at_call 28; refine (within_any _ _ _ (by omega) (by omega) (by repeat (first | assumption | refine Lim.alloc ?_ _ | refine Lim.setCell ?_ (by first | (simp; done) | (simp; omega) | omega) _ | refine Lim.drew ?_))).mono ?_; rintro e w1 ⟨rfl, hb1⟩; obtain ⟨⟨hc1, hf1, hs1⟩, hz1⟩ := after hb1; (try simp only [World.size_alloc, World.size_setCell, World.size_drew] at hz1); have hl1 : Lim w1 := Lim.next (by repeat (first | assumption | refine Lim.alloc ?_ _ | refine Lim.setCell ?_ (by first | (simp; done) | (simp; omega) | omega) _ | refine Lim.drew ?_)) hb1; have hq1 : w.heap.size + 1 < w1.heap.size := (by omega)) | (go_at_call 81; refine (isGood_any _ _ _).mono ?_; rintro e w1 ⟨rfl, hb1⟩; obtain ⟨⟨hc1, hf1, hs1⟩, hz1⟩ := after hb1; (try simp only [World.size_alloc, World.size_setCell, World.size_drew] at hz1); have hl1 : Lim w1 := Lim.next (by repeat (first | assumption | refine Lim.alloc ?_ _ | refine Lim.setCell ?_ (by first | (simp; done) | (simp; omega) | omega) _ | refine Lim.drew ?_)) hb1; have hq1 : w.heap.size + 1 < w1.heap.size := (by omega)) | (go_at_call 100; refine (isColourSet_any _ _).mono ?_; rintro e w1 ⟨rfl, hb1⟩; obtain ⟨⟨hc1, hf1, hs1⟩, hz1⟩ := after hb1; (try simp only [World.size_alloc, World.size_setCell, World.size_drew] at hz1); have hl1 : Lim w1 := Lim.next (by repeat (first | assumption | refine Lim.alloc ?_ _ | refine Lim.setCell ?_ (by first | (simp; done) | (simp; omega) | omega) _ | refine Lim.drew ?_)) hb1; have hq1 : w.heap.size + 1 < w1.heap.size := (by omega)) | (go_at_call 101; refine (areFits_any _ _ _ _ (by assumption) ((FitsAt.below h (by (repeat (first | exact Below.refl _ _ | refine Below.setCell ?_ (by first | omega | (simp; omega) | (simp; done)) _ | refine Below.alloc ?_ (by first | omega | (simp; omega) | (simp; done)) _ | refine Below.drew ?_ | refine below_drewN ?_ _ | refine Below.trans ?_ (Below.mono (by assumption) (by first | omega | (simp; omega) | (simp; done))))))).more (by omega))).mono ?_; rintro e' w1 ⟨rfl, hb1⟩; obtain ⟨⟨hc1, hf1, hs1⟩, hz1⟩ := after hb1))
  all_goals
    go_ret
    refine ⟨retB (by first | (simp [entryB, *]; done) | ((simp only [Bool.not_eq_true', Bool.not_eq_false'] at *); simp [entryB, *]; done) | (simp_all [entryB]; done) | (simp [entryB, *]; omega) | (simp [entryB, *]; intros; omega)), ?_⟩
    (repeat (first | exact Below.refl _ _ | refine Below.setCell ?_ (by first | omega | (simp; omega) | (simp; done)) _ | refine Below.alloc ?_ (by first | omega | (simp; omega) | (simp; done)) _ | refine Below.drew ?_ | refine below_drewN ?_ _ | refine Below.trans ?_ (Below.mono (by assumption) (by first | omega | (simp; omega) | (simp; done)))))
end Go.Proofs.YtpcajmkmmkmekaaGreatDoor

/- Contracts of the checks of a book and of a rack. -/
namespace Go.Proofs.YtpcajmkmmkmekaaGreatDoor
open Go Go.RowKit
set_option maxHeartbeats 1000000
theorem isRepeated_any (A : Option Addr) (cap : Nat) (l : List Entry) (e : Entry) (w : World) (h : EntriesAt w w.heap.size A cap l) :
    Calls Tryz.prog 91 #[.slice A l.length cap, e.val] w fun e' w' => e' = .returned (.bool (repB l e)) ∧ Below w.heap.size w w' := by
  have hcap := h.cap
  have hlen := h.len
  go_enter Tryz.func91, Tryz.ntmps91
  go_wp2
  go_loopw [9] (fun i wr => ∃ k : Nat, k ≤ l.length ∧ i = .int .i64 k ∧ Below w.heap.size w wr ∧ (wr.cell? ⟨w.heap.size, 0, none⟩ = some (vi e.number) ∧ wr.cell? ⟨w.heap.size, 1, none⟩ = some (vi e.good) ∧ w.heap.size < wr.heap.size) ∧ Hid (∀ j o, j < k → l[j]? = some o → sameB e o = false)) (fun i _ => l.length - (intOf i).toNat)
  case atStart => exact ⟨0, Nat.zero_le _, rfl, by (repeat (first | exact Below.refl _ _ | refine Below.setCell ?_ (by first | omega | (simp; omega) | (simp; done)) _ | refine Below.alloc ?_ (by first | omega | (simp; omega) | (simp; done)) _ | refine Below.drew ?_ | refine below_drewN ?_ _ | refine Below.trans ?_ (Below.mono (by assumption) (by first | omega | (simp; omega) | (simp; done))))), ⟨by simp [go_sem], by simp [go_sem], by simp⟩, fun j o hj => absurd hj (by omega)⟩
  case round =>
    obtain ⟨k, hk, rfl, hB, ⟨e0, e1, hsz⟩, hno⟩ := hrel
    have hbs := hB.size
    by_cases hlt : k < l.length
    · obtain ⟨x, hx⟩ : ∃ x, l[k]? = some x := ⟨_, List.getElem?_eq_getElem hlt⟩
      obtain ⟨b, off, rfl, hb, c0, c1, c2, c3⟩ := row4 (h.below hB).row hx rfl
      have Hx := Lib.hid hx
      clear hx
      go_wp2
      all_goals first
        | (go_ret; refine ⟨retB (repB_yes Hx.out (by first | (simp [sameB, *]; done) | ((simp only [Bool.not_eq_true', Bool.not_eq_false'] at *); simp [sameB, *]; done) | (simp_all [sameB]; done) | (simp [sameB, *]; omega) | (simp [sameB, *]; intros; omega))).symm, ?_⟩; (repeat (first | exact Below.refl _ _ | refine Below.setCell ?_ (by first | omega | (simp; omega) | (simp; done)) _ | refine Below.alloc ?_ (by first | omega | (simp; omega) | (simp; done)) _ | refine Below.drew ?_ | refine below_drewN ?_ _ | refine Below.trans ?_ (Below.mono (by assumption) (by first | omega | (simp; omega) | (simp; done))))); done)
        | (go_roundw; case rel => exact ⟨k + 1, by omega, by go_num, (by (repeat (first | exact Below.refl _ _ | refine Below.setCell ?_ (by first | omega | (simp; omega) | (simp; done)) _ | refine Below.alloc ?_ (by first | omega | (simp; omega) | (simp; done)) _ | refine Below.drew ?_ | refine below_drewN ?_ _ | refine Below.trans ?_ (Below.mono (by assumption) (by first | omega | (simp; omega) | (simp; done)))))), ⟨by go_cell, by go_cell, by simp; omega⟩, fun j o hj ho => by
            rcases Nat.lt_succ_iff_lt_or_eq.1 hj with h1 | rfl
            · exact hno.out j o h1 ho
            · obtain rfl : o = x := by simpa using ho.symm.trans Hx.out
              exact (by first | (simp [sameB, *]; done) | ((simp only [Bool.not_eq_true', Bool.not_eq_false'] at *); simp [sameB, *]; done) | (simp_all [sameB]; done) | (simp [sameB, *]; omega) | (simp [sameB, *]; intros; omega))⟩
           case measure => simp [intOf]; omega)
    · go_wp2
      go_ret
      refine ⟨retB (repB_no fun j o ho => hno.out j o (by have := (List.getElem?_eq_some_iff.1 ho).1; omega) ho).symm, hB⟩
theorem isRepeated_take (A : Option Addr) (cap c k : Nat) (l : List Entry) (e : Entry) (w : World) (h : EntriesAt w w.heap.size A cap l) (hk : k ≤ l.length) (hc : k ≤ c) (hc' : c ≤ cap) :
    Calls Tryz.prog 91 #[.slice A k c, e.val] w fun e' w' => e' = .returned (.bool (repB (l.take k) e)) ∧ Below w.heap.size w w' := by
  have := isRepeated_any A c (l.take k) e w (h.take k c hc hc')
  rwa [List.length_take, Nat.min_eq_left hk] at this
theorem headB_yes {x : Issue} (h : headB x = true) : limS 3 x.lo x.hi = true ∧ limS 3 x.lo x.held = true ∧ limB 2 x.entries.length = true := by
  simpa [headB] using h
theorem isCatalogue_any (r : Rack) (x : Issue) (w : World) (hl : Lim w) (h : IssueAt w w.heap.size x) :
    Calls Tryz.prog 71 #[r.val, x.val] w fun e' w' => e' = .returned (.bool (catB r x)) ∧ Below w.heap.size w w' := by
  obtain ⟨xlo, xhi, xheld, A, cap, l⟩ := x
  have hcap := EntriesAt.cap h
  have hlen := EntriesAt.len h
  show Calls Tryz.prog 71 #[r.val, .agg #[vi xlo, vi xhi, vi xheld, .slice A l.length cap]] w _
  rcases hd : headB ⟨xlo, xhi, xheld, A, cap, l⟩ with _ | _
  · have Hd := Lib.hid hd
    clear hd
    go_enter Tryz.func71, Tryz.ntmps71
    go_wp2_with (first | (go_at_call 28; refine (within_any _ _ _ (by omega) (by omega) (by repeat (first | assumption | refine Lim.alloc ?_ _ | refine Lim.setCell ?_ (by first | (simp; done) | (simp; omega) | omega) _ | refine Lim.drew ?_))).mono ?_; rintro e w1 ⟨rfl, hb1⟩; obtain ⟨⟨hc1, hf1, hs1⟩, hz1⟩ := after hb1; (try simp only [World.size_alloc, World.size_setCell, World.size_drew] at hz1); have hl1 : Lim w1 := Lim.next (by repeat (first | assumption | refine Lim.alloc ?_ _ | refine Lim.setCell ?_ (by first | (simp; done) | (simp; omega) | omega) _ | refine Lim.drew ?_)) hb1; have hq1 : w.heap.size + 1 < w1.heap.size := (by omega)) | (go_at_call 27; refine (spanWithin_any _ _ _ _ (by omega) (by omega) (by repeat (first | assumption | refine Lim.alloc ?_ _ | refine Lim.setCell ?_ (by first | (simp; done) | (simp; omega) | omega) _ | refine Lim.drew ?_))).mono ?_; rintro e w1 ⟨rfl, hb1⟩; obtain ⟨⟨hc1, hf1, hs1⟩, hz1⟩ := after hb1; (try simp only [World.size_alloc, World.size_setCell, World.size_drew] at hz1); have hl1 : Lim w1 := Lim.next (by repeat (first | assumption | refine Lim.alloc ?_ _ | refine Lim.setCell ?_ (by first | (simp; done) | (simp; omega) | omega) _ | refine Lim.drew ?_)) hb1; have hq1 : w.heap.size + 1 < w1.heap.size := (by omega)) | (go_at_call 89; refine (held_any ⟨xlo, xhi, xheld, A, cap, l⟩ _).mono ?_; rintro e w1 ⟨rfl, hb1⟩; obtain ⟨⟨hc1, hf1, hs1⟩, hz1⟩ := after hb1; (try simp only [World.size_alloc, World.size_setCell, World.size_drew] at hz1); have hl1 : Lim w1 := Lim.next (by repeat (first | assumption | refine Lim.alloc ?_ _ | refine Lim.setCell ?_ (by first | (simp; done) | (simp; omega) | omega) _ | refine Lim.drew ?_)) hb1; have hq1 : w.heap.size + 1 < w1.heap.size := (by omega)))
    all_goals first
      | (go_ret; refine ⟨retB (by simp [catB, Hd.out]), ?_⟩; (repeat (first | exact Below.refl _ _ | refine Below.setCell ?_ (by first | omega | (simp; omega) | (simp; done)) _ | refine Below.alloc ?_ (by first | omega | (simp; omega) | (simp; done)) _ | refine Below.drew ?_ | refine below_drewN ?_ _ | refine Below.trans ?_ (Below.mono (by assumption) (by first | omega | (simp; omega) | (simp; done))))); done)
      | (exfalso; have hd := Hd.out; simp_all [headB]; done)
  · obtain ⟨h1, h2, h3⟩ := headB_yes hd
    have Hd := Lib.hid hd
    clear hd
    go_enter Tryz.func71, Tryz.ntmps71
    go_wp2_with (first | (go_at_call 28; refine (within_any _ _ _ (by omega) (by omega) (by repeat (first | assumption | refine Lim.alloc ?_ _ | refine Lim.setCell ?_ (by first | (simp; done) | (simp; omega) | omega) _ | refine Lim.drew ?_))).mono ?_; rintro e w1 ⟨rfl, hb1⟩; obtain ⟨⟨hc1, hf1, hs1⟩, hz1⟩ := after hb1; (try simp only [World.size_alloc, World.size_setCell, World.size_drew] at hz1); have hl1 : Lim w1 := Lim.next (by repeat (first | assumption | refine Lim.alloc ?_ _ | refine Lim.setCell ?_ (by first | (simp; done) | (simp; omega) | omega) _ | refine Lim.drew ?_)) hb1; have hq1 : w.heap.size + 1 < w1.heap.size := (by omega)) | (go_at_call 27; refine (spanWithin_any _ _ _ _ (by omega) (by omega) (by repeat (first | assumption | refine Lim.alloc ?_ _ | refine Lim.setCell ?_ (by first | (simp; done) | (simp; omega) | omega) _ | refine Lim.drew ?_))).mono ?_; rintro e w1 ⟨rfl, hb1⟩; obtain ⟨⟨hc1, hf1, hs1⟩, hz1⟩ := after hb1; (try simp only [World.size_alloc, World.size_setCell, World.size_drew] at hz1); have hl1 : Lim w1 := Lim.next (by repeat (first | assumption | refine Lim.alloc ?_ _ | refine Lim.setCell ?_ (by first | (simp; done) | (simp; omega) | omega) _ | refine Lim.drew ?_)) hb1; have hq1 : w.heap.size + 1 < w1.heap.size := (by omega)) | (go_at_call 89; refine (held_any ⟨xlo, xhi, xheld, A, cap, l⟩ _).mono ?_; rintro e w1 ⟨rfl, hb1⟩; obtain ⟨⟨hc1, hf1, hs1⟩, hz1⟩ := after hb1; (try simp only [World.size_alloc, World.size_setCell, World.size_drew] at hz1); have hl1 : Lim w1 := Lim.next (by repeat (first | assumption | refine Lim.alloc ?_ _ | refine Lim.setCell ?_ (by first | (simp; done) | (simp; omega) | omega) _ | refine Lim.drew ?_)) hb1; have hq1 : w.heap.size + 1 < w1.heap.size := (by omega)))
    have HB2 : Below (w.heap.size + 2) ((w.alloc (.cells #[vi r.goods, r.slice] 56)).alloc (.cells #[vi xlo, vi xhi, vi xheld, (.slice A l.length cap)] 82)) w1 := by (repeat (first | exact Below.refl _ _ | refine Below.setCell ?_ (by first | omega | (simp; omega) | (simp; done)) _ | refine Below.alloc ?_ (by first | omega | (simp; omega) | (simp; done)) _ | refine Below.drew ?_ | refine below_drewN ?_ _ | refine Below.trans ?_ (Below.mono (by assumption) (by first | omega | (simp; omega) | (simp; done)))))
    have HB : Below w.heap.size w w1 := by (repeat (first | exact Below.refl _ _ | refine Below.setCell ?_ (by first | omega | (simp; omega) | (simp; done)) _ | refine Below.alloc ?_ (by first | omega | (simp; omega) | (simp; done)) _ | refine Below.drew ?_ | refine below_drewN ?_ _ | refine Below.trans ?_ (Below.mono (by assumption) (by first | omega | (simp; omega) | (simp; done)))))
    have e0 : w1.cell? ⟨w.heap.size, 0, none⟩ = some (vi r.goods) := (HB2.cell (p := ⟨w.heap.size, 0, none⟩) (by simp)).trans (by simp [go_sem])
    have e1 : w1.cell? ⟨w.heap.size, 1, none⟩ = some r.slice := (HB2.cell (p := ⟨w.heap.size, 1, none⟩) (by simp)).trans (by simp [go_sem])
    have e2 : w1.cell? ⟨w.heap.size + 1, 3, none⟩ = some (.slice A l.length cap) := (HB2.cell (p := ⟨w.heap.size + 1, 3, none⟩) (by simp)).trans (by simp [go_sem])
    have hl1 : Lim w1 := hl.next HB
    have h' := EntriesAt.to h HB
    have hz : w.heap.size + 2 ≤ w1.heap.size := by have := HB2.size; simpa using this
    clear HB2
    go_loopw [30] (fun i wr => ∃ k : Nat, k ≤ l.length ∧ i = .int .i64 k ∧ Below w1.heap.size w1 wr ∧ Hid (∀ j, j < k → goodEntry r l j = true)) (fun i _ => l.length - (intOf i).toNat)
    case atStart => exact ⟨0, Nat.zero_le _, rfl, Below.refl _ _, fun j hj => absurd hj (by omega)⟩
    case round =>
      obtain ⟨k, hk, rfl, hB, hgood⟩ := hrel
      have hbs := hB.size
      by_cases hlt : k < l.length
      · obtain ⟨y, hy⟩ : ∃ y, l[k]? = some y := ⟨_, List.getElem?_eq_getElem hlt⟩
        have hlr : Lim wr := hl1.next hB
        have hn := EntriesAt.to h' hB
        obtain ⟨b, off, rfl, hb, c0, c1, c2, c3⟩ := row4 hn.row hy rfl
        have r0 := (hB.cell (p := ⟨w.heap.size, 0, none⟩) (by simp; omega)).trans e0
        have r1 := (hB.cell (p := ⟨w.heap.size, 1, none⟩) (by simp; omega)).trans e1
        have r2 := (hB.cell (p := ⟨w.heap.size + 1, 3, none⟩) (by simp; omega)).trans e2
        have G := Lib.hid (goodEntry_of (r := r) hy)
        have Hy := Lib.hid hy
        clear hy
        have q0 : w.heap.size < wr.heap.size := by omega
        have q1 : w.heap.size + 1 < wr.heap.size := by omega
        have q2 : w.heap.size < wr.heap.size + 1 := by omega
        have q3 : w.heap.size + 1 < wr.heap.size + 1 := by omega
        rcases he : entryB r y with _ | _
        · go_wp2_with fail
          (refine wp_region_grow_lit (by kernel_rfl) (by kernel_rfl) ?_; (repeat (go_big_quiet_step ((go_at_call 90; refine Calls.grow_of (isEntry_any _ _ _ (by repeat (first | assumption | refine Lim.next ?_ (plus_below _ _) | refine Lim.alloc ?_ _ | refine Lim.setCell ?_ (by first | (simp; done) | (simp; omega) | omega) _ | refine Lim.drew ?_)) (EntryAt.to (hn.at_ Hy.out) (by (repeat (first | exact Below.refl _ _ | refine Below.setCell ?_ (by first | omega | (simp; omega) | (simp; done)) _ | refine Below.alloc ?_ (by first | omega | (simp; omega) | (simp; done)) _ | refine Below.drew ?_ | refine below_drewN ?_ _ | refine Below.trans ?_ (Below.mono (plus_below _ _) (by first | omega | (simp; omega) | (simp; done))) | refine Below.trans ?_ (Below.mono (by assumption) (by first | omega | (simp; omega) | (simp; done)))))))))))); refine wpQuiet_nil ?_; intro w1 hw1; have hb1 := below_of_plus hw1; clear hw1; obtain ⟨⟨hc1, hf1, hs1⟩, hz1⟩ := after hb1; (try simp only [World.size_alloc, World.size_setCell, World.size_drew] at hz1); have hl1 : Lim w1 := Lim.next (by repeat (first | assumption | refine Lim.alloc ?_ _ | refine Lim.setCell ?_ (by first | (simp; done) | (simp; omega) | omega) _ | refine Lim.drew ?_)) hb1)
          go_wp2
          go_ret
          refine ⟨retB (all_no hlt (G.out.trans (by simp [he]))).symm, ?_⟩
          (repeat (first | exact Below.refl _ _ | refine Below.setCell ?_ (by first | omega | (simp; omega) | (simp; done)) _ | refine Below.alloc ?_ (by first | omega | (simp; omega) | (simp; done)) _ | refine Below.drew ?_ | refine below_drewN ?_ _ | refine Below.trans ?_ (Below.mono (by assumption) (by first | omega | (simp; omega) | (simp; done)))))
        · rcases hp : repB (l.take k) y with _ | _
          all_goals
            go_wp2_with fail
            (refine wp_region_grow_lit (by kernel_rfl) (by kernel_rfl) ?_; (repeat (go_big_quiet_step (first | (go_at_call 90; refine Calls.grow_of (isEntry_any _ _ _ (by repeat (first | assumption | refine Lim.next ?_ (plus_below _ _) | refine Lim.alloc ?_ _ | refine Lim.setCell ?_ (by first | (simp; done) | (simp; omega) | omega) _ | refine Lim.drew ?_)) (EntryAt.to (hn.at_ Hy.out) (by (repeat (first | exact Below.refl _ _ | refine Below.setCell ?_ (by first | omega | (simp; omega) | (simp; done)) _ | refine Below.alloc ?_ (by first | omega | (simp; omega) | (simp; done)) _ | refine Below.drew ?_ | refine below_drewN ?_ _ | refine Below.trans ?_ (Below.mono (plus_below _ _) (by first | omega | (simp; omega) | (simp; done))) | refine Below.trans ?_ (Below.mono (by assumption) (by first | omega | (simp; omega) | (simp; done))))))))) | (go_at_call 91; refine Calls.grow_of (isRepeated_take _ _ _ _ _ _ _ (EntriesAt.to hn (by (repeat (first | exact Below.refl _ _ | refine Below.setCell ?_ (by first | omega | (simp; omega) | (simp; done)) _ | refine Below.alloc ?_ (by first | omega | (simp; omega) | (simp; done)) _ | refine Below.drew ?_ | refine below_drewN ?_ _ | refine Below.trans ?_ (Below.mono (plus_below _ _) (by first | omega | (simp; omega) | (simp; done))) | refine Below.trans ?_ (Below.mono (by assumption) (by first | omega | (simp; omega) | (simp; done))))))) (by omega) (by omega) (by omega)))))); refine wpQuiet_nil ?_; intro w1 hw1; have hb1 := below_of_plus hw1; clear hw1; obtain ⟨⟨hc1, hf1, hs1⟩, hz1⟩ := after hb1; (try simp only [World.size_alloc, World.size_setCell, World.size_drew] at hz1); have hl1 : Lim w1 := Lim.next (by repeat (first | assumption | refine Lim.alloc ?_ _ | refine Lim.setCell ?_ (by first | (simp; done) | (simp; omega) | omega) _ | refine Lim.drew ?_)) hb1)
            go_wp2
          · go_roundw
            case rel => exact ⟨k + 1, by omega, by go_num, (by (repeat (first | exact Below.refl _ _ | refine Below.setCell ?_ (by first | omega | (simp; omega) | (simp; done)) _ | refine Below.alloc ?_ (by first | omega | (simp; omega) | (simp; done)) _ | refine Below.drew ?_ | refine below_drewN ?_ _ | refine Below.trans ?_ (Below.mono (by assumption) (by first | omega | (simp; omega) | (simp; done)))))), upto_succ hgood.out (G.out.trans (by simp [he, hp]))⟩
            case measure => simp [intOf]; omega
          · go_ret
            refine ⟨retB (all_no hlt (G.out.trans (by simp [he, hp]))).symm, ?_⟩
            (repeat (first | exact Below.refl _ _ | refine Below.setCell ?_ (by first | omega | (simp; omega) | (simp; done)) _ | refine Below.alloc ?_ (by first | omega | (simp; omega) | (simp; done)) _ | refine Below.drew ?_ | refine below_drewN ?_ _ | refine Below.trans ?_ (Below.mono (by assumption) (by first | omega | (simp; omega) | (simp; done)))))
      · go_wp2
        go_ret
        refine ⟨retB (all_yes Hd.out fun j hj => hgood.out j (by have hj : j < l.length := hj; omega)).symm, HB.trans (hB.mono (by omega))⟩
end Go.Proofs.YtpcajmkmmkmekaaGreatDoor

/- Contracts of the check of a rack, and of what looks an entry up. -/
namespace Go.Proofs.YtpcajmkmmkmekaaGreatDoor
open Go Go.RowKit
set_option maxHeartbeats 1000000
theorem isValid_any (r : Rack) (w : World) (hl : Lim w) (h : RackAt w w.heap.size r) :
    Calls Tryz.prog 35 #[r.val] w fun e' w' => e' = .returned (.bool (validB r)) ∧ Below w.heap.size w w' := by
  obtain ⟨g, A, cap, l⟩ := r
  have hcap := IssuesAt.cap h
  have hfew := IssuesAt.few h
  have hlen := IssuesAt.len h
  show Calls Tryz.prog 35 #[.agg #[vi g, .slice A l.length cap]] w _
  rcases hd : (limB 0 g && limB 1 l.length) with _ | _
  · have Hd : Hid (validB ⟨g, A, cap, l⟩ = false) := by simp [validB, hd, Hid]
    go_enter Tryz.func35, Tryz.ntmps35
    go_wp2_with (go_at_call 28; refine (within_any _ _ _ (by omega) (by omega) (by repeat (first | assumption | refine Lim.alloc ?_ _ | refine Lim.setCell ?_ (by first | (simp; done) | (simp; omega) | omega) _ | refine Lim.drew ?_))).mono ?_; rintro e w1 ⟨rfl, hb1⟩; obtain ⟨⟨hc1, hf1, hs1⟩, hz1⟩ := after hb1; (try simp only [World.size_alloc, World.size_setCell, World.size_drew] at hz1); have hl1 : Lim w1 := Lim.next (by repeat (first | assumption | refine Lim.alloc ?_ _ | refine Lim.setCell ?_ (by first | (simp; done) | (simp; omega) | omega) _ | refine Lim.drew ?_)) hb1; have hq1 : w.heap.size < w1.heap.size := (by omega))
    all_goals first
      | (go_ret; refine ⟨retB Hd.out.symm, ?_⟩; (repeat (first | exact Below.refl _ _ | refine Below.setCell ?_ (by first | omega | (simp; omega) | (simp; done)) _ | refine Below.alloc ?_ (by first | omega | (simp; omega) | (simp; done)) _ | refine Below.drew ?_ | refine below_drewN ?_ _ | refine Below.trans ?_ (Below.mono (by assumption) (by first | omega | (simp; omega) | (simp; done))))); done)
      | (exfalso; simp_all; done)
  · obtain ⟨h1, h2⟩ : limB 0 g = true ∧ limB 1 l.length = true := by simpa using hd
    have Hd := Lib.hid hd
    clear hd
    go_enter Tryz.func35, Tryz.ntmps35
    go_wp2_with (go_at_call 28; refine (within_any _ _ _ (by omega) (by omega) (by repeat (first | assumption | refine Lim.alloc ?_ _ | refine Lim.setCell ?_ (by first | (simp; done) | (simp; omega) | omega) _ | refine Lim.drew ?_))).mono ?_; rintro e w1 ⟨rfl, hb1⟩; obtain ⟨⟨hc1, hf1, hs1⟩, hz1⟩ := after hb1; (try simp only [World.size_alloc, World.size_setCell, World.size_drew] at hz1); have hl1 : Lim w1 := Lim.next (by repeat (first | assumption | refine Lim.alloc ?_ _ | refine Lim.setCell ?_ (by first | (simp; done) | (simp; omega) | omega) _ | refine Lim.drew ?_)) hb1; have hq1 : w.heap.size < w1.heap.size := (by omega))
    have HB2 : Below (w.heap.size + 1) (w.alloc (.cells #[vi g, .slice A l.length cap] 56)) w1 := by (repeat (first | exact Below.refl _ _ | refine Below.setCell ?_ (by first | omega | (simp; omega) | (simp; done)) _ | refine Below.alloc ?_ (by first | omega | (simp; omega) | (simp; done)) _ | refine Below.drew ?_ | refine below_drewN ?_ _ | refine Below.trans ?_ (Below.mono (by assumption) (by first | omega | (simp; omega) | (simp; done)))))
    have HB : Below w.heap.size w w1 := by (repeat (first | exact Below.refl _ _ | refine Below.setCell ?_ (by first | omega | (simp; omega) | (simp; done)) _ | refine Below.alloc ?_ (by first | omega | (simp; omega) | (simp; done)) _ | refine Below.drew ?_ | refine below_drewN ?_ _ | refine Below.trans ?_ (Below.mono (by assumption) (by first | omega | (simp; omega) | (simp; done)))))
    have e0 : w1.cell? ⟨w.heap.size, 0, none⟩ = some (vi g) := (HB2.cell (p := ⟨w.heap.size, 0, none⟩) (by simp)).trans (by simp [go_sem])
    have e1 : w1.cell? ⟨w.heap.size, 1, none⟩ = some (.slice A l.length cap) := (HB2.cell (p := ⟨w.heap.size, 1, none⟩) (by simp)).trans (by simp [go_sem])
    have hl1 : Lim w1 := hl.next HB
    have h' := IssuesAt.to h HB
    have hz : w.heap.size + 1 ≤ w1.heap.size := by have := HB2.size; simpa using this
    clear HB2
    go_loopw [22] (fun i wr => ∃ k : Nat, k ≤ l.length ∧ i = .int .i64 k ∧ Below w1.heap.size w1 wr ∧ Hid (∀ j, j < k → goodIssue ⟨g, A, cap, l⟩ j = true)) (fun i _ => l.length - (intOf i).toNat)
    case atStart => exact ⟨0, Nat.zero_le _, rfl, Below.refl _ _, fun j hj => absurd hj (by omega)⟩
    case round =>
      obtain ⟨k, hk, rfl, hB, hgood⟩ := hrel
      have hbs := hB.size
      by_cases hlt : k < l.length
      · obtain ⟨y, hy⟩ : ∃ y, l[k]? = some y := ⟨_, List.getElem?_eq_getElem hlt⟩
        have hlr : Lim wr := hl1.next hB
        have hn := IssuesAt.to h' hB
        obtain ⟨b, off, rfl, hb, c0, c1, c2, c3⟩ := row4 hn.row hy rfl
        have r0 := (hB.cell (p := ⟨w.heap.size, 0, none⟩) (by simp; omega)).trans e0
        have r1 := (hB.cell (p := ⟨w.heap.size, 1, none⟩) (by simp; omega)).trans e1
        have G := Lib.hid (goodIssue_of (r := ⟨g, some ⟨b, off, none⟩, cap, l⟩) hy)
        have Hy := Lib.hid hy
        clear hy
        have q0 : w.heap.size < wr.heap.size := by omega
        go_wp2_with (go_at_call 71; refine (isCatalogue_any ⟨g, some ⟨b, off, none⟩, cap, l⟩ y _ (by repeat (first | assumption | refine Lim.alloc ?_ _ | refine Lim.setCell ?_ (by first | (simp; done) | (simp; omega) | omega) _ | refine Lim.drew ?_)) (IssueAt.to (hn.at_ Hy.out) (by (repeat (first | exact Below.refl _ _ | refine Below.setCell ?_ (by first | omega | (simp; omega) | (simp; done)) _ | refine Below.alloc ?_ (by first | omega | (simp; omega) | (simp; done)) _ | refine Below.drew ?_ | refine below_drewN ?_ _ | refine Below.trans ?_ (Below.mono (by assumption) (by first | omega | (simp; omega) | (simp; done)))))))).mono ?_; rintro e w1 ⟨rfl, hb1⟩; obtain ⟨⟨hc1, hf1, hs1⟩, hz1⟩ := after hb1; (try simp only [World.size_alloc, World.size_setCell, World.size_drew] at hz1))
        all_goals first
          | (go_ret; refine ⟨retB (all_no hlt (G.out.trans (by first | (simp [fitB, *]; done) | ((simp only [Bool.not_eq_true', Bool.not_eq_false'] at *); simp [fitB, *]; done) | (simp_all [fitB]; done) | (simp [fitB, *]; omega) | (simp [fitB, *]; intros; omega)))).symm, ?_⟩; (repeat (first | exact Below.refl _ _ | refine Below.setCell ?_ (by first | omega | (simp; omega) | (simp; done)) _ | refine Below.alloc ?_ (by first | omega | (simp; omega) | (simp; done)) _ | refine Below.drew ?_ | refine below_drewN ?_ _ | refine Below.trans ?_ (Below.mono (by assumption) (by first | omega | (simp; omega) | (simp; done))))); done)
          | (go_roundw; case rel => exact ⟨k + 1, by omega, by go_num, (by (repeat (first | exact Below.refl _ _ | refine Below.setCell ?_ (by first | omega | (simp; omega) | (simp; done)) _ | refine Below.alloc ?_ (by first | omega | (simp; omega) | (simp; done)) _ | refine Below.drew ?_ | refine below_drewN ?_ _ | refine Below.trans ?_ (Below.mono (by assumption) (by first | omega | (simp; omega) | (simp; done)))))), upto_succ hgood.out (G.out.trans (by first | (simp [fitB, *]; done) | ((simp only [Bool.not_eq_true', Bool.not_eq_false'] at *); simp [fitB, *]; done) | (simp_all [fitB]; done) | (simp [fitB, *]; omega) | (simp [fitB, *]; intros; omega)))⟩
             case measure => simp [intOf]; omega)
      · go_wp2
        go_ret
        refine ⟨retB (all_yes Hd.out fun j hj => hgood.out j (by have hj : j < l.length := hj; omega)).symm, HB.trans (hB.mono (by omega))⟩
theorem check_any (r : Rack) (w : World) (hl : Lim w) (hr : RackAt w w.heap.size r) :
    Calls Tryz.prog 9 #[r.val] w fun e' w' => e' = .returned (vi (if validB r then 0 else 10)) ∧ Below w.heap.size w w' := by
  rcases hv : validB r with _ | _
  all_goals
    have Hv := Lib.hid hv
    go_enter Tryz.func9, Tryz.ntmps9
    go_wp2_with (go_at_call 35; refine (isValid_any r _ (by repeat (first | assumption | refine Lim.alloc ?_ _ | refine Lim.setCell ?_ (by first | (simp; done) | (simp; omega) | omega) _ | refine Lim.drew ?_)) (hr.to (by (repeat (first | exact Below.refl _ _ | refine Below.setCell ?_ (by first | omega | (simp; omega) | (simp; done)) _ | refine Below.alloc ?_ (by first | omega | (simp; omega) | (simp; done)) _ | refine Below.drew ?_ | refine below_drewN ?_ _ | refine Below.trans ?_ (Below.mono (by assumption) (by first | omega | (simp; omega) | (simp; done)))))))).mono ?_; rintro e w1 ⟨rfl, hb1⟩; obtain ⟨⟨hc1, hf1, hs1⟩, hz1⟩ := after hb1; (try simp only [World.size_alloc, World.size_setCell, World.size_drew] at hz1))
    go_ret
    refine ⟨retI (by simp), ?_⟩
    (repeat (first | exact Below.refl _ _ | refine Below.setCell ?_ (by first | omega | (simp; omega) | (simp; done)) _ | refine Below.alloc ?_ (by first | omega | (simp; omega) | (simp; done)) _ | refine Below.drew ?_ | refine below_drewN ?_ _ | refine Below.trans ?_ (Below.mono (by assumption) (by first | omega | (simp; omega) | (simp; done)))))
end Go.Proofs.YtpcajmkmmkmekaaGreatDoor

