/- Contracts of the specification's isDay, isDays, isItem, of. -/
import Derived.Test.YtpcajmkmmkmekaaGreatDoorXR10
import Derived.Test.YtpcajmkmmkmekaaGreatDoorXR11
import Derived.Test.YtpcajmkmmkmekaaGreatDoorXD2
set_option linter.unusedVariables false
set_option linter.unusedSimpArgs false
namespace Go.Proofs.YtpcajmkmmkmekaaGreatDoor
open Go Go.RowKit
set_option maxHeartbeats 4000000
theorem risDay_is {a : Int} {v : Bool} (h : limB 3 a = v) (w : World) :
    Calls Tryz.prog 45 #[vi a] w fun e w' => e = .returned (.bool v) ∧ w = w' := by
  have h' : (decide (0 ≤ a) && decide (a ≤ 20000)) = v := by rw [← h]; simp [limB, limLo, limHi]
  clear h
  go_enter Tryz.func45, Tryz.ntmps45
  go_wp2_with (go_at_call 36; refine (tween_is h' _).mono ?_; rintro e w1 ⟨rfl, rfl⟩)
  go_ret
  exact ⟨rfl, rfl⟩
theorem risDays_is {a b : Int} {v : Bool} (h : limS 3 a b = v) (w : World) :
    Calls Tryz.prog 31 #[.agg #[vi a, vi b]] w fun e w' => e = .returned (.bool v) ∧ Below w.heap.size w w' := by
  have h' : (decide (0 ≤ a) && decide (a ≤ b) && decide (b ≤ 20000)) = v := by
    rw [← h, Bool.eq_iff_iff]
    simp only [limS, limB, limLo, limHi, Bool.and_eq_true, decide_eq_true_eq]
    simp
    omega
  clear h
  go_enter Tryz.func31, Tryz.ntmps31
  go_wp2_with (go_at_call 37; refine (proper_is h' _).mono ?_; rintro e w1 ⟨rfl, hb1⟩; obtain ⟨⟨hc1, hf1, hs1⟩, hz1⟩ := after hb1; (try simp only [World.size_alloc, World.size_setCell, World.size_drew] at hz1))
  go_ret
  refine ⟨rfl, ?_⟩
  (repeat (first | exact Below.refl _ _ | refine Below.setCell ?_ (by first | omega | (simp; omega) | (simp; done)) _ | refine Below.alloc ?_ (by first | omega | (simp; omega) | (simp; done)) _ | refine Below.drew ?_ | refine below_drewN ?_ _ | refine Below.trans ?_ (Below.mono (by assumption) (by first | omega | (simp; omega) | (simp; done)))))
def rItemB (g : Int) (it : Item) : Bool := (decide (0 ≤ it.good) && decide (it.good ≤ wrap64 (g - 1))) && ((decide (1 ≤ it.size) && decide (it.size ≤ 99)) && (decide (0 ≤ it.colour) && decide (it.colour ≤ 3)))
theorem rItem_is {r : Rack} (h : validB r = true) (it : Item) : rItemB r.goods it = itemB r it := by
  have hr := rack_ok h
  have g1 := hr.g1
  have g2 := hr.g2
  unfold rItemB
  rw [IntWalk.wrap64_in _ ⟨by omega, by omega⟩, Bool.eq_iff_iff]
  simp only [itemB, goodB, limB, limLo, limHi, Bool.and_eq_true, decide_eq_true_eq]
  simp
  omega
set_option maxRecDepth 100000 in
theorem risItem_is {r : Rack} {it : Item} {v : Bool} (h : rItemB r.goods it = v) (w : World) :
    Calls Tryz.prog 59 #[r.val, it.val] w fun e w' => e = .returned (.bool v) ∧ Below w.heap.size w w' := by
  obtain ⟨rg, rA, rcap, ri⟩ := r
  obtain ⟨ig, is, ic⟩ := it
  unfold rItemB at h
  simp only at h
  show Calls Tryz.prog 59 #[.agg #[vi rg, .slice rA ri.length rcap], .agg #[vi ig, vi is, vi ic]] w _
  rcases q1 : (decide (0 ≤ ig) && decide (ig ≤ wrap64 (rg - 1))) with _ | _
  · rw [q1] at h
    simp only [Bool.false_and] at h
    subst h
    have Q1 := Lib.hid q1
    clear q1
    go_enter Tryz.func59, Tryz.ntmps59
    go_wp2_with (go_at_call_of 36 ig; refine (tween_is Q1.out _).mono ?_; rintro e w1 ⟨rfl, rfl⟩)
    go_ret
    refine ⟨rfl, ?_⟩
    (repeat (first | exact Below.refl _ _ | refine Below.setCell ?_ (by first | omega | (simp; omega) | (simp; done)) _ | refine Below.alloc ?_ (by first | omega | (simp; omega) | (simp; done)) _ | refine Below.drew ?_ | refine below_drewN ?_ _ | refine Below.trans ?_ (Below.mono (by assumption) (by first | omega | (simp; omega) | (simp; done)))))
  rcases q2 : (decide (1 ≤ is) && decide (is ≤ 99)) with _ | _
  · rw [q1, q2] at h
    simp only [Bool.false_and, Bool.and_false] at h
    subst h
    have Q1 := Lib.hid q1
    have Q2 := Lib.hid q2
    clear q1 q2
    go_enter Tryz.func59, Tryz.ntmps59
    go_wp2_with (first | (go_at_call_of 36 ig; refine (tween_is Q1.out _).mono ?_; rintro e w1 ⟨rfl, rfl⟩) | (go_at_call_of 36 is; refine (tween_is Q2.out _).mono ?_; rintro e w1 ⟨rfl, rfl⟩))
    go_ret
    refine ⟨rfl, ?_⟩
    (repeat (first | exact Below.refl _ _ | refine Below.setCell ?_ (by first | omega | (simp; omega) | (simp; done)) _ | refine Below.alloc ?_ (by first | omega | (simp; omega) | (simp; done)) _ | refine Below.drew ?_ | refine below_drewN ?_ _ | refine Below.trans ?_ (Below.mono (by assumption) (by first | omega | (simp; omega) | (simp; done)))))
  obtain ⟨q3v, q3⟩ : ∃ q3v, (decide (0 ≤ ic) && decide (ic ≤ 3)) = q3v := ⟨_, rfl⟩
  rw [q1, q2, q3] at h
  simp only [Bool.true_and] at h
  subst h
  have Q1 := Lib.hid q1
  have Q2 := Lib.hid q2
  have Q3 := Lib.hid q3
  clear q1 q2 q3
  go_enter Tryz.func59, Tryz.ntmps59
  go_wp2_with (first | (go_at_call_of 36 ig; refine (tween_is Q1.out _).mono ?_; rintro e w1 ⟨rfl, rfl⟩) | (go_at_call_of 36 is; refine (tween_is Q2.out _).mono ?_; rintro e w1 ⟨rfl, rfl⟩) | (go_at_call_of 36 ic; refine (tween_is Q3.out _).mono ?_; rintro e w1 ⟨rfl, rfl⟩))
  go_ret
  refine ⟨rfl, ?_⟩
  (repeat (first | exact Below.refl _ _ | refine Below.setCell ?_ (by first | omega | (simp; omega) | (simp; done)) _ | refine Below.alloc ?_ (by first | omega | (simp; omega) | (simp; done)) _ | refine Below.drew ?_ | refine below_drewN ?_ _ | refine Below.trans ?_ (Below.mono (by assumption) (by first | omega | (simp; omega) | (simp; done)))))
def ofF (l : List Entry) (n : Int) : Int := match l.findIdx? fun e => e.good == n with | some k => k | none => -1
theorem of_none {l : List Entry} {n : Int} (h : (l.find? fun e => e.good == n) = none) : ofF l n = -1 := by
  rw [List.find?_eq_none] at h
  unfold ofF
  rw [List.findIdx?_eq_none_iff.2 fun x hx => by simpa using h x hx]
theorem of_some {l : List Entry} {n : Int} {e : Entry} (h : (l.find? fun e => e.good == n) = some e) : ∃ k : Nat, ofF l n = k ∧ l[k]? = some e := by
  rw [List.find?_eq_some_iff_getElem] at h
  obtain ⟨hp, k, hk, he, hmin⟩ := h
  refine ⟨k, ?_, by rw [List.getElem?_eq_getElem hk, he]⟩
  unfold ofF
  rw [List.findIdx?_eq_some_iff_getElem.2 ⟨hk, by rw [he]; exact hp, fun j hj => by have := hmin j hj; simpa using this⟩]
theorem of_any (x : Issue) (n : Int) (w : World) (h : IssueAt w w.heap.size x) :
    Calls Tryz.prog 43 #[x.val, vi n] w fun e w' => e = .returned (vi (ofF x.entries n)) ∧ Below w.heap.size w w' := by
  obtain ⟨xlo, xhi, xheld, A, cap, l⟩ := x
  have hcap := EntriesAt.cap h
  have hlen := EntriesAt.len h
  have hh : EntriesAt w w.heap.size A cap l := h
  show Calls Tryz.prog 43 #[.agg #[vi xlo, vi xhi, vi xheld, .slice A l.length cap], vi n] w fun e w' => e = .returned (vi (ofF l n)) ∧ Below w.heap.size w w'
  clear h
  go_enter Tryz.func43, Tryz.ntmps43
  go_wp2
  have HB0 : Below w.heap.size w (w.alloc (.cells #[vi xlo, vi xhi, vi xheld, .slice A l.length cap] 63)) := by (repeat (first | exact Below.refl _ _ | refine Below.setCell ?_ (by first | omega | (simp; omega) | (simp; done)) _ | refine Below.alloc ?_ (by first | omega | (simp; omega) | (simp; done)) _ | refine Below.drew ?_ | refine below_drewN ?_ _ | refine Below.trans ?_ (Below.mono (by assumption) (by first | omega | (simp; omega) | (simp; done)))))
  have e3 : (w.alloc (.cells #[vi xlo, vi xhi, vi xheld, .slice A l.length cap] 63)).cell? ⟨w.heap.size, 3, none⟩ = some (.slice A l.length cap) := by simp [go_sem]
  go_loopw [5] (fun i wr => ∃ k : Nat, k ≤ l.length ∧ i = .int .i64 k ∧ wr = w.alloc (.cells #[vi xlo, vi xhi, vi xheld, .slice A l.length cap] 63) ∧ Hid (∀ y, y ∈ l.take k → (y.good == n) = false)) (fun i _ => l.length - (intOf i).toNat)
  case atStart => exact ⟨0, Nat.zero_le _, rfl, rfl, by simp [Hid]⟩
  case round =>
    obtain ⟨k, hk, rfl, rfl, hno⟩ := hrel
    by_cases hlt : k < l.length
    · obtain ⟨x, hx⟩ : ∃ x, l[k]? = some x := ⟨_, List.getElem?_eq_getElem hlt⟩
      obtain ⟨bb, off, rfl, hb, c0, c1, c2, c3⟩ := row4 (hh.to HB0).row hx rfl
      have Hx := Lib.hid hx
      clear hx
      rcases hq : x.good == n with _ | _
      · have hst := Lib.hid (take_step (p := fun y : Entry => y.good == n) hno.out Hx.out hq)
        go_wp2
        go_roundw
        case rel => exact ⟨k + 1, by omega, by go_num, trivial, hst⟩
        case measure => simp [intOf]; omega
      · have E : Hid (ofF l n = (k : Int)) := by unfold Hid ofF; rw [findIdx_step (p := fun y : Entry => y.good == n) hno.out Hx.out hq]
        go_wp2
        go_ret
        refine ⟨retI E.out.symm, ?_⟩
        (repeat (first | exact Below.refl _ _ | refine Below.setCell ?_ (by first | omega | (simp; omega) | (simp; done)) _ | refine Below.alloc ?_ (by first | omega | (simp; omega) | (simp; done)) _ | refine Below.drew ?_ | refine below_drewN ?_ _ | refine Below.trans ?_ (Below.mono (by assumption) (by first | omega | (simp; omega) | (simp; done)))))
    · obtain rfl : k = l.length := by omega
      have E : Hid (ofF l n = -1) := by
        have := hno.out
        rw [List.take_length] at this
        unfold Hid ofF
        rw [List.findIdx?_eq_none_iff.2 this]
      go_wp2
      go_ret
      refine ⟨retI E.out.symm, ?_⟩
      (repeat (first | exact Below.refl _ _ | refine Below.setCell ?_ (by first | omega | (simp; omega) | (simp; done)) _ | refine Below.alloc ?_ (by first | omega | (simp; omega) | (simp; done)) _ | refine Below.drew ?_ | refine below_drewN ?_ _ | refine Below.trans ?_ (Below.mono (by assumption) (by first | omega | (simp; omega) | (simp; done)))))
theorem of_is {x : Issue} {n v : Int} (h : ofF x.entries n = v) (w : World) (hx : IssueAt w w.heap.size x) :
    Calls Tryz.prog 43 #[x.val, vi n] w fun e w' => e = .returned (vi v) ∧ Below w.heap.size w w' := by
  subst h
  exact of_any x n w hx
theorem risNumber_is {a : Int} {v : Bool} (h : limB 4 a = v) (w : World) :
    Calls Tryz.prog 32 #[vi a] w fun e w' => e = .returned (.bool v) ∧ w = w' :=
  isNumber_is (by rw [← h]; simp [limB, limLo, limHi]) w
theorem issue_ref (r : Rack) (g : Int) : issueB r g = (decide (0 ≤ g) && decide (g ≤ (r.issues.length : Int) - 1)) := by
  rw [Bool.eq_iff_iff]
  simp only [issueB, Bool.and_eq_true, decide_eq_true_eq]
  omega
theorem asked_valid {r : Rack} {a b : Bool} (h : validB r = true → a = b) : askedE r a = askedE r b := by
  unfold askedE
  cases hv : validB r with
  | false => rfl
  | true => rw [h hv]
end Go.Proofs.YtpcajmkmmkmekaaGreatDoor

