/- Contracts of the specification's asked and sizes. -/
import Derived.Test.YtpcajmkmmkmekaaGreatDoorXR9
import Derived.Test.YtpcajmkmmkmekaaGreatDoorXK11
set_option linter.unusedVariables false
set_option linter.unusedSimpArgs false
namespace Go.Proofs.YtpcajmkmmkmekaaGreatDoor
open Go Go.RowKit
set_option maxHeartbeats 4000000
def askedE (r : Rack) (ok : Bool) : Int := if validB r then if ok then 0 else 11 else 10
theorem rcheck_is {r : Rack} {e : Int} (he : (if validB r then (0 : Int) else 10) = e) (w : World) (h : RackAt w w.heap.size r) :
    Calls Tryz.prog 10 #[r.val] w fun e' w' => e' = .returned (vi e) ∧ Below w.heap.size w w' := by
  subst he
  exact rcheck_any r w h
theorem asked_is {r : Rack} {ok : Bool} {e : Int} (he : askedE r ok = e) (w : World) (h : RackAt w w.heap.size r) :
    Calls Tryz.prog 30 #[r.val, .bool ok] w fun e' w' => e' = .returned (vi e) ∧ Below w.heap.size w w' := by
  rcases hv : validB r with _ | _
  · obtain rfl : e = 10 := by rw [← he]; simp [askedE, hv]
    have HV : Hid ((if validB r then (0 : Int) else 10) = 10) := by rw [hv]; rfl
    clear he hv
    go_enter Tryz.func30, Tryz.ntmps30
    go_wp2_with (go_at_call 10; refine (rcheck_is HV.out _ (h.to (by (repeat (first | exact Below.refl _ _ | refine Below.setCell ?_ (by first | omega | (simp; omega) | (simp; done)) _ | refine Below.alloc ?_ (by first | omega | (simp; omega) | (simp; done)) _ | refine Below.drew ?_ | refine below_drewN ?_ _ | refine Below.trans ?_ (Below.mono (by assumption) (by first | omega | (simp; omega) | (simp; done)))))))).mono ?_; rintro e w1 ⟨rfl, hb1⟩; obtain ⟨⟨hc1, hf1, hs1⟩, hz1⟩ := after hb1; (try simp only [World.size_alloc, World.size_setCell, World.size_drew] at hz1))
    go_ret
    refine ⟨rfl, ?_⟩
    (repeat (first | exact Below.refl _ _ | refine Below.setCell ?_ (by first | omega | (simp; omega) | (simp; done)) _ | refine Below.alloc ?_ (by first | omega | (simp; omega) | (simp; done)) _ | refine Below.drew ?_ | refine below_drewN ?_ _ | refine Below.trans ?_ (Below.mono (by assumption) (by first | omega | (simp; omega) | (simp; done)))))
  have HV : Hid ((if validB r then (0 : Int) else 10) = 0) := by rw [hv]; rfl
  rcases ok with _ | _
  · obtain rfl : e = 11 := by rw [← he]; simp [askedE, hv]
    clear he hv
    go_enter Tryz.func30, Tryz.ntmps30
    go_wp2_with (go_at_call 10; refine (rcheck_is HV.out _ (h.to (by (repeat (first | exact Below.refl _ _ | refine Below.setCell ?_ (by first | omega | (simp; omega) | (simp; done)) _ | refine Below.alloc ?_ (by first | omega | (simp; omega) | (simp; done)) _ | refine Below.drew ?_ | refine below_drewN ?_ _ | refine Below.trans ?_ (Below.mono (by assumption) (by first | omega | (simp; omega) | (simp; done)))))))).mono ?_; rintro e w1 ⟨rfl, hb1⟩; obtain ⟨⟨hc1, hf1, hs1⟩, hz1⟩ := after hb1; (try simp only [World.size_alloc, World.size_setCell, World.size_drew] at hz1))
    go_ret
    refine ⟨rfl, ?_⟩
    (repeat (first | exact Below.refl _ _ | refine Below.setCell ?_ (by first | omega | (simp; omega) | (simp; done)) _ | refine Below.alloc ?_ (by first | omega | (simp; omega) | (simp; done)) _ | refine Below.drew ?_ | refine below_drewN ?_ _ | refine Below.trans ?_ (Below.mono (by assumption) (by first | omega | (simp; omega) | (simp; done)))))
  · obtain rfl : e = 0 := by rw [← he]; simp [askedE, hv]
    clear he hv
    go_enter Tryz.func30, Tryz.ntmps30
    go_wp2_with (go_at_call 10; refine (rcheck_is HV.out _ (h.to (by (repeat (first | exact Below.refl _ _ | refine Below.setCell ?_ (by first | omega | (simp; omega) | (simp; done)) _ | refine Below.alloc ?_ (by first | omega | (simp; omega) | (simp; done)) _ | refine Below.drew ?_ | refine below_drewN ?_ _ | refine Below.trans ?_ (Below.mono (by assumption) (by first | omega | (simp; omega) | (simp; done)))))))).mono ?_; rintro e w1 ⟨rfl, hb1⟩; obtain ⟨⟨hc1, hf1, hs1⟩, hz1⟩ := after hb1; (try simp only [World.size_alloc, World.size_setCell, World.size_drew] at hz1))
    go_ret
    refine ⟨rfl, ?_⟩
    (repeat (first | exact Below.refl _ _ | refine Below.setCell ?_ (by first | omega | (simp; omega) | (simp; done)) _ | refine Below.alloc ?_ (by first | omega | (simp; omega) | (simp; done)) _ | refine Below.drew ?_ | refine below_drewN ?_ _ | refine Below.trans ?_ (Below.mono (by assumption) (by first | omega | (simp; omega) | (simp; done)))))
theorem isNumber_is {a : Int} {v : Bool} (h : (decide (1 ≤ a) && decide (a ≤ 9999)) = v) (w : World) :
    Calls Tryz.prog 32 #[vi a] w fun e w' => e = .returned (.bool v) ∧ w = w' := by
  subst h
  exact isNumber_any a w
theorem ask_ref (r : Rack) (issue number a b : Int) : askB r issue number a b = ((decide (0 ≤ issue) && decide (issue ≤ (r.issues.length : Int) - 1)) && ((decide (1 ≤ number) && decide (number ≤ 9999)) && (decide (1 ≤ a) && decide (a ≤ b) && decide (b ≤ 400)))) := by
  rw [Bool.eq_iff_iff]
  simp only [askB, issueB, Bool.and_eq_true, limB_iff, limS_iff, decide_eq_true_eq]
  simp [limLo, limHi]
  omega
end Go.Proofs.YtpcajmkmmkmekaaGreatDoor

