/- Contracts of the specification's asked and sizes. -/
import Derived.Test.YtpcajmkmmkmekaaDoorXR9
import Derived.Test.YtpcajmkmmkmekaaDoorXK11
set_option linter.unusedVariables false
set_option linter.unusedSimpArgs false
namespace Go.Proofs.YtpcajmkmmkmekaaDoor
open Go Go.RowKit
set_option maxHeartbeats 4000000
def askedE (r : Rack) (ok : Bool) : Int := if validB r then if ok then 0 else 11 else 10
theorem rcheck_is {r : Rack} {e : Int} (he : (if validB r then (0 : Int) else 10) = e) (w : World) (h : RackAt w w.heap.size r) :
    Calls Tryd.prog 89 #[r.val] w fun e' w' => e' = .returned (vi e) ∧ Below w.heap.size w w' := by
  subst he
  exact rcheck_any r w h
theorem asked_is {r : Rack} {ok : Bool} {e : Int} (he : askedE r ok = e) (w : World) (h : RackAt w w.heap.size r) :
    Calls Tryd.prog 73 #[r.val, .bool ok] w fun e' w' => e' = .returned (vi e) ∧ Below w.heap.size w w' := by
  rcases hv : validB r with _ | _
  · obtain rfl : e = 10 := by rw [← he]; simp [askedE, hv]
    have HV : Hid ((if validB r then (0 : Int) else 10) = 10) := by rw [hv]; rfl
    clear he hv
    go_enter Tryd.func73, Tryd.ntmps73
    go_wp2_with (go_at_call 89; refine (rcheck_is HV.out _ (h.to (by (repeat (first | exact Below.refl _ _ | refine Below.setCell ?_ (by first | omega | (simp; omega) | (simp; done)) _ | refine Below.alloc ?_ (by first | omega | (simp; omega) | (simp; done)) _ | refine Below.drew ?_ | refine below_drewN ?_ _ | refine Below.trans ?_ (Below.mono (by assumption) (by first | omega | (simp; omega) | (simp; done)))))))).mono ?_; rintro e w1 ⟨rfl, hb1⟩; obtain ⟨⟨hc1, hf1, hs1⟩, hz1⟩ := after hb1; (try simp only [World.size_alloc, World.size_setCell, World.size_drew] at hz1))
    go_ret
    refine ⟨rfl, ?_⟩
    (repeat (first | exact Below.refl _ _ | refine Below.setCell ?_ (by first | omega | (simp; omega) | (simp; done)) _ | refine Below.alloc ?_ (by first | omega | (simp; omega) | (simp; done)) _ | refine Below.drew ?_ | refine below_drewN ?_ _ | refine Below.trans ?_ (Below.mono (by assumption) (by first | omega | (simp; omega) | (simp; done)))))
  have HV : Hid ((if validB r then (0 : Int) else 10) = 0) := by rw [hv]; rfl
  rcases ok with _ | _
  · obtain rfl : e = 11 := by rw [← he]; simp [askedE, hv]
    clear he hv
    go_enter Tryd.func73, Tryd.ntmps73
    go_wp2_with (go_at_call 89; refine (rcheck_is HV.out _ (h.to (by (repeat (first | exact Below.refl _ _ | refine Below.setCell ?_ (by first | omega | (simp; omega) | (simp; done)) _ | refine Below.alloc ?_ (by first | omega | (simp; omega) | (simp; done)) _ | refine Below.drew ?_ | refine below_drewN ?_ _ | refine Below.trans ?_ (Below.mono (by assumption) (by first | omega | (simp; omega) | (simp; done)))))))).mono ?_; rintro e w1 ⟨rfl, hb1⟩; obtain ⟨⟨hc1, hf1, hs1⟩, hz1⟩ := after hb1; (try simp only [World.size_alloc, World.size_setCell, World.size_drew] at hz1))
    go_ret
    refine ⟨rfl, ?_⟩
    (repeat (first | exact Below.refl _ _ | refine Below.setCell ?_ (by first | omega | (simp; omega) | (simp; done)) _ | refine Below.alloc ?_ (by first | omega | (simp; omega) | (simp; done)) _ | refine Below.drew ?_ | refine below_drewN ?_ _ | refine Below.trans ?_ (Below.mono (by assumption) (by first | omega | (simp; omega) | (simp; done)))))
  · obtain rfl : e = 0 := by rw [← he]; simp [askedE, hv]
    clear he hv
    go_enter Tryd.func73, Tryd.ntmps73
    go_wp2_with (go_at_call 89; refine (rcheck_is HV.out _ (h.to (by (repeat (first | exact Below.refl _ _ | refine Below.setCell ?_ (by first | omega | (simp; omega) | (simp; done)) _ | refine Below.alloc ?_ (by first | omega | (simp; omega) | (simp; done)) _ | refine Below.drew ?_ | refine below_drewN ?_ _ | refine Below.trans ?_ (Below.mono (by assumption) (by first | omega | (simp; omega) | (simp; done)))))))).mono ?_; rintro e w1 ⟨rfl, hb1⟩; obtain ⟨⟨hc1, hf1, hs1⟩, hz1⟩ := after hb1; (try simp only [World.size_alloc, World.size_setCell, World.size_drew] at hz1))
    go_ret
    refine ⟨rfl, ?_⟩
    (repeat (first | exact Below.refl _ _ | refine Below.setCell ?_ (by first | omega | (simp; omega) | (simp; done)) _ | refine Below.alloc ?_ (by first | omega | (simp; omega) | (simp; done)) _ | refine Below.drew ?_ | refine below_drewN ?_ _ | refine Below.trans ?_ (Below.mono (by assumption) (by first | omega | (simp; omega) | (simp; done)))))
theorem isNumber_is {a : Int} {v : Bool} (h : (decide (1 ≤ a) && decide (a ≤ 9999)) = v) (w : World) :
    Calls Tryd.prog 74 #[vi a] w fun e w' => e = .returned (.bool v) ∧ w = w' := by
  subst h
  exact isNumber_any a w
theorem ask_ref (r : Rack) (issue number a b : Int) : askB r issue number a b = ((decide (0 ≤ issue) && decide (issue ≤ (r.issues.length : Int) - 1)) && ((decide (1 ≤ number) && decide (number ≤ 9999)) && (decide (1 ≤ a) && decide (a ≤ b) && decide (b ≤ 400)))) := by
  rw [Bool.eq_iff_iff]
  simp only [askB, issueB, Bool.and_eq_true, limB_iff, limS_iff, decide_eq_true_eq]
  simp [limLo, limHi]
  omega
set_option maxRecDepth 100000 in
theorem rsizes_err (r : Rack) (issue number a b e : Int) (he : askedE r (askB r issue number a b) = e) (hne : e = 10 ∨ e = 11) (w : World) (h : RackAt w w.heap.size r) :
    Calls Tryd.prog 46 #[r.val, vi issue, vi number, .agg #[vi a, vi b]] w fun e' w' => e' = .returned (.tuple #[.slice none 0 0, vi e]) ∧ Below w.heap.size w w' := by
  rw [ask_ref] at he
  have hcap := IssuesAt.cap h
  have hlen := IssuesAt.len h
  have hfew := IssuesAt.few h
  have HR := Lib.hid h
  obtain ⟨rg, rA, rcap, ri⟩ := r
  simp only at he hcap hlen hfew
  rcases q1 : (decide (0 ≤ issue) && decide (issue ≤ (ri.length : Int) - 1)) with _ | _
  · rw [q1] at he
    have HE : Hid (askedE ⟨rg, rA, rcap, ri⟩ false = e) := he
    have Q1 := Lib.hid q1
    clear he q1 h
    rcases hne with rfl | rfl
    all_goals
      show Calls Tryd.prog 46 #[.agg #[vi rg, .slice rA ri.length rcap], vi issue, vi number, .agg #[vi a, vi b]] w _
      go_enter Tryd.func46, Tryd.ntmps46
      go_wp2_with fail
      (refine wp_region_grow_lit (by kernel_rfl) (by kernel_rfl) ?_; (repeat (go_big_quiet_step (first | (go_at_call 32; refine Calls.grow_same (tween_is Q1.out _)) | (go_at_call 73; refine Calls.grow_of (asked_is HE.out _ (HR.out.to (by (repeat (first | exact Below.refl _ _ | refine Below.setCell ?_ (by first | omega | (simp; omega) | (simp; done)) _ | refine Below.alloc ?_ (by first | omega | (simp; omega) | (simp; done)) _ | refine Below.drew ?_ | refine below_drewN ?_ _ | refine Below.trans ?_ (Below.mono (plus_below _ _) (by first | omega | (simp; omega) | (simp; done))) | refine Below.trans ?_ (Below.mono (by assumption) (by first | omega | (simp; omega) | (simp; done)))))))))))); refine wpQuiet_nil ?_; intro w1 hw1; have hb1 := below_of_plus hw1; clear hw1; obtain ⟨⟨hc1, hf1, hs1⟩, hz1⟩ := after hb1; (try simp only [World.size_alloc, World.size_setCell, World.size_drew] at hz1))
      go_wp2_with fail
      go_ret2
      refine ⟨rfl, ?_⟩
      (repeat (first | exact Below.refl _ _ | refine Below.setCell ?_ (by first | omega | (simp; omega) | (simp; done)) _ | refine Below.alloc ?_ (by first | omega | (simp; omega) | (simp; done)) _ | refine Below.drew ?_ | refine below_drewN ?_ _ | refine Below.trans ?_ (Below.mono (by assumption) (by first | omega | (simp; omega) | (simp; done)))))
  rcases q2 : (decide (1 ≤ number) && decide (number ≤ 9999)) with _ | _
  · rw [q1, q2] at he
    have HE : Hid (askedE ⟨rg, rA, rcap, ri⟩ false = e) := he
    have Q1 := Lib.hid q1
    have Q2 := Lib.hid q2
    clear he q1 q2 h
    rcases hne with rfl | rfl
    all_goals
      show Calls Tryd.prog 46 #[.agg #[vi rg, .slice rA ri.length rcap], vi issue, vi number, .agg #[vi a, vi b]] w _
      go_enter Tryd.func46, Tryd.ntmps46
      go_wp2_with fail
      (refine wp_region_grow_lit (by kernel_rfl) (by kernel_rfl) ?_; (repeat (go_big_quiet_step (first | (go_at_call 32; refine Calls.grow_same (tween_is Q1.out _)) | (go_at_call 74; refine Calls.grow_same (isNumber_is Q2.out _)) | (go_at_call 73; refine Calls.grow_of (asked_is HE.out _ (HR.out.to (by (repeat (first | exact Below.refl _ _ | refine Below.setCell ?_ (by first | omega | (simp; omega) | (simp; done)) _ | refine Below.alloc ?_ (by first | omega | (simp; omega) | (simp; done)) _ | refine Below.drew ?_ | refine below_drewN ?_ _ | refine Below.trans ?_ (Below.mono (plus_below _ _) (by first | omega | (simp; omega) | (simp; done))) | refine Below.trans ?_ (Below.mono (by assumption) (by first | omega | (simp; omega) | (simp; done)))))))))))); refine wpQuiet_nil ?_; intro w1 hw1; have hb1 := below_of_plus hw1; clear hw1; obtain ⟨⟨hc1, hf1, hs1⟩, hz1⟩ := after hb1; (try simp only [World.size_alloc, World.size_setCell, World.size_drew] at hz1))
      go_wp2_with fail
      go_ret2
      refine ⟨rfl, ?_⟩
      (repeat (first | exact Below.refl _ _ | refine Below.setCell ?_ (by first | omega | (simp; omega) | (simp; done)) _ | refine Below.alloc ?_ (by first | omega | (simp; omega) | (simp; done)) _ | refine Below.drew ?_ | refine below_drewN ?_ _ | refine Below.trans ?_ (Below.mono (by assumption) (by first | omega | (simp; omega) | (simp; done)))))
  obtain ⟨q3v, q3⟩ : ∃ q3v, (decide (1 ≤ a) && decide (a ≤ b) && decide (b ≤ 400)) = q3v := ⟨_, rfl⟩
  rw [q1, q2, q3] at he
  have HE : Hid (askedE ⟨rg, rA, rcap, ri⟩ q3v = e) := he
  have Q1 := Lib.hid q1
  have Q2 := Lib.hid q2
  have Q3 := Lib.hid q3
  clear he q1 q2 q3 h
  rcases hne with rfl | rfl
  all_goals
    show Calls Tryd.prog 46 #[.agg #[vi rg, .slice rA ri.length rcap], vi issue, vi number, .agg #[vi a, vi b]] w _
    go_enter Tryd.func46, Tryd.ntmps46
    go_wp2_with fail
    (refine wp_region_grow_lit (by kernel_rfl) (by kernel_rfl) ?_; (repeat (go_big_quiet_step (first | (go_at_call 32; refine Calls.grow_same (tween_is Q1.out _)) | (go_at_call 74; refine Calls.grow_same (isNumber_is Q2.out _)) | (go_at_call 50; refine Calls.grow_of (proper_is Q3.out _)) | (go_at_call 73; refine Calls.grow_of (asked_is HE.out _ (HR.out.to (by (repeat (first | exact Below.refl _ _ | refine Below.setCell ?_ (by first | omega | (simp; omega) | (simp; done)) _ | refine Below.alloc ?_ (by first | omega | (simp; omega) | (simp; done)) _ | refine Below.drew ?_ | refine below_drewN ?_ _ | refine Below.trans ?_ (Below.mono (plus_below _ _) (by first | omega | (simp; omega) | (simp; done))) | refine Below.trans ?_ (Below.mono (by assumption) (by first | omega | (simp; omega) | (simp; done)))))))))))); refine wpQuiet_nil ?_; intro w1 hw1; have hb1 := below_of_plus hw1; clear hw1; obtain ⟨⟨hc1, hf1, hs1⟩, hz1⟩ := after hb1; (try simp only [World.size_alloc, World.size_setCell, World.size_drew] at hz1))
    go_wp2_with fail
    go_ret2
    refine ⟨rfl, ?_⟩
    (repeat (first | exact Below.refl _ _ | refine Below.setCell ?_ (by first | omega | (simp; omega) | (simp; done)) _ | refine Below.alloc ?_ (by first | omega | (simp; omega) | (simp; done)) _ | refine Below.drew ?_ | refine below_drewN ?_ _ | refine Below.trans ?_ (Below.mono (by assumption) (by first | omega | (simp; omega) | (simp; done)))))
end Go.Proofs.YtpcajmkmmkmekaaDoor
