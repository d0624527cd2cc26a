/- What all functions answer of a bad rack. -/
import Derived.Test.YtpcajmkmmkmekaaDoorXR15
import Derived.Test.YtpcajmkmmkmekaaDoorGn
import Derived.Test.YtpcajmkmmkmekaaDoorGl
import Derived.Test.YtpcajmkmmkmekaaDoorGj
import Derived.Test.YtpcajmkmmkmekaaDoorGi
import Derived.Test.YtpcajmkmmkmekaaDoorGf
import Derived.Test.YtpcajmkmmkmekaaDoorGe
import Derived.Test.YtpcajmkmmkmekaaDoorGd
set_option linter.unusedVariables false
set_option linter.unusedSimpArgs false
namespace Go.Proofs.YtpcajmkmmkmekaaDoor
open Go Go.RowKit
set_option maxHeartbeats 2000000
section
variable (r : Rack) (w : World) (hl : Lim w) (hr : RackAt w w.heap.size r) (hv : validB r = false)
include hl hr hv
theorem means_bad (a b n : Int) : Calls Tryd.prog 24 #[r.val, .agg #[vi a, vi b], vi n] w fun e w' => e = .returned (.tuple #[.slice none 0 0, vi 10]) ∧ Below w.heap.size w w' := by
  go_enter Tryd.func24, Tryd.ntmps24
  go_wp2_with (go_at_call 42; refine (check_bad r _ (by repeat (first | assumption | refine Lim.alloc ?_ _ | refine Lim.setCell ?_ (by first | (simp; done) | (simp; omega) | omega) _ | refine Lim.drew ?_)) (hr.to (by (repeat (first | exact Below.refl _ _ | refine Below.setCell ?_ (by first | omega | (simp; omega) | (simp; done)) _ | refine Below.alloc ?_ (by first | omega | (simp; omega) | (simp; done)) _ | refine Below.drew ?_ | refine below_drewN ?_ _ | refine Below.trans ?_ (Below.mono (by assumption) (by first | omega | (simp; omega) | (simp; done))))))) hv).mono ?_; rintro e w1 ⟨rfl, hb1⟩; obtain ⟨⟨hc1, hf1, hs1⟩, hz1⟩ := after hb1; (try simp only [World.size_alloc, World.size_setCell, World.size_drew] at hz1))
  go_ret2
  refine ⟨rfl, ?_⟩
  (repeat (first | exact Below.refl _ _ | refine Below.setCell ?_ (by first | omega | (simp; omega) | (simp; done)) _ | refine Below.alloc ?_ (by first | omega | (simp; omega) | (simp; done)) _ | refine Below.drew ?_ | refine below_drewN ?_ _ | refine Below.trans ?_ (Below.mono (by assumption) (by first | omega | (simp; omega) | (simp; done)))))
theorem twins_bad (d : Int) : Calls Tryd.prog 26 #[r.val, vi d] w fun e w' => e = .returned (.tuple #[.slice none 0 0, vi 10]) ∧ Below w.heap.size w w' := by
  go_enter Tryd.func26, Tryd.ntmps26
  go_wp2_with (go_at_call 42; refine (check_bad r _ (by repeat (first | assumption | refine Lim.alloc ?_ _ | refine Lim.setCell ?_ (by first | (simp; done) | (simp; omega) | omega) _ | refine Lim.drew ?_)) (hr.to (by (repeat (first | exact Below.refl _ _ | refine Below.setCell ?_ (by first | omega | (simp; omega) | (simp; done)) _ | refine Below.alloc ?_ (by first | omega | (simp; omega) | (simp; done)) _ | refine Below.drew ?_ | refine below_drewN ?_ _ | refine Below.trans ?_ (Below.mono (by assumption) (by first | omega | (simp; omega) | (simp; done))))))) hv).mono ?_; rintro e w1 ⟨rfl, hb1⟩; obtain ⟨⟨hc1, hf1, hs1⟩, hz1⟩ := after hb1; (try simp only [World.size_alloc, World.size_setCell, World.size_drew] at hz1))
  go_ret2
  refine ⟨rfl, ?_⟩
  (repeat (first | exact Below.refl _ _ | refine Below.setCell ?_ (by first | omega | (simp; omega) | (simp; done)) _ | refine Below.alloc ?_ (by first | omega | (simp; omega) | (simp; done)) _ | refine Below.drew ?_ | refine below_drewN ?_ _ | refine Below.trans ?_ (Below.mono (by assumption) (by first | omega | (simp; omega) | (simp; done)))))
theorem prices_bad (a b g s c : Int) : Calls Tryd.prog 34 #[r.val, .agg #[vi a, vi b], .agg #[vi g, vi s, vi c]] w fun e w' => e = .returned (.tuple #[.slice none 0 0, vi 10]) ∧ Below w.heap.size w w' := by
  go_enter Tryd.func34, Tryd.ntmps34
  go_wp2_with (go_at_call 42; refine (check_bad r _ (by repeat (first | assumption | refine Lim.alloc ?_ _ | refine Lim.setCell ?_ (by first | (simp; done) | (simp; omega) | omega) _ | refine Lim.drew ?_)) (hr.to (by (repeat (first | exact Below.refl _ _ | refine Below.setCell ?_ (by first | omega | (simp; omega) | (simp; done)) _ | refine Below.alloc ?_ (by first | omega | (simp; omega) | (simp; done)) _ | refine Below.drew ?_ | refine below_drewN ?_ _ | refine Below.trans ?_ (Below.mono (by assumption) (by first | omega | (simp; omega) | (simp; done))))))) hv).mono ?_; rintro e w1 ⟨rfl, hb1⟩; obtain ⟨⟨hc1, hf1, hs1⟩, hz1⟩ := after hb1; (try simp only [World.size_alloc, World.size_setCell, World.size_drew] at hz1))
  go_ret2
  refine ⟨rfl, ?_⟩
  (repeat (first | exact Below.refl _ _ | refine Below.setCell ?_ (by first | omega | (simp; omega) | (simp; done)) _ | refine Below.alloc ?_ (by first | omega | (simp; omega) | (simp; done)) _ | refine Below.drew ?_ | refine below_drewN ?_ _ | refine Below.trans ?_ (Below.mono (by assumption) (by first | omega | (simp; omega) | (simp; done)))))
theorem number_bad (a b c : Int) : Calls Tryd.prog 25 #[r.val, vi a, vi b, vi c] w fun e w' => e = .returned (.tuple #[vi 0, vi 10]) ∧ Below w.heap.size w w' := by
  have := number_any r a b c w hl hr
  rwa [show numErr r a b c = 10 by simp [numErr, hv], show numV r a b c = 0 by simp [numV, hv]] at this
theorem price_bad (d g s c : Int) : Calls Tryd.prog 30 #[r.val, vi d, .agg #[vi g, vi s, vi c]] w fun e w' => e = .returned (.tuple #[vi 0, vi 10]) ∧ Below w.heap.size w w' := by
  have := Price_any r d ⟨g, s, c⟩ w hl hr
  rwa [show priceErr r d ⟨g, s, c⟩ = 10 by simp [priceErr, hv], show priceV r d ⟨g, s, c⟩ = 0 by simp [priceV, hv]] at this
theorem last_bad (g s c : Int) : Calls Tryd.prog 35 #[r.val, .agg #[vi g, vi s, vi c]] w fun e w' => e = .returned (.tuple #[vi 0, vi 10]) ∧ Below w.heap.size w w' := by
  have := Last_any r ⟨g, s, c⟩ w hl hr
  rwa [show lastErr r ⟨g, s, c⟩ = 10 by simp [lastErr, hv], show lastV r ⟨g, s, c⟩ = 0 by simp [lastV, hv]] at this
theorem sum_bad (d : Int) : Calls Tryd.prog 37 #[r.val, vi d, .slice none 0 0] w fun e w' => e = .returned (.tuple #[vi 0, vi 10]) ∧ Below w.heap.size w w' := by
  have := Sum_any r d none 0 [] w hl hr ⟨Nat.le_refl _, by omega, fun hl => absurd hl (by simp)⟩
  rwa [show sumErr r d [] = 10 by simp [sumErr, hv], show sumV r d [] = 0 by simp [sumV, hv]] at this
theorem cheap_bad (a b : Int) : Calls Tryd.prog 38 #[r.val, .agg #[vi a, vi b], .slice none 0 0] w fun e w' => e = .returned (.tuple #[vi 0, vi 0, vi 10]) ∧ Below w.heap.size w w' := by
  have := Cheapest_any r a b none 0 [] w hl hr ⟨Nat.le_refl _, by omega, fun hl => absurd hl (by simp)⟩
  rwa [show cheapErr r a b [] = 10 by simp [cheapErr, hv], show cheapD r a b [] = 0 by simp [cheapD, hv], show cheapN r a b [] = 0 by simp [cheapN, hv]] at this
theorem sure_bad (a b c d : Int) : Calls Tryd.prog 17 #[r.val, vi a, vi b, .agg #[vi c, vi d]] w fun e w' => e = .returned (.tuple #[vi 0, vi 10]) ∧ Below w.heap.size w w' := by
  have := sure_any r a b c d w hl hr
  rwa [show sureErr r a b c d = 10 by simp [sureErr, lookErr, hv], show sureV r a b c d = 0 by simp [sureV, lookErr, hv]] at this
theorem look_bad (i n a b : Int) : Calls Tryd.prog 44 #[r.val, vi i, vi n, .agg #[vi a, vi b, .func (.func 45) #[] #[]]] w fun e w' => e = .returned (.tuple #[.slice none 0 0, vi 10]) ∧ Below w.heap.size w w' := by
  have HV : ∀ W : World, Lim W → RackAt W W.heap.size r → Calls Tryd.prog 70 #[r.val] W fun e w' => e = .returned (.bool false) ∧ Below W.heap.size W w' := fun W h1 h2 => by
    have := isValid_any r W h1 h2
    rwa [hv] at this
  have HVV := Lib.hid HV
  clear HV
  go_enter Tryd.func44, Tryd.ntmps44
  go_wp2_with (go_at_call 70; refine (HVV.out _ (by repeat (first | assumption | refine Lim.alloc ?_ _ | refine Lim.setCell ?_ (by first | (simp; done) | (simp; omega) | omega) _ | refine Lim.drew ?_)) (hr.to (by (repeat (first | exact Below.refl _ _ | refine Below.setCell ?_ (by first | omega | (simp; omega) | (simp; done)) _ | refine Below.alloc ?_ (by first | omega | (simp; omega) | (simp; done)) _ | refine Below.drew ?_ | refine below_drewN ?_ _ | refine Below.trans ?_ (Below.mono (by assumption) (by first | omega | (simp; omega) | (simp; done)))))))).mono ?_; rintro e w1 ⟨rfl, hb1⟩; obtain ⟨⟨hc1, hf1, hs1⟩, hz1⟩ := after hb1; (try simp only [World.size_alloc, World.size_setCell, World.size_drew] at hz1))
  go_ret2
  refine ⟨rfl, ?_⟩
  (repeat (first | exact Below.refl _ _ | refine Below.setCell ?_ (by first | omega | (simp; omega) | (simp; done)) _ | refine Below.alloc ?_ (by first | omega | (simp; omega) | (simp; done)) _ | refine Below.drew ?_ | refine below_drewN ?_ _ | refine Below.trans ?_ (Below.mono (by assumption) (by first | omega | (simp; omega) | (simp; done)))))
end
theorem fits_bad (r : Rack) (w : World) (hl : Lim w) (hr : RackAt w w.heap.size r) (hv : validB r = false) (i n a b : Int) : Calls Tryd.prog 14 #[r.val, vi i, vi n, .agg #[vi a, vi b]] w fun e w' => e = .returned (.tuple #[.slice none 0 0, vi 10]) ∧ Below w.heap.size w w' := by
  go_enter Tryd.func14, Tryd.ntmps14
  go_wp2_with (go_at_call 44; refine (look_bad r _ (by repeat (first | assumption | refine Lim.alloc ?_ _ | refine Lim.setCell ?_ (by first | (simp; done) | (simp; omega) | omega) _ | refine Lim.drew ?_)) (hr.to (by (repeat (first | exact Below.refl _ _ | refine Below.setCell ?_ (by first | omega | (simp; omega) | (simp; done)) _ | refine Below.alloc ?_ (by first | omega | (simp; omega) | (simp; done)) _ | refine Below.drew ?_ | refine below_drewN ?_ _ | refine Below.trans ?_ (Below.mono (by assumption) (by first | omega | (simp; omega) | (simp; done))))))) hv _ _ _ _).mono ?_; rintro e w1 ⟨rfl, hb1⟩; obtain ⟨⟨hc1, hf1, hs1⟩, hz1⟩ := after hb1; (try simp only [World.size_alloc, World.size_setCell, World.size_drew] at hz1))
  go_ret2
  refine ⟨rfl, ?_⟩
  (repeat (first | exact Below.refl _ _ | refine Below.setCell ?_ (by first | omega | (simp; omega) | (simp; done)) _ | refine Below.alloc ?_ (by first | omega | (simp; omega) | (simp; done)) _ | refine Below.drew ?_ | refine below_drewN ?_ _ | refine Below.trans ?_ (Below.mono (by assumption) (by first | omega | (simp; omega) | (simp; done)))))
end Go.Proofs.YtpcajmkmmkmekaaDoor
