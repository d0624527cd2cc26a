/- Contract of the specification's Check: it answers 0 for a valid rack, 10 for any other. -/
import Derived.Test.YtpcajmkmmkmekaaGreatDoorXV2
import Derived.Test.YtpcajmkmmkmekaaGreatDoorGq
import Derived.Test.YtpcajmkmmkmekaaGreatDoorGb
import Derived.Laws.AppendOwn
import Derived.Deep.AppendLies
set_option linter.unusedVariables false
set_option linter.unusedSimpArgs false
namespace Go.Proofs.YtpcajmkmmkmekaaGreatDoor
open Go Go.RowKit
set_option maxHeartbeats 8000000
theorem entry_is {e : Entry} {v : Bool} (hv : entryR e = v) (w : World) (h : EntryAt w w.heap.size e) :
    Calls Tryz.prog 38 #[e.val] w fun e' w' => e' = .returned (.bool v) ∧ Below w.heap.size w w' := by
  subst hv
  exact entry_any e w h
set_option maxRecDepth 100000 in
theorem rcheck_no (r : Rack) (w : World) (h : RackAt w w.heap.size r) (hb : (limB 0 r.goods && limB 1 r.issues.length) = false) :
    Calls Tryz.prog 10 #[r.val] w fun e w' => e = .returned (vi 10) ∧ Below w.heap.size w w' := by
  rw [rackB_ref] at hb
  obtain ⟨rg, rA, rcap, ri⟩ := r
  have hcap := IssuesAt.cap h
  have hlen := IssuesAt.len h
  have hfew := IssuesAt.few h
  simp only at hb
  show Calls Tryz.prog 10 #[.agg #[vi rg, .slice rA ri.length rcap]] w _
  rcases s1 : (decide (1 ≤ rg) && decide (rg ≤ 24)) with _ | _
  · clear hb
    go_enter Tryz.func10, Tryz.ntmps10
    go_wp2_with (go_at_call 36; refine (tween_is s1 _).mono ?_; rintro e w1 ⟨rfl, rfl⟩)
    go_rounds 2
    go_ret
    refine ⟨rfl, ?_⟩
    (repeat (first | exact Below.refl _ _ | refine Below.setCell ?_ (by first | omega | (simp; omega) | (simp; done)) _ | refine Below.alloc ?_ (by first | omega | (simp; omega) | (simp; done)) _ | refine Below.drew ?_ | refine below_drewN ?_ _ | refine Below.trans ?_ (Below.mono (by assumption) (by first | omega | (simp; omega) | (simp; done)))))
  · have s2 : (decide (1 ≤ (ri.length : Int)) && decide ((ri.length : Int) ≤ 4)) = false := by simpa [s1] using hb
    have S1 := Lib.hid s1
    have S2 := Lib.hid s2
    clear hb s1 s2
    go_enter Tryz.func10, Tryz.ntmps10
    go_wp2_with fail
    refine (tween_is S1.out _).mono ?_
    rintro e w1 ⟨rfl, rfl⟩
    go_wp2_with fail
    refine (tween_is S2.out _).mono ?_
    rintro e w1 ⟨rfl, rfl⟩
    go_wp2_with fail
    go_rounds 2
    go_ret
    refine ⟨rfl, ?_⟩
    (repeat (first | exact Below.refl _ _ | refine Below.setCell ?_ (by first | omega | (simp; omega) | (simp; done)) _ | refine Below.alloc ?_ (by first | omega | (simp; omega) | (simp; done)) _ | refine Below.drew ?_ | refine below_drewN ?_ _ | refine Below.trans ?_ (Below.mono (by assumption) (by first | omega | (simp; omega) | (simp; done)))))
end Go.Proofs.YtpcajmkmmkmekaaGreatDoor

