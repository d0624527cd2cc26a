/- Contracts of the specification's Sum, Cheapest, where they are asked wrongly. -/
import Derived.Test.YtpcajmkmmkmekaaGreatDoorXD15
set_option linter.unusedVariables false
set_option linter.unusedSimpArgs false
namespace Go.Proofs.YtpcajmkmmkmekaaGreatDoor
open Go Go.RowKit
set_option maxHeartbeats 4000000
set_option maxRecDepth 100000 in
theorem rSum_err (r : Rack) (d : Int) (ls : List Line) (e : Int) (he : askedE r ((limB 3 d) && (rLinesB r.goods ls)) = e) (hne : e = 10 ∨ e = 11) (w : World) (h : RackAt w w.heap.size r) (A : Option Addr) (cap : Nat) (hls : LinesAt w w.heap.size A cap ls) :
    Calls Tryz.prog 24 #[r.val, vi d, .slice A ls.length cap] w fun e' w' => e' = .returned (.tuple #[vi 0, vi e]) ∧ Below w.heap.size w w' := by
  have hcap := IssuesAt.cap h
  have hlen := IssuesAt.len h
  have HR := Lib.hid h
  obtain ⟨rg, rA, rcap, ri⟩ := r
  have HLS := Lib.hid hls
  have lcap := hls.cap
  have llen := hls.len
  simp only at he hcap hlen
  rcases q1 : (limB 3 d) with _ | _
  · rw [q1] at he
    have HE : Hid (askedE ⟨rg, rA, rcap, ri⟩ false = e) := he
    have Q1 := Lib.hid q1
    clear he h q1
    rcases hne with rfl | rfl
    all_goals
      show Calls Tryz.prog 24 #[.agg #[vi rg, .slice rA ri.length rcap], vi d, .slice A ls.length cap] w _
      go_enter Tryz.func24, Tryz.ntmps24
      go_wp2_with fail
      (refine wp_region_grow_lit (by kernel_rfl) (by kernel_rfl) ?_; (repeat (go_big_quiet_step (first | (go_at_call 45; refine Calls.grow_same (risDay_is Q1.out _)) | (go_at_call 30; refine Calls.grow_of (asked_is HE.out _ (HR.out.to (by (repeat (first | exact Below.refl _ _ | refine Below.setCell ?_ (by first | omega | (simp; omega) | (simp; done)) _ | refine Below.alloc ?_ (by first | omega | (simp; omega) | (simp; done)) _ | refine Below.drew ?_ | refine below_drewN ?_ _ | refine Below.trans ?_ (Below.mono (plus_below _ _) (by first | omega | (simp; omega) | (simp; done))) | refine Below.trans ?_ (Below.mono (by assumption) (by first | omega | (simp; omega) | (simp; done)))))))))))); refine wpQuiet_nil ?_; intro w1 hw1; have hb1 := below_of_plus hw1; clear hw1; obtain ⟨⟨hc1, hf1, hs1⟩, hz1⟩ := after hb1; (try simp only [World.size_alloc, World.size_setCell, World.size_drew] at hz1))
      go_wp2_with fail
      go_ret2
      refine ⟨rfl, ?_⟩
      (repeat (first | exact Below.refl _ _ | refine Below.setCell ?_ (by first | omega | (simp; omega) | (simp; done)) _ | refine Below.alloc ?_ (by first | omega | (simp; omega) | (simp; done)) _ | refine Below.drew ?_ | refine below_drewN ?_ _ | refine Below.trans ?_ (Below.mono (by assumption) (by first | omega | (simp; omega) | (simp; done)))))
  rcases q2 : (rLinesB rg ls) with _ | _
  · rw [q1, q2] at he
    have HE : Hid (askedE ⟨rg, rA, rcap, ri⟩ false = e) := he
    have Q1 := Lib.hid q1
    have Q2 := Lib.hid q2
    clear he h q1 q2
    rcases hne with rfl | rfl
    all_goals
      show Calls Tryz.prog 24 #[.agg #[vi rg, .slice rA ri.length rcap], vi d, .slice A ls.length cap] w _
      go_enter Tryz.func24, Tryz.ntmps24
      go_wp2_with fail
      (refine wp_region_grow_lit (by kernel_rfl) (by kernel_rfl) ?_; (repeat (go_big_quiet_step (first | (go_at_call 45; refine Calls.grow_same (risDay_is Q1.out _)) | (go_at_call 67; refine Calls.grow_of (rareLines_is (r := ⟨rg, rA, rcap, ri⟩) Q2.out A cap _ (HLS.out.to (by (repeat (first | exact Below.refl _ _ | refine Below.setCell ?_ (by first | omega | (simp; omega) | (simp; done)) _ | refine Below.alloc ?_ (by first | omega | (simp; omega) | (simp; done)) _ | refine Below.drew ?_ | refine below_drewN ?_ _ | refine Below.trans ?_ (Below.mono (plus_below _ _) (by first | omega | (simp; omega) | (simp; done))) | refine Below.trans ?_ (Below.mono (by assumption) (by first | omega | (simp; omega) | (simp; done))))))))) | (go_at_call 30; refine Calls.grow_of (asked_is HE.out _ (HR.out.to (by (repeat (first | exact Below.refl _ _ | refine Below.setCell ?_ (by first | omega | (simp; omega) | (simp; done)) _ | refine Below.alloc ?_ (by first | omega | (simp; omega) | (simp; done)) _ | refine Below.drew ?_ | refine below_drewN ?_ _ | refine Below.trans ?_ (Below.mono (plus_below _ _) (by first | omega | (simp; omega) | (simp; done))) | refine Below.trans ?_ (Below.mono (by assumption) (by first | omega | (simp; omega) | (simp; done)))))))))))); refine wpQuiet_nil ?_; intro w1 hw1; have hb1 := below_of_plus hw1; clear hw1; obtain ⟨⟨hc1, hf1, hs1⟩, hz1⟩ := after hb1; (try simp only [World.size_alloc, World.size_setCell, World.size_drew] at hz1))
      go_wp2_with fail
      go_ret2
      refine ⟨rfl, ?_⟩
      (repeat (first | exact Below.refl _ _ | refine Below.setCell ?_ (by first | omega | (simp; omega) | (simp; done)) _ | refine Below.alloc ?_ (by first | omega | (simp; omega) | (simp; done)) _ | refine Below.drew ?_ | refine below_drewN ?_ _ | refine Below.trans ?_ (Below.mono (by assumption) (by first | omega | (simp; omega) | (simp; done)))))
  rw [q1, q2] at he
  have HE : Hid (askedE ⟨rg, rA, rcap, ri⟩ true = e) := he
  have Q1 := Lib.hid q1
  have Q2 := Lib.hid q2
  clear he h q1 q2
  rcases hne with rfl | rfl
  all_goals
    show Calls Tryz.prog 24 #[.agg #[vi rg, .slice rA ri.length rcap], vi d, .slice A ls.length cap] w _
    go_enter Tryz.func24, Tryz.ntmps24
    go_wp2_with fail
    (refine wp_region_grow_lit (by kernel_rfl) (by kernel_rfl) ?_; (repeat (go_big_quiet_step (first | (go_at_call 45; refine Calls.grow_same (risDay_is Q1.out _)) | (go_at_call 67; refine Calls.grow_of (rareLines_is (r := ⟨rg, rA, rcap, ri⟩) Q2.out A cap _ (HLS.out.to (by (repeat (first | exact Below.refl _ _ | refine Below.setCell ?_ (by first | omega | (simp; omega) | (simp; done)) _ | refine Below.alloc ?_ (by first | omega | (simp; omega) | (simp; done)) _ | refine Below.drew ?_ | refine below_drewN ?_ _ | refine Below.trans ?_ (Below.mono (plus_below _ _) (by first | omega | (simp; omega) | (simp; done))) | refine Below.trans ?_ (Below.mono (by assumption) (by first | omega | (simp; omega) | (simp; done))))))))) | (go_at_call 30; refine Calls.grow_of (asked_is HE.out _ (HR.out.to (by (repeat (first | exact Below.refl _ _ | refine Below.setCell ?_ (by first | omega | (simp; omega) | (simp; done)) _ | refine Below.alloc ?_ (by first | omega | (simp; omega) | (simp; done)) _ | refine Below.drew ?_ | refine below_drewN ?_ _ | refine Below.trans ?_ (Below.mono (plus_below _ _) (by first | omega | (simp; omega) | (simp; done))) | refine Below.trans ?_ (Below.mono (by assumption) (by first | omega | (simp; omega) | (simp; done)))))))))))); refine wpQuiet_nil ?_; intro w1 hw1; have hb1 := below_of_plus hw1; clear hw1; obtain ⟨⟨hc1, hf1, hs1⟩, hz1⟩ := after hb1; (try simp only [World.size_alloc, World.size_setCell, World.size_drew] at hz1))
    go_wp2_with fail
    go_ret2
    refine ⟨rfl, ?_⟩
    (repeat (first | exact Below.refl _ _ | refine Below.setCell ?_ (by first | omega | (simp; omega) | (simp; done)) _ | refine Below.alloc ?_ (by first | omega | (simp; omega) | (simp; done)) _ | refine Below.drew ?_ | refine below_drewN ?_ _ | refine Below.trans ?_ (Below.mono (by assumption) (by first | omega | (simp; omega) | (simp; done)))))
set_option maxRecDepth 100000 in
theorem rCheapest_err (r : Rack) (a b : Int) (ls : List Line) (e : Int) (he : askedE r ((limS 3 a b) && (rLinesB r.goods ls)) = e) (hne : e = 10 ∨ e = 11) (w : World) (h : RackAt w w.heap.size r) (A : Option Addr) (cap : Nat) (hls : LinesAt w w.heap.size A cap ls) :
    Calls Tryz.prog 26 #[r.val, .agg #[vi a, vi b], .slice A ls.length cap] w fun e' w' => e' = .returned (.tuple #[vi 0, vi 0, vi e]) ∧ Below w.heap.size w w' := by
  have hcap := IssuesAt.cap h
  have hlen := IssuesAt.len h
  have HR := Lib.hid h
  obtain ⟨rg, rA, rcap, ri⟩ := r
  have HLS := Lib.hid hls
  have lcap := hls.cap
  have llen := hls.len
  simp only at he hcap hlen
  rcases q1 : (limS 3 a b) with _ | _
  · rw [q1] at he
    have HE : Hid (askedE ⟨rg, rA, rcap, ri⟩ false = e) := he
    have Q1 := Lib.hid q1
    clear he h q1
    rcases hne with rfl | rfl
    all_goals
      show Calls Tryz.prog 26 #[.agg #[vi rg, .slice rA ri.length rcap], .agg #[vi a, vi b], .slice A ls.length cap] w _
      go_enter Tryz.func26, Tryz.ntmps26
      go_wp2_with fail
      (refine wp_region_grow_lit (by kernel_rfl) (by kernel_rfl) ?_; (repeat (go_big_quiet_step (first | (go_at_call 31; refine Calls.grow_of (risDays_is Q1.out _)) | (go_at_call 30; refine Calls.grow_of (asked_is HE.out _ (HR.out.to (by (repeat (first | exact Below.refl _ _ | refine Below.setCell ?_ (by first | omega | (simp; omega) | (simp; done)) _ | refine Below.alloc ?_ (by first | omega | (simp; omega) | (simp; done)) _ | refine Below.drew ?_ | refine below_drewN ?_ _ | refine Below.trans ?_ (Below.mono (plus_below _ _) (by first | omega | (simp; omega) | (simp; done))) | refine Below.trans ?_ (Below.mono (by assumption) (by first | omega | (simp; omega) | (simp; done)))))))))))); refine wpQuiet_nil ?_; intro w1 hw1; have hb1 := below_of_plus hw1; clear hw1; obtain ⟨⟨hc1, hf1, hs1⟩, hz1⟩ := after hb1; (try simp only [World.size_alloc, World.size_setCell, World.size_drew] at hz1))
      go_wp2_with fail
      go_ret3
      refine ⟨rfl, ?_⟩
      (repeat (first | exact Below.refl _ _ | refine Below.setCell ?_ (by first | omega | (simp; omega) | (simp; done)) _ | refine Below.alloc ?_ (by first | omega | (simp; omega) | (simp; done)) _ | refine Below.drew ?_ | refine below_drewN ?_ _ | refine Below.trans ?_ (Below.mono (by assumption) (by first | omega | (simp; omega) | (simp; done)))))
  rcases q2 : (rLinesB rg ls) with _ | _
  · rw [q1, q2] at he
    have HE : Hid (askedE ⟨rg, rA, rcap, ri⟩ false = e) := he
    have Q1 := Lib.hid q1
    have Q2 := Lib.hid q2
    clear he h q1 q2
    rcases hne with rfl | rfl
    all_goals
      show Calls Tryz.prog 26 #[.agg #[vi rg, .slice rA ri.length rcap], .agg #[vi a, vi b], .slice A ls.length cap] w _
      go_enter Tryz.func26, Tryz.ntmps26
      go_wp2_with fail
      (refine wp_region_grow_lit (by kernel_rfl) (by kernel_rfl) ?_; (repeat (go_big_quiet_step (first | (go_at_call 31; refine Calls.grow_of (risDays_is Q1.out _)) | (go_at_call 67; refine Calls.grow_of (rareLines_is (r := ⟨rg, rA, rcap, ri⟩) Q2.out A cap _ (HLS.out.to (by (repeat (first | exact Below.refl _ _ | refine Below.setCell ?_ (by first | omega | (simp; omega) | (simp; done)) _ | refine Below.alloc ?_ (by first | omega | (simp; omega) | (simp; done)) _ | refine Below.drew ?_ | refine below_drewN ?_ _ | refine Below.trans ?_ (Below.mono (plus_below _ _) (by first | omega | (simp; omega) | (simp; done))) | refine Below.trans ?_ (Below.mono (by assumption) (by first | omega | (simp; omega) | (simp; done))))))))) | (go_at_call 30; refine Calls.grow_of (asked_is HE.out _ (HR.out.to (by (repeat (first | exact Below.refl _ _ | refine Below.setCell ?_ (by first | omega | (simp; omega) | (simp; done)) _ | refine Below.alloc ?_ (by first | omega | (simp; omega) | (simp; done)) _ | refine Below.drew ?_ | refine below_drewN ?_ _ | refine Below.trans ?_ (Below.mono (plus_below _ _) (by first | omega | (simp; omega) | (simp; done))) | refine Below.trans ?_ (Below.mono (by assumption) (by first | omega | (simp; omega) | (simp; done)))))))))))); refine wpQuiet_nil ?_; intro w1 hw1; have hb1 := below_of_plus hw1; clear hw1; obtain ⟨⟨hc1, hf1, hs1⟩, hz1⟩ := after hb1; (try simp only [World.size_alloc, World.size_setCell, World.size_drew] at hz1))
      go_wp2_with fail
      go_ret3
      refine ⟨rfl, ?_⟩
      (repeat (first | exact Below.refl _ _ | refine Below.setCell ?_ (by first | omega | (simp; omega) | (simp; done)) _ | refine Below.alloc ?_ (by first | omega | (simp; omega) | (simp; done)) _ | refine Below.drew ?_ | refine below_drewN ?_ _ | refine Below.trans ?_ (Below.mono (by assumption) (by first | omega | (simp; omega) | (simp; done)))))
  rw [q1, q2] at he
  have HE : Hid (askedE ⟨rg, rA, rcap, ri⟩ true = e) := he
  have Q1 := Lib.hid q1
  have Q2 := Lib.hid q2
  clear he h q1 q2
  rcases hne with rfl | rfl
  all_goals
    show Calls Tryz.prog 26 #[.agg #[vi rg, .slice rA ri.length rcap], .agg #[vi a, vi b], .slice A ls.length cap] w _
    go_enter Tryz.func26, Tryz.ntmps26
    go_wp2_with fail
    (refine wp_region_grow_lit (by kernel_rfl) (by kernel_rfl) ?_; (repeat (go_big_quiet_step (first | (go_at_call 31; refine Calls.grow_of (risDays_is Q1.out _)) | (go_at_call 67; refine Calls.grow_of (rareLines_is (r := ⟨rg, rA, rcap, ri⟩) Q2.out A cap _ (HLS.out.to (by (repeat (first | exact Below.refl _ _ | refine Below.setCell ?_ (by first | omega | (simp; omega) | (simp; done)) _ | refine Below.alloc ?_ (by first | omega | (simp; omega) | (simp; done)) _ | refine Below.drew ?_ | refine below_drewN ?_ _ | refine Below.trans ?_ (Below.mono (plus_below _ _) (by first | omega | (simp; omega) | (simp; done))) | refine Below.trans ?_ (Below.mono (by assumption) (by first | omega | (simp; omega) | (simp; done))))))))) | (go_at_call 30; refine Calls.grow_of (asked_is HE.out _ (HR.out.to (by (repeat (first | exact Below.refl _ _ | refine Below.setCell ?_ (by first | omega | (simp; omega) | (simp; done)) _ | refine Below.alloc ?_ (by first | omega | (simp; omega) | (simp; done)) _ | refine Below.drew ?_ | refine below_drewN ?_ _ | refine Below.trans ?_ (Below.mono (plus_below _ _) (by first | omega | (simp; omega) | (simp; done))) | refine Below.trans ?_ (Below.mono (by assumption) (by first | omega | (simp; omega) | (simp; done)))))))))))); refine wpQuiet_nil ?_; intro w1 hw1; have hb1 := below_of_plus hw1; clear hw1; obtain ⟨⟨hc1, hf1, hs1⟩, hz1⟩ := after hb1; (try simp only [World.size_alloc, World.size_setCell, World.size_drew] at hz1))
    go_wp2_with fail
    go_ret3
    refine ⟨rfl, ?_⟩
    (repeat (first | exact Below.refl _ _ | refine Below.setCell ?_ (by first | omega | (simp; omega) | (simp; done)) _ | refine Below.alloc ?_ (by first | omega | (simp; omega) | (simp; done)) _ | refine Below.drew ?_ | refine below_drewN ?_ _ | refine Below.trans ?_ (Below.mono (by assumption) (by first | omega | (simp; omega) | (simp; done)))))
end Go.Proofs.YtpcajmkmmkmekaaGreatDoor

