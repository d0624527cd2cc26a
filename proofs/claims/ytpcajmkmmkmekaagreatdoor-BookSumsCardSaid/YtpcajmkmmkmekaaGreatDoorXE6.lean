/- Contracts of the specification's Price, Prices, Last, where they are asked wrongly. -/
import Derived.Test.YtpcajmkmmkmekaaGreatDoorXD3
set_option linter.unusedVariables false
set_option linter.unusedSimpArgs false
namespace Go.Proofs.YtpcajmkmmkmekaaGreatDoor
open Go Go.RowKit
set_option maxHeartbeats 4000000
set_option maxRecDepth 100000 in
theorem rPrice_err (r : Rack) (d : Int) (it : Item) (e : Int) (he : askedE r ((limB 3 d) && (rItemB r.goods it)) = e) (hne : e = 10 ∨ e = 11) (w : World) (h : RackAt w w.heap.size r) :
    Calls Tryz.prog 18 #[r.val, vi d, it.val] w fun e' w' => e' = .returned (.tuple #[vi 0, vi e]) ∧ Below w.heap.size w w' := by
  have hcap := IssuesAt.cap h
  have hlen := IssuesAt.len h
  have HR := Lib.hid h
  obtain ⟨rg, rA, rcap, ri⟩ := r
  obtain ⟨ig, is, ic⟩ := it
  simp only at he hcap hlen
  rcases q1 : (limB 3 d) with _ | _
  · rw [q1] at he
    have HE : Hid (askedE ⟨rg, rA, rcap, ri⟩ false = e) := he
    have Q1 := Lib.hid q1
    clear he h q1
    rcases hne with rfl | rfl
    all_goals
      show Calls Tryz.prog 18 #[.agg #[vi rg, .slice rA ri.length rcap], vi d, .agg #[vi ig, vi is, vi ic]] w _
      go_enter Tryz.func18, Tryz.ntmps18
      go_wp2_with fail
      (refine wp_region_grow_lit (by kernel_rfl) (by kernel_rfl) ?_; (repeat (go_big_quiet_step (first | (go_at_call 45; refine Calls.grow_same (risDay_is Q1.out _)) | (go_at_call 30; refine Calls.grow_of (asked_is HE.out _ (HR.out.to (by (repeat (first | exact Below.refl _ _ | refine Below.setCell ?_ (by first | omega | (simp; omega) | (simp; done)) _ | refine Below.alloc ?_ (by first | omega | (simp; omega) | (simp; done)) _ | refine Below.drew ?_ | refine below_drewN ?_ _ | refine Below.trans ?_ (Below.mono (plus_below _ _) (by first | omega | (simp; omega) | (simp; done))) | refine Below.trans ?_ (Below.mono (by assumption) (by first | omega | (simp; omega) | (simp; done)))))))))))); refine wpQuiet_nil ?_; intro w1 hw1; have hb1 := below_of_plus hw1; clear hw1; obtain ⟨⟨hc1, hf1, hs1⟩, hz1⟩ := after hb1; (try simp only [World.size_alloc, World.size_setCell, World.size_drew] at hz1))
      go_wp2_with fail
      go_ret2
      refine ⟨rfl, ?_⟩
      (repeat (first | exact Below.refl _ _ | refine Below.setCell ?_ (by first | omega | (simp; omega) | (simp; done)) _ | refine Below.alloc ?_ (by first | omega | (simp; omega) | (simp; done)) _ | refine Below.drew ?_ | refine below_drewN ?_ _ | refine Below.trans ?_ (Below.mono (by assumption) (by first | omega | (simp; omega) | (simp; done)))))
  rcases q2 : (rItemB rg ⟨ig, is, ic⟩) with _ | _
  · rw [q1, q2] at he
    have HE : Hid (askedE ⟨rg, rA, rcap, ri⟩ false = e) := he
    have Q1 := Lib.hid q1
    have Q2 := Lib.hid q2
    clear he h q1 q2
    rcases hne with rfl | rfl
    all_goals
      show Calls Tryz.prog 18 #[.agg #[vi rg, .slice rA ri.length rcap], vi d, .agg #[vi ig, vi is, vi ic]] w _
      go_enter Tryz.func18, Tryz.ntmps18
      go_wp2_with fail
      (refine wp_region_grow_lit (by kernel_rfl) (by kernel_rfl) ?_; (repeat (go_big_quiet_step (first | (go_at_call 45; refine Calls.grow_same (risDay_is Q1.out _)) | (go_at_call 59; refine Calls.grow_of (risItem_is (r := ⟨rg, rA, rcap, ri⟩) (it := ⟨ig, is, ic⟩) Q2.out _)) | (go_at_call 30; refine Calls.grow_of (asked_is HE.out _ (HR.out.to (by (repeat (first | exact Below.refl _ _ | refine Below.setCell ?_ (by first | omega | (simp; omega) | (simp; done)) _ | refine Below.alloc ?_ (by first | omega | (simp; omega) | (simp; done)) _ | refine Below.drew ?_ | refine below_drewN ?_ _ | refine Below.trans ?_ (Below.mono (plus_below _ _) (by first | omega | (simp; omega) | (simp; done))) | refine Below.trans ?_ (Below.mono (by assumption) (by first | omega | (simp; omega) | (simp; done)))))))))))); refine wpQuiet_nil ?_; intro w1 hw1; have hb1 := below_of_plus hw1; clear hw1; obtain ⟨⟨hc1, hf1, hs1⟩, hz1⟩ := after hb1; (try simp only [World.size_alloc, World.size_setCell, World.size_drew] at hz1))
      go_wp2_with fail
      go_ret2
      refine ⟨rfl, ?_⟩
      (repeat (first | exact Below.refl _ _ | refine Below.setCell ?_ (by first | omega | (simp; omega) | (simp; done)) _ | refine Below.alloc ?_ (by first | omega | (simp; omega) | (simp; done)) _ | refine Below.drew ?_ | refine below_drewN ?_ _ | refine Below.trans ?_ (Below.mono (by assumption) (by first | omega | (simp; omega) | (simp; done)))))
  rw [q1, q2] at he
  have HE : Hid (askedE ⟨rg, rA, rcap, ri⟩ true = e) := he
  have Q1 := Lib.hid q1
  have Q2 := Lib.hid q2
  clear he h q1 q2
  rcases hne with rfl | rfl
  all_goals
    show Calls Tryz.prog 18 #[.agg #[vi rg, .slice rA ri.length rcap], vi d, .agg #[vi ig, vi is, vi ic]] w _
    go_enter Tryz.func18, Tryz.ntmps18
    go_wp2_with fail
    (refine wp_region_grow_lit (by kernel_rfl) (by kernel_rfl) ?_; (repeat (go_big_quiet_step (first | (go_at_call 45; refine Calls.grow_same (risDay_is Q1.out _)) | (go_at_call 59; refine Calls.grow_of (risItem_is (r := ⟨rg, rA, rcap, ri⟩) (it := ⟨ig, is, ic⟩) Q2.out _)) | (go_at_call 30; refine Calls.grow_of (asked_is HE.out _ (HR.out.to (by (repeat (first | exact Below.refl _ _ | refine Below.setCell ?_ (by first | omega | (simp; omega) | (simp; done)) _ | refine Below.alloc ?_ (by first | omega | (simp; omega) | (simp; done)) _ | refine Below.drew ?_ | refine below_drewN ?_ _ | refine Below.trans ?_ (Below.mono (plus_below _ _) (by first | omega | (simp; omega) | (simp; done))) | refine Below.trans ?_ (Below.mono (by assumption) (by first | omega | (simp; omega) | (simp; done)))))))))))); refine wpQuiet_nil ?_; intro w1 hw1; have hb1 := below_of_plus hw1; clear hw1; obtain ⟨⟨hc1, hf1, hs1⟩, hz1⟩ := after hb1; (try simp only [World.size_alloc, World.size_setCell, World.size_drew] at hz1))
    go_wp2_with fail
    go_ret2
    refine ⟨rfl, ?_⟩
    (repeat (first | exact Below.refl _ _ | refine Below.setCell ?_ (by first | omega | (simp; omega) | (simp; done)) _ | refine Below.alloc ?_ (by first | omega | (simp; omega) | (simp; done)) _ | refine Below.drew ?_ | refine below_drewN ?_ _ | refine Below.trans ?_ (Below.mono (by assumption) (by first | omega | (simp; omega) | (simp; done)))))
set_option maxRecDepth 100000 in
theorem rPrices_err (r : Rack) (a b : Int) (it : Item) (e : Int) (he : askedE r ((limS 3 a b) && (rItemB r.goods it)) = e) (hne : e = 10 ∨ e = 11) (w : World) (h : RackAt w w.heap.size r) :
    Calls Tryz.prog 20 #[r.val, .agg #[vi a, vi b], it.val] w fun e' w' => e' = .returned (.tuple #[.slice none 0 0, vi e]) ∧ Below w.heap.size w w' := by
  have hcap := IssuesAt.cap h
  have hlen := IssuesAt.len h
  have HR := Lib.hid h
  obtain ⟨rg, rA, rcap, ri⟩ := r
  obtain ⟨ig, is, ic⟩ := it
  simp only at he hcap hlen
  rcases q1 : (limS 3 a b) with _ | _
  · rw [q1] at he
    have HE : Hid (askedE ⟨rg, rA, rcap, ri⟩ false = e) := he
    have Q1 := Lib.hid q1
    clear he h q1
    rcases hne with rfl | rfl
    all_goals
      show Calls Tryz.prog 20 #[.agg #[vi rg, .slice rA ri.length rcap], .agg #[vi a, vi b], .agg #[vi ig, vi is, vi ic]] w _
      go_enter Tryz.func20, Tryz.ntmps20
      go_wp2_with fail
      (refine wp_region_grow_lit (by kernel_rfl) (by kernel_rfl) ?_; (repeat (go_big_quiet_step (first | (go_at_call 31; refine Calls.grow_of (risDays_is Q1.out _)) | (go_at_call 30; refine Calls.grow_of (asked_is HE.out _ (HR.out.to (by (repeat (first | exact Below.refl _ _ | refine Below.setCell ?_ (by first | omega | (simp; omega) | (simp; done)) _ | refine Below.alloc ?_ (by first | omega | (simp; omega) | (simp; done)) _ | refine Below.drew ?_ | refine below_drewN ?_ _ | refine Below.trans ?_ (Below.mono (plus_below _ _) (by first | omega | (simp; omega) | (simp; done))) | refine Below.trans ?_ (Below.mono (by assumption) (by first | omega | (simp; omega) | (simp; done)))))))))))); refine wpQuiet_nil ?_; intro w1 hw1; have hb1 := below_of_plus hw1; clear hw1; obtain ⟨⟨hc1, hf1, hs1⟩, hz1⟩ := after hb1; (try simp only [World.size_alloc, World.size_setCell, World.size_drew] at hz1))
      go_wp2_with fail
      go_ret2
      refine ⟨rfl, ?_⟩
      (repeat (first | exact Below.refl _ _ | refine Below.setCell ?_ (by first | omega | (simp; omega) | (simp; done)) _ | refine Below.alloc ?_ (by first | omega | (simp; omega) | (simp; done)) _ | refine Below.drew ?_ | refine below_drewN ?_ _ | refine Below.trans ?_ (Below.mono (by assumption) (by first | omega | (simp; omega) | (simp; done)))))
  rcases q2 : (rItemB rg ⟨ig, is, ic⟩) with _ | _
  · rw [q1, q2] at he
    have HE : Hid (askedE ⟨rg, rA, rcap, ri⟩ false = e) := he
    have Q1 := Lib.hid q1
    have Q2 := Lib.hid q2
    clear he h q1 q2
    rcases hne with rfl | rfl
    all_goals
      show Calls Tryz.prog 20 #[.agg #[vi rg, .slice rA ri.length rcap], .agg #[vi a, vi b], .agg #[vi ig, vi is, vi ic]] w _
      go_enter Tryz.func20, Tryz.ntmps20
      go_wp2_with fail
      (refine wp_region_grow_lit (by kernel_rfl) (by kernel_rfl) ?_; (repeat (go_big_quiet_step (first | (go_at_call 31; refine Calls.grow_of (risDays_is Q1.out _)) | (go_at_call 59; refine Calls.grow_of (risItem_is (r := ⟨rg, rA, rcap, ri⟩) (it := ⟨ig, is, ic⟩) Q2.out _)) | (go_at_call 30; refine Calls.grow_of (asked_is HE.out _ (HR.out.to (by (repeat (first | exact Below.refl _ _ | refine Below.setCell ?_ (by first | omega | (simp; omega) | (simp; done)) _ | refine Below.alloc ?_ (by first | omega | (simp; omega) | (simp; done)) _ | refine Below.drew ?_ | refine below_drewN ?_ _ | refine Below.trans ?_ (Below.mono (plus_below _ _) (by first | omega | (simp; omega) | (simp; done))) | refine Below.trans ?_ (Below.mono (by assumption) (by first | omega | (simp; omega) | (simp; done)))))))))))); refine wpQuiet_nil ?_; intro w1 hw1; have hb1 := below_of_plus hw1; clear hw1; obtain ⟨⟨hc1, hf1, hs1⟩, hz1⟩ := after hb1; (try simp only [World.size_alloc, World.size_setCell, World.size_drew] at hz1))
      go_wp2_with fail
      go_ret2
      refine ⟨rfl, ?_⟩
      (repeat (first | exact Below.refl _ _ | refine Below.setCell ?_ (by first | omega | (simp; omega) | (simp; done)) _ | refine Below.alloc ?_ (by first | omega | (simp; omega) | (simp; done)) _ | refine Below.drew ?_ | refine below_drewN ?_ _ | refine Below.trans ?_ (Below.mono (by assumption) (by first | omega | (simp; omega) | (simp; done)))))
  rw [q1, q2] at he
  have HE : Hid (askedE ⟨rg, rA, rcap, ri⟩ true = e) := he
  have Q1 := Lib.hid q1
  have Q2 := Lib.hid q2
  clear he h q1 q2
  rcases hne with rfl | rfl
  all_goals
    show Calls Tryz.prog 20 #[.agg #[vi rg, .slice rA ri.length rcap], .agg #[vi a, vi b], .agg #[vi ig, vi is, vi ic]] w _
    go_enter Tryz.func20, Tryz.ntmps20
    go_wp2_with fail
    (refine wp_region_grow_lit (by kernel_rfl) (by kernel_rfl) ?_; (repeat (go_big_quiet_step (first | (go_at_call 31; refine Calls.grow_of (risDays_is Q1.out _)) | (go_at_call 59; refine Calls.grow_of (risItem_is (r := ⟨rg, rA, rcap, ri⟩) (it := ⟨ig, is, ic⟩) Q2.out _)) | (go_at_call 30; refine Calls.grow_of (asked_is HE.out _ (HR.out.to (by (repeat (first | exact Below.refl _ _ | refine Below.setCell ?_ (by first | omega | (simp; omega) | (simp; done)) _ | refine Below.alloc ?_ (by first | omega | (simp; omega) | (simp; done)) _ | refine Below.drew ?_ | refine below_drewN ?_ _ | refine Below.trans ?_ (Below.mono (plus_below _ _) (by first | omega | (simp; omega) | (simp; done))) | refine Below.trans ?_ (Below.mono (by assumption) (by first | omega | (simp; omega) | (simp; done)))))))))))); refine wpQuiet_nil ?_; intro w1 hw1; have hb1 := below_of_plus hw1; clear hw1; obtain ⟨⟨hc1, hf1, hs1⟩, hz1⟩ := after hb1; (try simp only [World.size_alloc, World.size_setCell, World.size_drew] at hz1))
    go_wp2_with fail
    go_ret2
    refine ⟨rfl, ?_⟩
    (repeat (first | exact Below.refl _ _ | refine Below.setCell ?_ (by first | omega | (simp; omega) | (simp; done)) _ | refine Below.alloc ?_ (by first | omega | (simp; omega) | (simp; done)) _ | refine Below.drew ?_ | refine below_drewN ?_ _ | refine Below.trans ?_ (Below.mono (by assumption) (by first | omega | (simp; omega) | (simp; done)))))
set_option maxRecDepth 100000 in
theorem rLast_err (r : Rack) (it : Item) (e : Int) (he : askedE r ((rItemB r.goods it)) = e) (hne : e = 10 ∨ e = 11) (w : World) (h : RackAt w w.heap.size r) :
    Calls Tryz.prog 22 #[r.val, it.val] w fun e' w' => e' = .returned (.tuple #[vi 0, vi e]) ∧ Below w.heap.size w w' := by
  have hcap := IssuesAt.cap h
  have hlen := IssuesAt.len h
  have HR := Lib.hid h
  obtain ⟨rg, rA, rcap, ri⟩ := r
  obtain ⟨ig, is, ic⟩ := it
  simp only at he hcap hlen
  rcases q1 : (rItemB rg ⟨ig, is, ic⟩) with _ | _
  · rw [q1] at he
    have HE : Hid (askedE ⟨rg, rA, rcap, ri⟩ false = e) := he
    have Q1 := Lib.hid q1
    clear he h q1
    rcases hne with rfl | rfl
    all_goals
      show Calls Tryz.prog 22 #[.agg #[vi rg, .slice rA ri.length rcap], .agg #[vi ig, vi is, vi ic]] w _
      go_enter Tryz.func22, Tryz.ntmps22
      go_wp2_with fail
      (refine wp_region_grow_lit (by kernel_rfl) (by kernel_rfl) ?_; (repeat (go_big_quiet_step (first | (go_at_call 59; refine Calls.grow_of (risItem_is (r := ⟨rg, rA, rcap, ri⟩) (it := ⟨ig, is, ic⟩) Q1.out _)) | (go_at_call 30; refine Calls.grow_of (asked_is HE.out _ (HR.out.to (by (repeat (first | exact Below.refl _ _ | refine Below.setCell ?_ (by first | omega | (simp; omega) | (simp; done)) _ | refine Below.alloc ?_ (by first | omega | (simp; omega) | (simp; done)) _ | refine Below.drew ?_ | refine below_drewN ?_ _ | refine Below.trans ?_ (Below.mono (plus_below _ _) (by first | omega | (simp; omega) | (simp; done))) | refine Below.trans ?_ (Below.mono (by assumption) (by first | omega | (simp; omega) | (simp; done)))))))))))); refine wpQuiet_nil ?_; intro w1 hw1; have hb1 := below_of_plus hw1; clear hw1; obtain ⟨⟨hc1, hf1, hs1⟩, hz1⟩ := after hb1; (try simp only [World.size_alloc, World.size_setCell, World.size_drew] at hz1))
      go_wp2_with fail
      go_ret2
      refine ⟨rfl, ?_⟩
      (repeat (first | exact Below.refl _ _ | refine Below.setCell ?_ (by first | omega | (simp; omega) | (simp; done)) _ | refine Below.alloc ?_ (by first | omega | (simp; omega) | (simp; done)) _ | refine Below.drew ?_ | refine below_drewN ?_ _ | refine Below.trans ?_ (Below.mono (by assumption) (by first | omega | (simp; omega) | (simp; done)))))
  rw [q1] at he
  have HE : Hid (askedE ⟨rg, rA, rcap, ri⟩ true = e) := he
  have Q1 := Lib.hid q1
  clear he h q1
  rcases hne with rfl | rfl
  all_goals
    show Calls Tryz.prog 22 #[.agg #[vi rg, .slice rA ri.length rcap], .agg #[vi ig, vi is, vi ic]] w _
    go_enter Tryz.func22, Tryz.ntmps22
    go_wp2_with fail
    (refine wp_region_grow_lit (by kernel_rfl) (by kernel_rfl) ?_; (repeat (go_big_quiet_step (first | (go_at_call 59; refine Calls.grow_of (risItem_is (r := ⟨rg, rA, rcap, ri⟩) (it := ⟨ig, is, ic⟩) Q1.out _)) | (go_at_call 30; refine Calls.grow_of (asked_is HE.out _ (HR.out.to (by (repeat (first | exact Below.refl _ _ | refine Below.setCell ?_ (by first | omega | (simp; omega) | (simp; done)) _ | refine Below.alloc ?_ (by first | omega | (simp; omega) | (simp; done)) _ | refine Below.drew ?_ | refine below_drewN ?_ _ | refine Below.trans ?_ (Below.mono (plus_below _ _) (by first | omega | (simp; omega) | (simp; done))) | refine Below.trans ?_ (Below.mono (by assumption) (by first | omega | (simp; omega) | (simp; done)))))))))))); refine wpQuiet_nil ?_; intro w1 hw1; have hb1 := below_of_plus hw1; clear hw1; obtain ⟨⟨hc1, hf1, hs1⟩, hz1⟩ := after hb1; (try simp only [World.size_alloc, World.size_setCell, World.size_drew] at hz1))
    go_wp2_with fail
    go_ret2
    refine ⟨rfl, ?_⟩
    (repeat (first | exact Below.refl _ _ | refine Below.setCell ?_ (by first | omega | (simp; omega) | (simp; done)) _ | refine Below.alloc ?_ (by first | omega | (simp; omega) | (simp; done)) _ | refine Below.drew ?_ | refine below_drewN ?_ _ | refine Below.trans ?_ (Below.mono (by assumption) (by first | omega | (simp; omega) | (simp; done)))))
end Go.Proofs.YtpcajmkmmkmekaaGreatDoor

