/- Contract of BookSums: it answers true. -/
import Derived.Test.YtpcajmkmmkmekaaGreatDoorXD17
import Derived.Test.YtpcajmkmmkmekaaGreatDoorGk
import Derived.Test.YtpcajmkmmkmekaaGreatDoorGl
import Derived.Test.YtpcajmkmmkmekaaGreatDoorGp
set_option linter.unusedVariables false
set_option linter.unusedSimpArgs false
namespace Go.Proofs.YtpcajmkmmkmekaaGreatDoor
open Go Go.RowKit
set_option maxHeartbeats 8000000
set_option maxRecDepth 100000 in
theorem sums_law (r : Rack) (a b : Int) (A : Option Addr) (cap : Nat) (ls : List Line) (w : World) (hl : Lim w) (hr : RackAt w w.heap.size r) (hls : LinesAt w w.heap.size A cap ls) :
    Calls Tryz.prog 5 #[r.val, .agg #[vi a, vi b], .slice A ls.length cap] w fun e w' => e = .returned (.bool true) ∧ Below w.heap.size w w' := by
  obtain ⟨SV, hSV⟩ : ∃ x, x = sumV r a ls := ⟨_, rfl⟩
  obtain ⟨SE, hSE⟩ : ∃ x, x = sumErr r a ls := ⟨_, rfl⟩
  obtain ⟨CD, hCD⟩ : ∃ x, x = cheapD r a b ls := ⟨_, rfl⟩
  obtain ⟨CN, hCN⟩ : ∃ x, x = cheapN r a b ls := ⟨_, rfl⟩
  obtain ⟨CE, hCE⟩ : ∃ x, x = cheapErr r a b ls := ⟨_, rfl⟩
  have C1 := Lib.hid (fun (W : World) hl hr hls => Sum_any r a A cap ls W hl hr hls)
  have C2 := Lib.hid (fun (W : World) hr hls => rSum_any r a ls A cap W hr hls)
  have C3 := Lib.hid (fun (W : World) hl hr hls => Cheapest_any r a b A cap ls W hl hr hls)
  have C4 := Lib.hid (fun (W : World) hr hls => rCheapest_any r a b ls A cap W hr hls)
  rw [← hSV, ← hSE] at C1 C2
  rw [← hCD, ← hCN, ← hCE] at C3 C4
  have HR := Lib.hid hr
  have HLS := Lib.hid hls
  clear hSV hSE hCD hCN hCE hr hls
  obtain ⟨rg, rA, rcap, ri⟩ := r
  show Calls Tryz.prog 5 #[.agg #[vi rg, .slice rA ri.length rcap], .agg #[vi a, vi b], .slice A ls.length cap] w _
  go_enter Tryz.func5, Tryz.ntmps5
  go_wp2_with fail
  refine (C1.out _ (by repeat (first | assumption | refine Lim.alloc ?_ _ | refine Lim.setCell ?_ (by first | (simp; done) | (simp; omega) | omega) _ | refine Lim.drew ?_)) (HR.out.to (by (repeat (first | exact Below.refl _ _ | refine Below.setCell ?_ (by first | omega | (simp; omega) | (simp; done)) _ | refine Below.alloc ?_ (by first | omega | (simp; omega) | (simp; done)) _ | refine Below.drew ?_ | refine below_drewN ?_ _ | refine Below.trans ?_ (Below.mono (by assumption) (by first | omega | (simp; omega) | (simp; done))))))) (HLS.out.to (by (repeat (first | exact Below.refl _ _ | refine Below.setCell ?_ (by first | omega | (simp; omega) | (simp; done)) _ | refine Below.alloc ?_ (by first | omega | (simp; omega) | (simp; done)) _ | refine Below.drew ?_ | refine below_drewN ?_ _ | refine Below.trans ?_ (Below.mono (by assumption) (by first | omega | (simp; omega) | (simp; done)))))))).mono ?_
  rintro e W ⟨rfl, hb⟩
  have HB0 : Below w.heap.size w W := by (repeat (first | exact Below.refl _ _ | refine Below.setCell ?_ (by first | omega | (simp; omega) | (simp; done)) _ | refine Below.alloc ?_ (by first | omega | (simp; omega) | (simp; done)) _ | refine Below.drew ?_ | refine below_drewN ?_ _ | refine Below.trans ?_ (Below.mono (by assumption) (by first | omega | (simp; omega) | (simp; done)))))
  have c0 : W.cell? ⟨w.heap.size, 0, none⟩ = some (vi rg) := cell_keep hb (by simp [go_sem])
  have c1 : W.cell? ⟨w.heap.size, 1, none⟩ = some (.slice rA ri.length rcap) := cell_keep hb (by simp [go_sem])
  have f0 : W.cell? ⟨w.heap.size + 1, 0, none⟩ = some (vi a) := cell_keep hb (by simp [go_sem])
  have f1 : W.cell? ⟨w.heap.size + 1, 1, none⟩ = some (vi b) := cell_keep hb (by simp [go_sem])
  have zc := cell_lt c0
  have zf := cell_lt f0
  clear hb
  go_wp2_with fail
  refine (C2.out _ (HR.out.to HB0) (HLS.out.to HB0)).mono ?_
  rintro e W1 ⟨rfl, hb1⟩
  have HB1 : Below w.heap.size w W1 := HB0.trans (hb1.mono HB0.size)
  have c01 := cell_keep hb1 c0
  have c11 := cell_keep hb1 c1
  have f01 := cell_keep hb1 f0
  have f11 := cell_keep hb1 f1
  have zc1 := cell_lt c01
  have zf1 := cell_lt f01
  clear hb1 c0 c1 f0 f1 zc zf
  go_wp2_with fail
  refine (C3.out _ (hl.next HB1) (HR.out.to HB1) (HLS.out.to HB1)).mono ?_
  rintro e W2 ⟨rfl, hb2⟩
  have HB2 : Below w.heap.size w W2 := HB1.trans (hb2.mono HB1.size)
  have c02 := cell_keep hb2 c01
  have c12 := cell_keep hb2 c11
  have f02 := cell_keep hb2 f01
  have f12 := cell_keep hb2 f11
  have zc2 := cell_lt c02
  have zf2 := cell_lt f02
  clear hb2 c01 c11 f01 f11 zc1 zf1
  go_wp2_with fail
  refine (C4.out _ (HR.out.to HB2) (HLS.out.to HB2)).mono ?_
  rintro e W3 ⟨rfl, hb3⟩
  have HB3 : Below w.heap.size w W3 := HB2.trans (hb3.mono HB2.size)
  clear hb3 c02 c12 f02 f12 zc2 zf2 C1 C2 C3 C4
  go_wp2_with (go_at_call 16; refine (works_any _ (hl.next HB3)).mono ?_; rintro e w9 ⟨rfl, hb10⟩)
  go_ret
  exact ⟨rfl, HB3.trans (hb10.mono HB3.size)⟩
end Go.Proofs.YtpcajmkmmkmekaaGreatDoor

