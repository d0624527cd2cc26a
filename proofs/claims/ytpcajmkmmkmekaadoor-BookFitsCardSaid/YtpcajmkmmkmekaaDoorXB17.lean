/- Contract of BookFits: it answers true. -/
import Derived.Test.YtpcajmkmmkmekaaDoorXR12
import Derived.Test.YtpcajmkmmkmekaaDoorXR13
import Derived.Test.YtpcajmkmmkmekaaDoorGp
set_option linter.unusedVariables false
set_option linter.unusedSimpArgs false
namespace Go.Proofs.YtpcajmkmmkmekaaDoor
open Go Go.RowKit
set_option maxHeartbeats 8000000
theorem match_same {A B : Option Addr} {ca cb : Nat} {l : List Int} {n : Nat} (hn : l.length = n) (w : World) (ha : IntsAt w w.heap.size A l.length l) (hb : IntsAt w w.heap.size B l.length l) :
    Calls Tryd.prog 16 #[.slice A n ca, .slice B n cb] w fun e w' => e = .returned (.bool true) ∧ Below w.heap.size w w' := by
  subst hn
  have := match_free A B ca cb l l w ha hb
  rwa [decide_eq_true rfl] at this
theorem IntsAt.short {w : World} {B cap : Nat} {A : Option Addr} {l : List Int} (h : IntsAt w B A cap l) : IntsAt w B A l.length l := ⟨Nat.le_refl _, Nat.le_trans h.len h.cap, h.row⟩
set_option maxRecDepth 100000 in
theorem fits_law (r : Rack) (n0 n1 a b : Int) (w : World) (hl : Lim w) (hr : RackAt w w.heap.size r) :
    Calls Tryd.prog 3 #[r.val, .agg #[vi n0, vi n1], .agg #[vi a, vi b]] w fun e w' => e = .returned (.bool true) ∧ Below w.heap.size w w' := by
  obtain ⟨LL, hLL⟩ : ∃ LL, LL = lookL (fitsP a b) r n0 n1 a b := ⟨_, rfl⟩
  obtain ⟨LE, hLE⟩ : ∃ LE, LE = lookErr r n0 n1 a b := ⟨_, rfl⟩
  obtain ⟨SV, hSV⟩ : ∃ SV, SV = sureV r n0 n1 a b := ⟨_, rfl⟩
  obtain ⟨SE, hSE⟩ : ∃ SE, SE = sureErr r n0 n1 a b := ⟨_, rfl⟩
  have C1 := Lib.hid (fun (W : World) hl hr => fits_any r n0 n1 a b W hl hr)
  have C2 := Lib.hid (fun (W : World) hr => rfits_any r n0 n1 a b W hr)
  have C3 := Lib.hid (fun (W : World) hl hr => sure_any r n0 n1 a b W hl hr)
  have C4 := Lib.hid (fun (W : World) hr => rsure_any r n0 n1 a b W hr)
  rw [← hLL, ← hLE] at C1 C2
  rw [← hSV, ← hSE] at C3 C4
  obtain ⟨LN, hLN⟩ : ∃ LN, LL.length = LN := ⟨_, rfl⟩
  have HLN := Lib.hid hLN
  clear hLL hLE hSV hSE hLN
  obtain ⟨rg, rA, rcap, ri⟩ := r
  show Calls Tryd.prog 3 #[.agg #[vi rg, .slice rA ri.length rcap], .agg #[vi n0, vi n1], .agg #[vi a, vi b]] w _
  go_enter Tryd.func3, Tryd.ntmps3
  go_wp2_with fail
  refine (C1.out _ (by repeat (first | assumption | refine Lim.alloc ?_ _ | refine Lim.setCell ?_ (by first | (simp; done) | (simp; omega) | omega) _ | refine Lim.drew ?_)) (hr.to (by (repeat (first | exact Below.refl _ _ | refine Below.setCell ?_ (by first | omega | (simp; omega) | (simp; done)) _ | refine Below.alloc ?_ (by first | omega | (simp; omega) | (simp; done)) _ | refine Below.drew ?_ | refine below_drewN ?_ _ | refine Below.trans ?_ (Below.mono (by assumption) (by first | omega | (simp; omega) | (simp; done)))))))).mono ?_
  rintro e W ⟨v, rfl, ⟨lA, lc, rfl, hla⟩, hb⟩
  rw [HLN.out]
  have HB0 : Below w.heap.size w W := by (repeat (first | exact Below.refl _ _ | refine Below.setCell ?_ (by first | omega | (simp; omega) | (simp; done)) _ | refine Below.alloc ?_ (by first | omega | (simp; omega) | (simp; done)) _ | refine Below.drew ?_ | refine below_drewN ?_ _ | refine Below.trans ?_ (Below.mono (by assumption) (by first | omega | (simp; omega) | (simp; done)))))
  have c0 : W.cell? ⟨w.heap.size, 0, none⟩ = some (vi rg) := cell_keep hb (by simp [go_sem])
  have c1 : W.cell? ⟨w.heap.size, 1, none⟩ = some (.slice rA ri.length rcap) := cell_keep hb (by simp [go_sem])
  have m0 : W.cell? ⟨w.heap.size + 1, 0, none⟩ = some (vi n0) := cell_keep hb (by simp [go_sem])
  have m1 : W.cell? ⟨w.heap.size + 1, 1, none⟩ = some (vi n1) := cell_keep hb (by simp [go_sem])
  have f0 : W.cell? ⟨w.heap.size + 1 + 1, 0, none⟩ = some (vi a) := cell_keep hb (by simp [go_sem])
  have f1 : W.cell? ⟨w.heap.size + 1 + 1, 1, none⟩ = some (vi b) := cell_keep hb (by simp [go_sem])
  clear hb
  go_wp2_with fail
  refine (C2.out _ (hr.to HB0)).mono ?_
  rintro e W1 ⟨kA, kc, rfl, hka, hb1⟩
  rw [HLN.out]
  have HB1 : Below w.heap.size w W1 := HB0.trans (hb1.mono HB0.size)
  have hla1 := (hla.to hb1).short
  have c01 := cell_keep hb1 c0
  have c11 := cell_keep hb1 c1
  have m01 := cell_keep hb1 m0
  have m11 := cell_keep hb1 m1
  have f01 := cell_keep hb1 f0
  have f11 := cell_keep hb1 f1
  clear hb1 c0 c1 m0 m1 f0 f1 hla
  go_wp2_with fail
  refine (match_same HLN.out _ hla1 hka).mono ?_
  rintro e W2 ⟨rfl, hb2⟩
  have HB2 : Below w.heap.size w W2 := HB1.trans (hb2.mono HB1.size)
  have c02 := cell_keep hb2 c01
  have c12 := cell_keep hb2 c11
  have m02 := cell_keep hb2 m01
  have m12 := cell_keep hb2 m11
  have f02 := cell_keep hb2 f01
  have f12 := cell_keep hb2 f11
  clear hb2 c01 c11 m01 m11 f01 f11 hla1 hka
  go_wp2_with fail
  refine (C3.out _ (hl.next HB2) (hr.to HB2)).mono ?_
  rintro e W3 ⟨rfl, hb3⟩
  have HB3 : Below w.heap.size w W3 := HB2.trans (hb3.mono HB2.size)
  have c03 := cell_keep hb3 c02
  have c13 := cell_keep hb3 c12
  have m03 := cell_keep hb3 m02
  have m13 := cell_keep hb3 m12
  have f03 := cell_keep hb3 f02
  have f13 := cell_keep hb3 f12
  clear hb3 c02 c12 m02 m12 f02 f12
  go_wp2_with fail
  refine (C4.out _ (hr.to HB3)).mono ?_
  rintro e W4 ⟨rfl, hb4⟩
  have HB4 : Below w.heap.size w W4 := HB3.trans (hb4.mono HB3.size)
  clear hb4 c03 c13 m03 m13 f03 f13 C1 C2 C3 C4
  go_wp2_with (go_at_call 19; refine (works_any _ (hl.next HB4)).mono ?_; rintro e w9 ⟨rfl, hb10⟩)
  go_ret
  exact ⟨rfl, HB4.trans (hb10.mono HB4.size)⟩
end Go.Proofs.YtpcajmkmmkmekaaDoor
