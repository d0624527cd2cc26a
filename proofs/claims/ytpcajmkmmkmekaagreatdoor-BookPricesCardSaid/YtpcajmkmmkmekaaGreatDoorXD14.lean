/- Contract of BookPrices: it answers true. -/
import Derived.Test.YtpcajmkmmkmekaaGreatDoorXD13
import Derived.Test.YtpcajmkmmkmekaaGreatDoorXR13
import Derived.Test.YtpcajmkmmkmekaaGreatDoorGj
import Derived.Test.YtpcajmkmmkmekaaGreatDoorGi
import Derived.Test.YtpcajmkmmkmekaaGreatDoorGp
set_option linter.unusedVariables false
set_option linter.unusedSimpArgs false
namespace Go.Proofs.YtpcajmkmmkmekaaGreatDoor
open Go Go.RowKit
set_option maxHeartbeats 8000000
theorem match_like {A B : Option Addr} {ca cb : Nat} {l : List Int} {n : Nat} (hn : l.length = n) (w : World) (ha : IntsAt w w.heap.size A l.length l) (hb : IntsAt w w.heap.size B l.length l) :
    Calls Tryz.prog 15 #[.slice A n ca, .slice B n cb] w fun e w' => e = .returned (.bool true) ∧ Below w.heap.size w w' := by
  subst hn
  have := match_free A B ca cb l l w ha hb
  rwa [decide_eq_true rfl] at this
theorem ints_short {w : World} {B cap : Nat} {A : Option Addr} {l : List Int} (h : IntsAt w B A cap l) : IntsAt w B A l.length l := ⟨Nat.le_refl _, Nat.le_trans h.len h.cap, h.row⟩
set_option maxRecDepth 100000 in
theorem prices_law (r : Rack) (a b : Int) (it : Item) (d : Int) (w : World) (hl : Lim w) (hr : RackAt w w.heap.size r) :
    Calls Tryz.prog 4 #[r.val, .agg #[vi a, vi b], it.val, vi d] w fun e w' => e = .returned (.bool true) ∧ Below w.heap.size w w' := by
  obtain ⟨PV, hPV⟩ : ∃ x, x = priceV r d it := ⟨_, rfl⟩
  obtain ⟨PE, hPE⟩ : ∃ x, x = priceErr r d it := ⟨_, rfl⟩
  obtain ⟨LL, hLL⟩ : ∃ x, x = pricesL r a b it := ⟨_, rfl⟩
  obtain ⟨LE, hLE⟩ : ∃ x, x = pricesErr r a b it := ⟨_, rfl⟩
  obtain ⟨DV, hDV⟩ : ∃ x, x = lastV r it := ⟨_, rfl⟩
  obtain ⟨DE, hDE⟩ : ∃ x, x = lastErr r it := ⟨_, rfl⟩
  have C1 := Lib.hid (fun (W : World) hl hr => Price_any r d it W hl hr)
  have C2 := Lib.hid (fun (W : World) hr => rPrice_any r d it W hr)
  have C3 := Lib.hid (fun (W : World) hl hr => Prices_any r a b it W hl hr)
  have C4 := Lib.hid (fun (W : World) hr => rPrices_any r a b it W hr)
  have C5 := Lib.hid (fun (W : World) hl hr => Last_any r it W hl hr)
  have C6 := Lib.hid (fun (W : World) hr => rLast_any r it W hr)
  rw [← hPV, ← hPE] at C1 C2
  rw [← hLL, ← hLE] at C3 C4
  rw [← hDV, ← hDE] at C5 C6
  obtain ⟨LN, hLN⟩ : ∃ LN, LL.length = LN := ⟨_, rfl⟩
  have HLN := Lib.hid hLN
  have HR := Lib.hid hr
  clear hPV hPE hLL hLE hDV hDE hLN hr
  obtain ⟨rg, rA, rcap, ri⟩ := r
  obtain ⟨ig, is, ic⟩ := it
  show Calls Tryz.prog 4 #[.agg #[vi rg, .slice rA ri.length rcap], .agg #[vi a, vi b], .agg #[vi ig, vi is, vi ic], vi d] w _
  go_enter Tryz.func4, Tryz.ntmps4
  go_wp2_with fail
  refine (C1.out _ (by repeat (first | assumption | refine Lim.alloc ?_ _ | refine Lim.setCell ?_ (by first | (simp; done) | (simp; omega) | omega) _ | refine Lim.drew ?_)) (HR.out.to (by (repeat (first | exact Below.refl _ _ | refine Below.setCell ?_ (by first | omega | (simp; omega) | (simp; done)) _ | refine Below.alloc ?_ (by first | omega | (simp; omega) | (simp; done)) _ | refine Below.drew ?_ | refine below_drewN ?_ _ | refine Below.trans ?_ (Below.mono (by assumption) (by first | omega | (simp; omega) | (simp; done)))))))).mono ?_
  rintro e W ⟨rfl, hb⟩
  have HB0 : Below w.heap.size w W := by (repeat (first | exact Below.refl _ _ | refine Below.setCell ?_ (by first | omega | (simp; omega) | (simp; done)) _ | refine Below.alloc ?_ (by first | omega | (simp; omega) | (simp; done)) _ | refine Below.drew ?_ | refine below_drewN ?_ _ | refine Below.trans ?_ (Below.mono (by assumption) (by first | omega | (simp; omega) | (simp; done)))))
  have c0 : W.cell? ⟨w.heap.size, 0, none⟩ = some (vi rg) := cell_keep hb (by simp [go_sem])
  have c1 : W.cell? ⟨w.heap.size, 1, none⟩ = some (.slice rA ri.length rcap) := cell_keep hb (by simp [go_sem])
  have f0 : W.cell? ⟨w.heap.size + 1, 0, none⟩ = some (vi a) := cell_keep hb (by simp [go_sem])
  have f1 : W.cell? ⟨w.heap.size + 1, 1, none⟩ = some (vi b) := cell_keep hb (by simp [go_sem])
  have m0 : W.cell? ⟨w.heap.size + 1 + 1, 0, none⟩ = some (vi ig) := cell_keep hb (by simp [go_sem])
  have m1 : W.cell? ⟨w.heap.size + 1 + 1, 1, none⟩ = some (vi is) := cell_keep hb (by simp [go_sem])
  have m2 : W.cell? ⟨w.heap.size + 1 + 1, 2, none⟩ = some (vi ic) := cell_keep hb (by simp [go_sem])
  clear hb
  go_wp2_with fail
  refine (C2.out _ (HR.out.to HB0)).mono ?_
  rintro e W1 ⟨rfl, hb1⟩
  have HB1 : Below w.heap.size w W1 := HB0.trans (hb1.mono HB0.size)
  have c01 := cell_keep hb1 c0
  have c11 := cell_keep hb1 c1
  have f01 := cell_keep hb1 f0
  have f11 := cell_keep hb1 f1
  have m01 := cell_keep hb1 m0
  have m11 := cell_keep hb1 m1
  have m21 := cell_keep hb1 m2
  clear hb1 c0 c1 f0 f1 m0 m1 m2
  go_wp2_with fail
  refine (C3.out _ (hl.next HB1) (HR.out.to HB1)).mono ?_
  rintro e W2 ⟨v2, rfl, ⟨lA, lc, rfl, hla⟩, hb2⟩
  rw [HLN.out]
  have HB2 : Below w.heap.size w W2 := HB1.trans (hb2.mono HB1.size)
  have c02 := cell_keep hb2 c01
  have c12 := cell_keep hb2 c11
  have f02 := cell_keep hb2 f01
  have f12 := cell_keep hb2 f11
  have m02 := cell_keep hb2 m01
  have m12 := cell_keep hb2 m11
  have m22 := cell_keep hb2 m21
  clear hb2 c01 c11 f01 f11 m01 m11 m21
  go_wp2_with fail
  refine (C4.out _ (HR.out.to HB2)).mono ?_
  rintro e W3 ⟨kA, kc, rfl, hka, hb3⟩
  rw [HLN.out]
  have HB3 : Below w.heap.size w W3 := HB2.trans (hb3.mono HB2.size)
  have hla3 := ints_short (hla.to hb3)
  have c03 := cell_keep hb3 c02
  have c13 := cell_keep hb3 c12
  have m03 := cell_keep hb3 m02
  have m13 := cell_keep hb3 m12
  have m23 := cell_keep hb3 m22
  clear hb3 c02 c12 f02 f12 m02 m12 m22 hla
  go_wp2_with fail
  refine (match_like HLN.out _ hla3 hka).mono ?_
  rintro e W4 ⟨rfl, hb4⟩
  have HB4 : Below w.heap.size w W4 := HB3.trans (hb4.mono HB3.size)
  have c04 := cell_keep hb4 c03
  have c14 := cell_keep hb4 c13
  have m04 := cell_keep hb4 m03
  have m14 := cell_keep hb4 m13
  have m24 := cell_keep hb4 m23
  clear hb4 c03 c13 m03 m13 m23 hla3 hka
  go_wp2_with fail
  refine (C5.out _ (hl.next HB4) (HR.out.to HB4)).mono ?_
  rintro e W5 ⟨rfl, hb5⟩
  have HB5 : Below w.heap.size w W5 := HB4.trans (hb5.mono HB4.size)
  have c05 := cell_keep hb5 c04
  have c15 := cell_keep hb5 c14
  have m05 := cell_keep hb5 m04
  have m15 := cell_keep hb5 m14
  have m25 := cell_keep hb5 m24
  clear hb5 c04 c14 m04 m14 m24
  go_wp2_with fail
  refine (C6.out _ (HR.out.to HB5)).mono ?_
  rintro e W6 ⟨rfl, hb6⟩
  have HB6 : Below w.heap.size w W6 := HB5.trans (hb6.mono HB5.size)
  clear hb6 c05 c15 m05 m15 m25 C1 C2 C3 C4 C5 C6
  go_wp2_with (go_at_call 16; refine (works_any _ (hl.next HB6)).mono ?_; rintro e w9 ⟨rfl, hb10⟩)
  go_ret
  exact ⟨rfl, HB6.trans (hb10.mono HB6.size)⟩
end Go.Proofs.YtpcajmkmmkmekaaGreatDoor

