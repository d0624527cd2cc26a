/- Contract of BookNumbers: it answers true. -/
import Derived.Test.YtpcajmkmmkmekaaGreatDoorXD10
import Derived.Test.YtpcajmkmmkmekaaGreatDoorXD8
import Derived.Test.YtpcajmkmmkmekaaGreatDoorXR13
import Derived.Test.YtpcajmkmmkmekaaGreatDoorXR17
import Derived.Test.YtpcajmkmmkmekaaGreatDoorGp
set_option linter.unusedVariables false
set_option linter.unusedSimpArgs false
namespace Go.Proofs.YtpcajmkmmkmekaaGreatDoor
open Go Go.RowKit
set_option maxHeartbeats 8000000
theorem match_same {A B : Option Addr} {ca cb : Nat} {l : List Int} {n : Nat} (hn : l.length = n) (w : World) (ha : IntsAt w w.heap.size A l.length l) (hb : IntsAt w w.heap.size B l.length l) :
    Calls Tryz.prog 15 #[.slice A n ca, .slice B n cb] w fun e w' => e = .returned (.bool true) ∧ Below w.heap.size w w' := by
  subst hn
  have := match_free A B ca cb l l w ha hb
  rwa [decide_eq_true rfl] at this
theorem IntsAt.short {w : World} {B cap : Nat} {A : Option Addr} {l : List Int} (h : IntsAt w B A cap l) : IntsAt w B A l.length l := ⟨Nat.le_refl _, Nat.le_trans h.len h.cap, h.row⟩
theorem meant_same {A B : Option Addr} {ca cb : Nat} {l : List (Int × Int)} {n : Nat} (hn : l.length = n) (w : World) (ha : RowsAt w w.heap.size 2 A l.length (l.map meantC)) (hb : RowsAt w w.heap.size 2 B l.length (l.map meantC)) :
    Calls Tryz.prog 8 #[.slice A n ca, .slice B n cb] w fun e w' => e = .returned (.bool true) ∧ Below w.heap.size w w' := by
  subst hn
  have := sameMeant_free A B ca cb l l w ha hb
  rwa [decide_eq_true rfl] at this
theorem check_is {r : Rack} {e : Int} (he : (if validB r then (0 : Int) else 10) = e) (w : World) (hl : Lim w) (h : RackAt w w.heap.size r) :
    Calls Tryz.prog 9 #[r.val] w fun e' w' => e' = .returned (vi e) ∧ Below w.heap.size w w' := by
  subst he
  exact check_any r w hl h
set_option maxRecDepth 100000 in
theorem numbers_law (r : Rack) (a b n0 n1 n2 n3 : Int) (w : World) (hl : Lim w) (hr : RackAt w w.heap.size r) :
    Calls Tryz.prog 3 #[r.val, .agg #[vi a, vi b], .agg #[vi n0, vi n1, vi n2, vi n3]] w fun e w' => e = .returned (.bool true) ∧ Below w.heap.size w w' := by
  obtain ⟨LL, hLL⟩ : ∃ LL, LL = meansL r a b n0 := ⟨_, rfl⟩
  obtain ⟨LE, hLE⟩ : ∃ LE, LE = meansErr r a b n0 := ⟨_, rfl⟩
  obtain ⟨NV, hNV⟩ : ∃ NV, NV = numV r n1 n0 n2 := ⟨_, rfl⟩
  obtain ⟨NE, hNE⟩ : ∃ NE, NE = numErr r n1 n0 n2 := ⟨_, rfl⟩
  obtain ⟨TL, hTL⟩ : ∃ TL, TL = twinsL r n3 := ⟨_, rfl⟩
  obtain ⟨TE, hTE⟩ : ∃ TE, TE = twinsErr r n3 := ⟨_, rfl⟩
  obtain ⟨VE, hVE⟩ : ∃ VE, (if validB r then (0 : Int) else 10) = VE := ⟨_, rfl⟩
  have C1 := Lib.hid (fun (W : World) hl hr => means_ r a b n0 W hl hr)
  have C2 := Lib.hid (fun (W : World) hr => rMeans_any r a b n0 W hr)
  have C3 := Lib.hid (fun (W : World) hl hr => number_any r n1 n0 n2 W hl hr)
  have C4 := Lib.hid (fun (W : World) hr => rNumber_any r n1 n0 n2 W hr)
  have C5 := Lib.hid (fun (W : World) hl hr => Twins_any r n3 W hl hr)
  have C6 := Lib.hid (fun (W : World) hr => rTwins_any r n3 W hr)
  have C7 := Lib.hid (fun (W : World) hl hr => check_is hVE W hl hr)
  have C8 := Lib.hid (fun (W : World) hr => rcheck_is hVE W hr)
  rw [← hLL, ← hLE] at C1 C2
  rw [← hNV, ← hNE] at C3 C4
  rw [← hTL, ← hTE] at C5 C6
  obtain ⟨LN, hLN⟩ : ∃ LN, LL.length = LN := ⟨_, rfl⟩
  obtain ⟨TN, hTN⟩ : ∃ TN, TL.length = TN := ⟨_, rfl⟩
  have HLN := Lib.hid hLN
  have HTN := Lib.hid hTN
  have HR := Lib.hid hr
  clear hLL hLE hNV hNE hTL hTE hVE hLN hTN hr
  obtain ⟨rg, rA, rcap, ri⟩ := r
  have e1 : (LE != LE) = false := by simp
  have e2 : (VE != VE) = false := by simp
  have e3 : (LE == LE) = true := by simp
  have e4 : (VE == VE) = true := by simp
  show Calls Tryz.prog 3 #[.agg #[vi rg, .slice rA ri.length rcap], .agg #[vi a, vi b], .agg #[vi n0, vi n1, vi n2, vi n3]] w _
  go_enter Tryz.func3, Tryz.ntmps3
  go_wp2_with fail
  refine (C1.out _ (by repeat (first | assumption | refine Lim.alloc ?_ _ | refine Lim.setCell ?_ (by first | (simp; done) | (simp; omega) | omega) _ | refine Lim.drew ?_)) (HR.out.to (by (repeat (first | exact Below.refl _ _ | refine Below.setCell ?_ (by first | omega | (simp; omega) | (simp; done)) _ | refine Below.alloc ?_ (by first | omega | (simp; omega) | (simp; done)) _ | refine Below.drew ?_ | refine below_drewN ?_ _ | refine Below.trans ?_ (Below.mono (by assumption) (by first | omega | (simp; omega) | (simp; done)))))))).mono ?_
  rintro e W ⟨v, rfl, hv⟩
  obtain ⟨lA, lc, rfl, hla⟩ := hv.map_
  have hb := hv.2
  rw [HLN.out]
  have HB0 : Below w.heap.size w W := by (repeat (first | exact Below.refl _ _ | refine Below.setCell ?_ (by first | omega | (simp; omega) | (simp; done)) _ | refine Below.alloc ?_ (by first | omega | (simp; omega) | (simp; done)) _ | refine Below.drew ?_ | refine below_drewN ?_ _ | refine Below.trans ?_ (Below.mono (by assumption) (by first | omega | (simp; omega) | (simp; done)))))
  have c0 : W.cell? ⟨w.heap.size, 0, none⟩ = some (vi rg) := cell_keep hb (by simp [go_sem])
  have c1 : W.cell? ⟨w.heap.size, 1, none⟩ = some (.slice rA ri.length rcap) := cell_keep hb (by simp [go_sem])
  have f0 : W.cell? ⟨w.heap.size + 1, 0, none⟩ = some (vi a) := cell_keep hb (by simp [go_sem])
  have f1 : W.cell? ⟨w.heap.size + 1, 1, none⟩ = some (vi b) := cell_keep hb (by simp [go_sem])
  have m0 : W.cell? ⟨w.heap.size + 1 + 1, 0, none⟩ = some (vi n0) := cell_keep hb (by simp [go_sem])
  have m1 : W.cell? ⟨w.heap.size + 1 + 1, 1, none⟩ = some (vi n1) := cell_keep hb (by simp [go_sem])
  have m2 : W.cell? ⟨w.heap.size + 1 + 1, 2, none⟩ = some (vi n2) := cell_keep hb (by simp [go_sem])
  have m3 : W.cell? ⟨w.heap.size + 1 + 1, 3, none⟩ = some (vi n3) := cell_keep hb (by simp [go_sem])
  have hla0 : RowsAt W W.heap.size 2 lA LL.length (LL.map meantC) := ⟨by simp, by have := hla.len; have := hla.cap; simp at *; omega, hla.row⟩
  clear hb hv hla
  go_wp2_with fail
  refine (C2.out _ (HR.out.to HB0)).mono ?_
  rintro e W1 ⟨kA, kc, rfl, hka, hb1⟩
  rw [HLN.out]
  have HB1 : Below w.heap.size w W1 := HB0.trans (hb1.mono HB0.size)
  have hla1 := hla0.to hb1
  have c01 := cell_keep hb1 c0
  have c11 := cell_keep hb1 c1
  have m01 := cell_keep hb1 m0
  have m11 := cell_keep hb1 m1
  have m21 := cell_keep hb1 m2
  have m31 := cell_keep hb1 m3
  have zc1 := cell_lt c01
  have zm1 := cell_lt m01
  clear hb1 c0 c1 m0 m1 m2 m3 f0 f1 hla0
  go_wp2_with fail
  (refine wp_region_grow_lit (by kernel_rfl) (by kernel_rfl) ?_; (repeat (go_big_quiet_step (first | (go_at_call 8; refine Calls.grow_of (meant_same HLN.out _ (hla1.to (by (repeat (first | exact Below.refl _ _ | refine Below.setCell ?_ (by first | omega | (simp; omega) | (simp; done)) _ | refine Below.alloc ?_ (by first | omega | (simp; omega) | (simp; done)) _ | refine Below.drew ?_ | refine below_drewN ?_ _ | refine Below.trans ?_ (Below.mono (plus_below _ _) (by first | omega | (simp; omega) | (simp; done))) | refine Below.trans ?_ (Below.mono (by assumption) (by first | omega | (simp; omega) | (simp; done))))))) (hka.to (by (repeat (first | exact Below.refl _ _ | refine Below.setCell ?_ (by first | omega | (simp; omega) | (simp; done)) _ | refine Below.alloc ?_ (by first | omega | (simp; omega) | (simp; done)) _ | refine Below.drew ?_ | refine below_drewN ?_ _ | refine Below.trans ?_ (Below.mono (plus_below _ _) (by first | omega | (simp; omega) | (simp; done))) | refine Below.trans ?_ (Below.mono (by assumption) (by first | omega | (simp; omega) | (simp; done))))))))) | (go_at_call 9; refine Calls.grow_of (C7.out _ ((hl.next HB1).next (plus_below _ _)) (HR.out.to (HB1.trans (Below.mono (by (repeat (first | exact Below.refl _ _ | refine Below.setCell ?_ (by first | omega | (simp; omega) | (simp; done)) _ | refine Below.alloc ?_ (by first | omega | (simp; omega) | (simp; done)) _ | refine Below.drew ?_ | refine below_drewN ?_ _ | refine Below.trans ?_ (Below.mono (plus_below _ _) (by first | omega | (simp; omega) | (simp; done))) | refine Below.trans ?_ (Below.mono (by assumption) (by first | omega | (simp; omega) | (simp; done)))))) HB1.size))))) | (go_at_call 10; refine Calls.grow_of (C8.out _ (HR.out.to (HB1.trans (Below.mono (by (repeat (first | exact Below.refl _ _ | refine Below.setCell ?_ (by first | omega | (simp; omega) | (simp; done)) _ | refine Below.alloc ?_ (by first | omega | (simp; omega) | (simp; done)) _ | refine Below.drew ?_ | refine below_drewN ?_ _ | refine Below.trans ?_ (Below.mono (plus_below _ _) (by first | omega | (simp; omega) | (simp; done))) | refine Below.trans ?_ (Below.mono (by assumption) (by first | omega | (simp; omega) | (simp; done)))))) HB1.size)))))))); refine wpQuiet_nil ?_; intro w1 hw1; have hb1 := below_of_plus hw1; clear hw1; obtain ⟨⟨hc1, hf1, hs1⟩, hz1⟩ := after hb1; (try simp only [World.size_alloc, World.size_setCell, World.size_drew] at hz1))
  have HB2 : Below w.heap.size w w1 := HB1.trans (hb1.mono HB1.size)
  have c02 := cell_keep hb1 c01
  have c12 := cell_keep hb1 c11
  have m02 := cell_keep hb1 m01
  have m12 := cell_keep hb1 m11
  have m22 := cell_keep hb1 m21
  have m32 := cell_keep hb1 m31
  have zc2 := cell_lt c02
  have zm2 := cell_lt m02
  clear hc1 hf1 hs1 hz1 hb1 c01 c11 m01 m11 m21 m31 hla1 hka zc1 zm1
  obtain ⟨W2, rfl⟩ : ∃ W2 : World, W2 = w1 := ⟨_, rfl⟩
  go_wp2_with fail
  refine (C3.out _ (hl.next HB2) (HR.out.to HB2)).mono ?_
  rintro e W3 ⟨rfl, hb3⟩
  have HB3 : Below w.heap.size w W3 := HB2.trans (hb3.mono HB2.size)
  have c03 := cell_keep hb3 c02
  have c13 := cell_keep hb3 c12
  have m03 := cell_keep hb3 m02
  have m13 := cell_keep hb3 m12
  have m23 := cell_keep hb3 m22
  have m33 := cell_keep hb3 m32
  clear hb3 c02 c12 m02 m12 m22 m32 zc2 zm2
  go_wp2_with fail
  refine (C4.out _ (HR.out.to HB3)).mono ?_
  rintro e W4 ⟨rfl, hb4⟩
  have HB4 : Below w.heap.size w W4 := HB3.trans (hb4.mono HB3.size)
  have c04 := cell_keep hb4 c03
  have c14 := cell_keep hb4 c13
  have m34 := cell_keep hb4 m33
  clear hb4 c03 c13 m03 m13 m23 m33
  go_wp2_with fail
  refine (C5.out _ (hl.next HB4) (HR.out.to HB4)).mono ?_
  rintro e W5 ⟨v5, rfl, ⟨tA, tc, rfl, hta⟩, hb5⟩
  rw [HTN.out]
  have HB5 : Below w.heap.size w W5 := HB4.trans (hb5.mono HB4.size)
  have c05 := cell_keep hb5 c04
  have c15 := cell_keep hb5 c14
  have m35 := cell_keep hb5 m34
  clear hb5 c04 c14 m34
  go_wp2_with fail
  refine (C6.out _ (HR.out.to HB5)).mono ?_
  rintro e W6 ⟨uA, uc, rfl, hua, hb6⟩
  rw [HTN.out]
  have HB6 : Below w.heap.size w W6 := HB5.trans (hb6.mono HB5.size)
  have hta6 := (hta.to hb6).short
  clear hb6 c05 c15 m35 hta
  go_wp2_with fail
  refine (match_same HTN.out _ hta6 hua).mono ?_
  rintro e W7 ⟨rfl, hb7⟩
  have HB7 : Below w.heap.size w W7 := HB6.trans (hb7.mono HB6.size)
  clear hb7 hta6 hua C1 C2 C3 C4 C5 C6 C7 C8
  go_wp2_with (go_at_call 16; refine (works_any _ (hl.next HB7)).mono ?_; rintro e w9 ⟨rfl, hb10⟩)
  go_ret
  exact ⟨rfl, HB7.trans (hb10.mono HB7.size)⟩
end Go.Proofs.YtpcajmkmmkmekaaGreatDoor

