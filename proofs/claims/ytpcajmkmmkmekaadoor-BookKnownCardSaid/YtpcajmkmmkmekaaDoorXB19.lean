/- Contract of BookKnown: it answers true. -/
import Derived.Test.YtpcajmkmmkmekaaDoorXE2
import Derived.Test.YtpcajmkmmkmekaaDoorXEnv
import Derived.Test.YtpcajmkmmkmekaaDoorGp
import Derived.Test.YtpcajmkmmkmekaaDoorXB8
import Derived.Test.YtpcajmkmmkmekaaDoorXUp2
import Derived.Test.YtpcajmkmmkmekaaDoorGn
import Derived.Test.YtpcajmkmmkmekaaDoorGl
import Derived.Test.YtpcajmkmmkmekaaDoorGf
import Derived.Test.YtpcajmkmmkmekaaDoorGd
import Derived.Deep.CutRange
set_option linter.unusedVariables false
set_option linter.unusedSimpArgs false
namespace Go.Proofs.YtpcajmkmmkmekaaDoor
open Go Go.RowKit
set_option maxHeartbeats 16000000
set_option maxRecDepth 100000 in
theorem known_any (w : World) (hl : Lim w) :
    Calls Tryd.prog 13 #[] w fun e w' => e = .returned (.bool true) ∧ Below w.heap.size w w' := by
  go_enter Tryd.func13, Tryd.ntmps13
  go_wp2_with fail
  refine (rack_box _).mono ?_
  rintro e W1 ⟨m1, rfl, k1, hb1⟩
  have HB1 : Below w.heap.size w W1 := hb1
  go_wp2_with fail
  refine (rack_box _).mono ?_
  rintro e W2 ⟨m2, rfl, k2, hb2⟩
  have HB2 : Below w.heap.size w W2 := HB1.trans (hb2.mono HB1.size)
  go_wp2_with fail
  refine (rack_box _).mono ?_
  rintro e W3 ⟨m3, rfl, k3, hb3⟩
  have HB3 : Below w.heap.size w W3 := HB2.trans (hb3.mono HB2.size)
  go_wp2_with fail
  refine (rack_box _).mono ?_
  rintro e W4 ⟨m4, rfl, k4, hb4⟩
  have HB4 : Below w.heap.size w W4 := HB3.trans (hb4.mono HB3.size)
  go_wp2_with fail
  refine (rack_box _).mono ?_
  rintro e W5 ⟨m5, rfl, k5, hb5⟩
  have HB5 : Below w.heap.size w W5 := HB4.trans (hb5.mono HB4.size)
  go_wp2_with fail
  refine (rack_box _).mono ?_
  rintro e W6 ⟨m6, rfl, k6, hb6⟩
  have HB6 : Below w.heap.size w W6 := HB5.trans (hb6.mono HB5.size)
  go_wp2_with fail
  refine (rack_box _).mono ?_
  rintro e W7 ⟨m7, rfl, k7, hb7⟩
  have HB7 : Below w.heap.size w W7 := HB6.trans (hb7.mono HB6.size)
  go_wp2_with fail
  refine (rack_box _).mono ?_
  rintro e W8 ⟨m8, rfl, k8, hb8⟩
  have HB8 : Below w.heap.size w W8 := HB7.trans (hb8.mono HB7.size)
  go_wp2_with fail
  refine (rack_box _).mono ?_
  rintro e W9 ⟨m9, rfl, k9, hb9⟩
  have HB9 : Below w.heap.size w W9 := HB8.trans (hb9.mono HB8.size)
  go_wp2_with fail
  refine (rack_box _).mono ?_
  rintro e W10 ⟨m10, rfl, k10, hb10⟩
  have HB10 : Below w.heap.size w W10 := HB9.trans (hb10.mono HB9.size)
  go_wp2_with fail
  refine (rack_box _).mono ?_
  rintro e W11 ⟨m11, rfl, k11, hb11⟩
  have HB11 : Below w.heap.size w W11 := HB10.trans (hb11.mono HB10.size)
  go_wp2_with fail
  refine (rack_box _).mono ?_
  rintro e W12 ⟨m12, rfl, k12, hb12⟩
  have HB12 : Below w.heap.size w W12 := HB11.trans (hb12.mono HB11.size)
  go_wp2_with fail
  refine (rack_box _).mono ?_
  rintro e W13 ⟨m13, rfl, k13, hb13⟩
  have HB13 : Below w.heap.size w W13 := HB12.trans (hb13.mono HB12.size)
  go_upto_region 2 with fail
  obtain ⟨Y0, hY0⟩ : ∃ Y0, Y0 = W13.alloc (.cells #[vi 0, .slice none 0 0, vi 3, sl m1.n21 2, vi 3, sl m2.n21 2, vi 3, sl m3.n21 2, vi 3, sl m4.n21 2, vi 3, sl m5.n21 2, vi 3, sl m6.n21 2, vi 3, sl m7.n21 2, vi 3, sl m8.n21 2, vi 3, sl m9.n21 2, vi 3, sl m10.n21 2, vi 3, sl m11.n21 2, vi 3, sl m12.n21 2, vi 3, sl m13.n21 2] 24) := ⟨_, rfl⟩
  have hbY : Below W13.heap.size W13 Y0 := by rw [hY0]; exact (Below.refl _ _).alloc (Nat.le_refl _) _
  have AR : CellsBox Y0 W13.heap.size 24 [vi 0, .slice none 0 0, vi 3, sl m1.n21 2, vi 3, sl m2.n21 2, vi 3, sl m3.n21 2, vi 3, sl m4.n21 2, vi 3, sl m5.n21 2, vi 3, sl m6.n21 2, vi 3, sl m7.n21 2, vi 3, sl m8.n21 2, vi 3, sl m9.n21 2, vi 3, sl m10.n21 2, vi 3, sl m11.n21 2, vi 3, sl m12.n21 2, vi 3, sl m13.n21 2] := by rw [hY0]; exact CellsBox.new W13 _ _
  rw [← hY0]
  clear hY0
  have s1 := hb1.size
  have s2 := hb2.size
  have s3 := hb3.size
  have s4 := hb4.size
  have s5 := hb5.size
  have s6 := hb6.size
  have s7 := hb7.size
  have s8 := hb8.size
  have s9 := hb9.size
  have s10 := hb10.size
  have s11 := hb11.size
  have s12 := hb12.size
  have s13 := hb13.size
  obtain ⟨ns, hns⟩ : ∃ ns : Nat → Ns, ns = fun i => match i with | 1 => m1 | 2 => m2 | 3 => m3 | 4 => m4 | 5 => m5 | 6 => m6 | 7 => m7 | 8 => m8 | 9 => m9 | 10 => m10 | 11 => m11 | 12 => m12 | _ => m13 := ⟨_, rfl⟩
  obtain ⟨lo, hlo⟩ : ∃ lo : Nat → Nat, lo = fun i => match i with | 0 => w.heap.size | 1 => w.heap.size | 2 => W1.heap.size | 3 => W2.heap.size | 4 => W3.heap.size | 5 => W4.heap.size | 6 => W5.heap.size | 7 => W6.heap.size | 8 => W7.heap.size | 9 => W8.heap.size | 10 => W9.heap.size | 11 => W10.heap.size | 12 => W11.heap.size | 13 => W12.heap.size | _ => W13.heap.size := ⟨_, rfl⟩
  have mono : ∀ i, i ≤ 13 → lo i ≤ lo (i + 1) := by
    intro i hi
    have : i = 0 ∨ i = 1 ∨ i = 2 ∨ i = 3 ∨ i = 4 ∨ i = 5 ∨ i = 6 ∨ i = 7 ∨ i = 8 ∨ i = 9 ∨ i = 10 ∨ i = 11 ∨ i = 12 ∨ i = 13 := by omega
    rcases this with rfl | rfl | rfl | rfl | rfl | rfl | rfl | rfl | rfl | rfl | rfl | rfl | rfl | rfl <;> (rw [hlo]; simp only; omega)
  have KS0 : KS 4 ns lo Y0 := by
    intro i h1 h13
    refine ⟨fun a b => absurd b (by omega), fun _ => ?_⟩
    have : i = 1 ∨ i = 2 ∨ i = 3 ∨ i = 4 ∨ i = 5 ∨ i = 6 ∨ i = 7 ∨ i = 8 ∨ i = 9 ∨ i = 10 ∨ i = 11 ∨ i = 12 ∨ i = 13 := by omega
    rcases this with rfl | rfl | rfl | rfl | rfl | rfl | rfl | rfl | rfl | rfl | rfl | rfl | rfl
    · exact (show ChapIn (lo 1) (lo 2) Y0 (ns 1) from by rw [hlo, hns]; exact k1.keep (fun b _ hb => (gr_trans (gr_trans (gr_trans (gr_trans (gr_trans (gr_trans (gr_trans (gr_trans (gr_trans (gr_trans (gr_trans (gr_trans hb2 hb3) hb4) hb5) hb6) hb7) hb8) hb9) hb10) hb11) hb12) hb13) hbY).block b hb))
    · exact (show ChapIn (lo 2) (lo 3) Y0 (ns 2) from by rw [hlo, hns]; exact k2.keep (fun b _ hb => (gr_trans (gr_trans (gr_trans (gr_trans (gr_trans (gr_trans (gr_trans (gr_trans (gr_trans (gr_trans (gr_trans hb3 hb4) hb5) hb6) hb7) hb8) hb9) hb10) hb11) hb12) hb13) hbY).block b hb))
    · exact (show ChapIn (lo 3) (lo 4) Y0 (ns 3) from by rw [hlo, hns]; exact k3.keep (fun b _ hb => (gr_trans (gr_trans (gr_trans (gr_trans (gr_trans (gr_trans (gr_trans (gr_trans (gr_trans (gr_trans hb4 hb5) hb6) hb7) hb8) hb9) hb10) hb11) hb12) hb13) hbY).block b hb))
    · exact (show ChapIn (lo 4) (lo 5) Y0 (ns 4) from by rw [hlo, hns]; exact k4.keep (fun b _ hb => (gr_trans (gr_trans (gr_trans (gr_trans (gr_trans (gr_trans (gr_trans (gr_trans (gr_trans hb5 hb6) hb7) hb8) hb9) hb10) hb11) hb12) hb13) hbY).block b hb))
    · exact (show ChapIn (lo 5) (lo 6) Y0 (ns 5) from by rw [hlo, hns]; exact k5.keep (fun b _ hb => (gr_trans (gr_trans (gr_trans (gr_trans (gr_trans (gr_trans (gr_trans (gr_trans hb6 hb7) hb8) hb9) hb10) hb11) hb12) hb13) hbY).block b hb))
    · exact (show ChapIn (lo 6) (lo 7) Y0 (ns 6) from by rw [hlo, hns]; exact k6.keep (fun b _ hb => (gr_trans (gr_trans (gr_trans (gr_trans (gr_trans (gr_trans (gr_trans hb7 hb8) hb9) hb10) hb11) hb12) hb13) hbY).block b hb))
    · exact (show ChapIn (lo 7) (lo 8) Y0 (ns 7) from by rw [hlo, hns]; exact k7.keep (fun b _ hb => (gr_trans (gr_trans (gr_trans (gr_trans (gr_trans (gr_trans hb8 hb9) hb10) hb11) hb12) hb13) hbY).block b hb))
    · exact (show ChapIn (lo 8) (lo 9) Y0 (ns 8) from by rw [hlo, hns]; exact k8.keep (fun b _ hb => (gr_trans (gr_trans (gr_trans (gr_trans (gr_trans hb9 hb10) hb11) hb12) hb13) hbY).block b hb))
    · exact (show ChapIn (lo 9) (lo 10) Y0 (ns 9) from by rw [hlo, hns]; exact k9.keep (fun b _ hb => (gr_trans (gr_trans (gr_trans (gr_trans hb10 hb11) hb12) hb13) hbY).block b hb))
    · exact (show ChapIn (lo 10) (lo 11) Y0 (ns 10) from by rw [hlo, hns]; exact k10.keep (fun b _ hb => (gr_trans (gr_trans (gr_trans hb11 hb12) hb13) hbY).block b hb))
    · exact (show ChapIn (lo 11) (lo 12) Y0 (ns 11) from by rw [hlo, hns]; exact k11.keep (fun b _ hb => (gr_trans (gr_trans hb12 hb13) hbY).block b hb))
    · exact (show ChapIn (lo 12) (lo 13) Y0 (ns 12) from by rw [hlo, hns]; exact k12.keep (fun b _ hb => (gr_trans hb13 hbY).block b hb))
    · exact (show ChapIn (lo 13) (lo 14) Y0 (ns 13) from by rw [hlo, hns]; exact k13.keep (fun b _ hb => hbY.block b hb))
  have hl1 : lo 1 = w.heap.size := congrFun hlo 1
  have hl14 : lo 14 = W13.heap.size := congrFun hlo 14
  have HBY0 : Below w.heap.size w Y0 := HB13.trans (hbY.mono HB13.size)
  have e1 : m1 = ns 1 := (congrFun hns 1).symm
  have e2 : m2 = ns 2 := (congrFun hns 2).symm
  have e3 : m3 = ns 3 := (congrFun hns 3).symm
  have e4 : m4 = ns 4 := (congrFun hns 4).symm
  have e5 : m5 = ns 5 := (congrFun hns 5).symm
  have e6 : m6 = ns 6 := (congrFun hns 6).symm
  have e7 : m7 = ns 7 := (congrFun hns 7).symm
  have e8 : m8 = ns 8 := (congrFun hns 8).symm
  have e9 : m9 = ns 9 := (congrFun hns 9).symm
  have e10 : m10 = ns 10 := (congrFun hns 10).symm
  have e11 : m11 = ns 11 := (congrFun hns 11).symm
  have e12 : m12 = ns 12 := (congrFun hns 12).symm
  have e13 : m13 = ns 13 := (congrFun hns 13).symm
  obtain ⟨ab, hab⟩ : ∃ ab, ab = W13.heap.size := ⟨_, rfl⟩
  rw [← hab] at AR hl14 ⊢
  rw [e1, e2, e3, e4, e5, e6, e7, e8, e9, e10, e11, e12, e13] at AR ⊢
  have zs : w.heap.size ≤ ab := by rw [hab]; exact HB13.size
  clear hns hlo hab hb1 HB1 k1 s1 e1 hb2 HB2 k2 s2 e2 hb3 HB3 k3 s3 e3 hb4 HB4 k4 s4 e4 hb5 HB5 k5 s5 e5 hb6 HB6 k6 s6 e6 hb7 HB7 k7 s7 e7 hb8 HB8 k8 s8 e8 hb9 HB9 k9 s9 e9 hb10 HB10 k10 s10 e10 hb11 HB11 k11 s11 e11 hb12 HB12 k12 s12 e12 hb13 HB13 k13 s13 e13 hbY W1 W2 W3 W4 W5 W6 W7 W8 W9 W10 W11 W12 W13 m1 m2 m3 m4 m5 m6 m7 m8 m9 m10 m11 m12 m13
  have HL1 := Lib.hid hl1
  have HL14 := Lib.hid hl14
  have MONO := Lib.hid mono
  clear hl1 hl14 mono
  have q0 := AR.cell (j := 2) rfl
  have q1 := AR.frozen 2
  go_upto_region 3 with fail
  obtain ⟨Y1, hY1⟩ : ∃ Y1, Y1 = Y0.setCell ⟨ab, 2, none⟩ (vi 25) := ⟨_, rfl⟩
  have AR2 : CellsBox Y1 ab 24 [vi 0, .slice none 0 0, vi 25, sl (ns 1).n21 2, vi 3, sl (ns 2).n21 2, vi 3, sl (ns 3).n21 2, vi 3, sl (ns 4).n21 2, vi 3, sl (ns 5).n21 2, vi 3, sl (ns 6).n21 2, vi 3, sl (ns 7).n21 2, vi 3, sl (ns 8).n21 2, vi 3, sl (ns 9).n21 2, vi 3, sl (ns 10).n21 2, vi 3, sl (ns 11).n21 2, vi 3, sl (ns 12).n21 2, vi 3, sl (ns 13).n21 2] := by rw [hY1]; exact heap_setCell_same Y0 ab 2 #[vi 0, .slice none 0 0, vi 3, sl (ns 1).n21 2, vi 3, sl (ns 2).n21 2, vi 3, sl (ns 3).n21 2, vi 3, sl (ns 4).n21 2, vi 3, sl (ns 5).n21 2, vi 3, sl (ns 6).n21 2, vi 3, sl (ns 7).n21 2, vi 3, sl (ns 8).n21 2, vi 3, sl (ns 9).n21 2, vi 3, sl (ns 10).n21 2, vi 3, sl (ns 11).n21 2, vi 3, sl (ns 12).n21 2, vi 3, sl (ns 13).n21 2] 24 (vi 25) AR
  have KSn := KS0.other (w' := Y1) (fun b hne => by rw [hY1]; exact heap_setCell_other _ _ _ _ hne) (p := ab) MONO.out (by rw [HL14.out]; exact Nat.le_refl _)
  have HBYn : Below w.heap.size w Y1 := by rw [hY1]; exact HBY0.setCell zs _
  rw [← hY1]
  clear hY1 AR KS0 HBY0 q0 q1
  have AR := AR2
  have KS1 := KSn
  have HBY1 := HBYn
  clear AR2 KSn HBYn
  have q0 := AR.cell (j := 5) rfl
  have q1 := AR.frozen 5
  go_upto_region 4 with fail
  obtain ⟨Y2, hY2⟩ : ∃ Y2, Y2 = Y1.setCell ⟨ab, 5, none⟩ (.slice none 0 0) := ⟨_, rfl⟩
  have AR2 : CellsBox Y2 ab 24 [vi 0, .slice none 0 0, vi 25, sl (ns 1).n21 2, vi 3, .slice none 0 0, vi 3, sl (ns 3).n21 2, vi 3, sl (ns 4).n21 2, vi 3, sl (ns 5).n21 2, vi 3, sl (ns 6).n21 2, vi 3, sl (ns 7).n21 2, vi 3, sl (ns 8).n21 2, vi 3, sl (ns 9).n21 2, vi 3, sl (ns 10).n21 2, vi 3, sl (ns 11).n21 2, vi 3, sl (ns 12).n21 2, vi 3, sl (ns 13).n21 2] := by rw [hY2]; exact heap_setCell_same Y1 ab 5 #[vi 0, .slice none 0 0, vi 25, sl (ns 1).n21 2, vi 3, sl (ns 2).n21 2, vi 3, sl (ns 3).n21 2, vi 3, sl (ns 4).n21 2, vi 3, sl (ns 5).n21 2, vi 3, sl (ns 6).n21 2, vi 3, sl (ns 7).n21 2, vi 3, sl (ns 8).n21 2, vi 3, sl (ns 9).n21 2, vi 3, sl (ns 10).n21 2, vi 3, sl (ns 11).n21 2, vi 3, sl (ns 12).n21 2, vi 3, sl (ns 13).n21 2] 24 (.slice none 0 0) AR
  have KSn := KS1.other (w' := Y2) (fun b hne => by rw [hY2]; exact heap_setCell_other _ _ _ _ hne) (p := ab) MONO.out (by rw [HL14.out]; exact Nat.le_refl _)
  have HBYn : Below w.heap.size w Y2 := by rw [hY2]; exact HBY1.setCell zs _
  rw [← hY2]
  clear hY2 AR KS1 HBY1 q0 q1
  have AR := AR2
  have KS2 := KSn
  have HBY2 := HBYn
  clear AR2 KSn HBYn
  have q0 := AR.cell (j := 7) rfl
  have q1 := AR.frozen 7
  have zab : ab < Y2.heap.size := AR.lt
  have hmk := mk5
  go_upto_region 5 with fail
  clear hmk q0 q1
  obtain ⟨zb, hzb⟩ : ∃ zb, zb = Y2.heap.size := ⟨_, rfl⟩
  obtain ⟨Z0, hZ0⟩ : ∃ Z0, Z0 = Y2.setCell ⟨ab, 7, none⟩ (.slice (some ⟨zb, 0, none⟩) 5 5) := ⟨_, rfl⟩
  have AZ : CellsBox Z0 ab 24 [vi 0, .slice none 0 0, vi 25, sl (ns 1).n21 2, vi 3, .slice none 0 0, vi 3, .slice (some ⟨zb, 0, none⟩) 5 5, vi 3, sl (ns 4).n21 2, vi 3, sl (ns 5).n21 2, vi 3, sl (ns 6).n21 2, vi 3, sl (ns 7).n21 2, vi 3, sl (ns 8).n21 2, vi 3, sl (ns 9).n21 2, vi 3, sl (ns 10).n21 2, vi 3, sl (ns 11).n21 2, vi 3, sl (ns 12).n21 2, vi 3, sl (ns 13).n21 2] := by rw [hZ0]; exact heap_setCell_same Y2 ab 7 #[vi 0, .slice none 0 0, vi 25, sl (ns 1).n21 2, vi 3, .slice none 0 0, vi 3, sl (ns 3).n21 2, vi 3, sl (ns 4).n21 2, vi 3, sl (ns 5).n21 2, vi 3, sl (ns 6).n21 2, vi 3, sl (ns 7).n21 2, vi 3, sl (ns 8).n21 2, vi 3, sl (ns 9).n21 2, vi 3, sl (ns 10).n21 2, vi 3, sl (ns 11).n21 2, vi 3, sl (ns 12).n21 2, vi 3, sl (ns 13).n21 2] 24 _ AR
  have KSZ := KS2.other (w' := Z0) (p := ab) (fun b hne => by rw [hZ0]; exact heap_setCell_other _ _ _ _ hne) MONO.out (by rw [HL14.out]; exact Nat.le_refl _)
  have HBZ : Below w.heap.size w Z0 := by rw [hZ0]; exact HBY2.setCell zs _
  have zZ : zb = Z0.heap.size := by rw [hZ0, hzb]; simp
  obtain ⟨Y3, hY3⟩ : ∃ Y3, Y3 = Z0.alloc (.cells zero5.toArray 47) := ⟨_, rfl⟩
  have hbZ : Below Z0.heap.size Z0 Y3 := by rw [hY3]; exact (Below.refl _ _).alloc (Nat.le_refl _) _
  have ZR3 : CellsBox Y3 zb 47 zero5 := by rw [hY3, zZ]; exact CellsBox.new Z0 _ _
  have zZ0 : ab < Z0.heap.size := AZ.lt
  have AR3 := AZ.below hbZ zZ0
  have KS3 := KSZ.below hbZ MONO.out (by rw [HL14.out]; omega)
  have HBY3 : Below w.heap.size w Y3 := HBZ.trans (hbZ.mono HBZ.size)
  have zY3 : ab < Y3.heap.size := AR3.lt
  rw [← hzb, ← hZ0, ← hY3]
  have zzb : ab < zb := by omega
  clear hY3 hZ0 hzb hbZ AR AZ KS2 KSZ HBY2 HBZ zab zZ zZ0 Z0
  have AR := AR3
  clear AR3
  obtain ⟨RR, G4, G7, G9, G14, G17, G19, G21⟩ := (KS3 4 (by omega) (by omega)).2 (.inr (by omega))
  have RR0 : Rng (lo 4) (lo 5) (ns 4) := RR
  obtain ⟨r1, r2, r3, r4, r5, r6, r7, r8⟩ := RR
  have u1 : w.heap.size ≤ lo 4 := Nat.le_trans (Nat.le_of_eq HL1.out.symm) (lo_in MONO.out (j := 4) (by omega) (by omega)).1
  have u2 : lo (4 + 1) ≤ ab := Nat.le_trans (lo_in MONO.out (j := 4) (by omega) (by omega)).2 (Nat.le_of_eq HL14.out)
  have q0 := AR.cell (j := 9) rfl
  have t0 := G21.cell (j := 0) rfl
  have f0 := G21.frozen 0
  have t1 := G21.cell (j := 1) rfl
  have f1 := G21.frozen 1
  have zab : ab < Y3.heap.size := AR.lt
  have zbk : (ns 4).n21 < Y3.heap.size := G21.lt
  have z9k : (ns 4).n9 < Y3.heap.size := G9.lt
  have z21k : (ns 4).n21 < Y3.heap.size := G21.lt
  go_upto_region 5 with fail
  refine' wp_region_box (fun w' => Spare Y3.heap.size (ns 4).n21 Y3 w') (stays_spare (Nat.le_refl _)) [0, 1, 2, 3, 4, 5, 6] 1 682 (by kernel_rfl) (by kernel_rfl) rfl (by kernel_rfl) (by kernel_rfl) rfl (by kernel_rfl) ?hl4 (Spare.refl _ _ _) ?hq4 ?hr4
  case hl4 =>
    simp only [List.map_cons, List.map_nil, List.getD_cons_zero, List.getD_cons_succ]
    exact rfl
  case hq4 =>
    intro w0 hw0
    have y0 : w0.cell? ⟨ab, 9, none⟩ = some (sl (ns 4).n21 2) := (hw0.cell (by simp only; omega) (by simp only; omega)).trans q0
    have x0 : ab < w0.heap.size := cell_lt y0
    (repeat (go_big_quiet_step ((go_at_call 22; refine Calls.grow_of (to_any _ _ _)))))
    exact wpQuiet_nil rfl
  refine wpUp_one (i := 7) (by kernel_rfl) rfl rfl (fun w1 h1 h2 K hK => ?_)
  have s0 := cell_keep h1 t0
  have g0 := soft_keep h1 zbk f0
  have s1 := cell_keep h1 t1
  have g1 := soft_keep h1 zbk f1
  go_simp
  refine hK _ _ (spare_set (spare_set h2 rfl _) rfl _) (wpUp_done (by kernel_rfl) (fun Y4 h7 h8 => NoPanic.normal ?_))
  have hk : ∀ b, b ≠ (ns 4).n21 → b < Y3.heap.size → Y4.heap[b]? = Y3.heap[b]? := fun b hne hb => h8.block b hb hne
  have TA : CellsBox w1 (ns 4).n21 47 [vi 100, vi 280, vi 300, sl (ns 4).n9 2, vi 260, vi 450, vi 450, sl (ns 4).n19 2] := G21.below h1 zbk
  have TA1 : CellsBox (w1.setCell ⟨(ns 4).n21, 0, none⟩ (vi 100)) (ns 4).n21 47 [vi 100, vi 280, vi 300, sl (ns 4).n9 2, vi 260, vi 450, vi 450, sl (ns 4).n19 2] := heap_setCell_same w1 (ns 4).n21 0 #[vi 100, vi 280, vi 300, sl (ns 4).n9 2, vi 260, vi 450, vi 450, sl (ns 4).n19 2] 47 (vi 100) TA
  have TA2 : CellsBox ((w1.setCell ⟨(ns 4).n21, 0, none⟩ (vi 100)).setCell ⟨(ns 4).n21, 1, none⟩ (vi 20001)) (ns 4).n21 47 [vi 100, vi 20001, vi 300, sl (ns 4).n9 2, vi 260, vi 450, vi 450, sl (ns 4).n19 2] := heap_setCell_same _ (ns 4).n21 1 #[vi 100, vi 280, vi 300, sl (ns 4).n9 2, vi 260, vi 450, vi 450, sl (ns 4).n19 2] 47 (vi 20001) TA1
  have TB : CellsBox Y4 (ns 4).n21 47 [vi 100, vi 20001, vi 300, sl (ns 4).n9 2, vi 260, vi 450, vi 450, sl (ns 4).n19 2] := TA2.below h7 TA2.lt
  have HBY4n : Below w.heap.size w Y4 := HBY3.trans (h8.below (by have := HBY3.size; omega) (by omega))
  have zsz : Y3.heap.size ≤ Y4.heap.size := h8.size
  clear h1 h2 h7 h8 hK K TA TA1 TA2 s0 s1 g0 g1
  have N4 := G4.keep (hk _ (by omega) G4.lt)
  have N7 := G7.keep (hk _ (by omega) G7.lt)
  have N9 := G9.keep (hk _ (by omega) G9.lt)
  have N14 := G14.keep (hk _ (by omega) G14.lt)
  have N17 := G17.keep (hk _ (by omega) G17.lt)
  have N19 := G19.keep (hk _ (by omega) G19.lt)
  have BX : BoxRack (lo 4) (lo 5) Y4 (badF 4 (ns 4)) := gen_box (w := Y4) RR0 3 100 20001 300 (entA (ns 4)) (entB (ns 4)) ⟨Nat.le_refl _, by simp [entA], .inr ⟨rfl, N4⟩⟩ ⟨Nat.le_refl _, by simp [entB], .inr ⟨rfl, N7⟩⟩ N9 N14 N17 N19 TB
  have KS4 : KS 5 ns lo Y4 := KS3.step (j := 4) (by omega) (by omega) MONO.out (p := (ns 4).n21) ⟨by omega, by omega⟩ hk (by rw [HL14.out]; omega) BX
  have ARn := AR.keep (hk _ (by omega) zab)
  have ZRn := ZR3.keep (hk _ (by omega) ZR3.lt)
  clear AR ZR3 KS3 HBY3 RR0 G4 G7 G9 G14 G17 G19 G21 q0 t0 f0 t1 f1 zab zbk z9k z21k zsz hk TB BX r1 r2 r3 r4 r5 r6 r7 r8 u1 u2 N4 N7 N9 N14 N17 N19
  have AR := ARn
  have ZR3 := ZRn
  have HBY4 := HBY4n
  clear ARn ZRn HBY4n
  obtain ⟨RR, G4, G7, G9, G14, G17, G19, G21⟩ := (KS4 5 (by omega) (by omega)).2 (.inr (by omega))
  have RR0 : Rng (lo 5) (lo 6) (ns 5) := RR
  obtain ⟨r1, r2, r3, r4, r5, r6, r7, r8⟩ := RR
  have u1 : w.heap.size ≤ lo 5 := Nat.le_trans (Nat.le_of_eq HL1.out.symm) (lo_in MONO.out (j := 5) (by omega) (by omega)).1
  have u2 : lo (5 + 1) ≤ ab := Nat.le_trans (lo_in MONO.out (j := 5) (by omega) (by omega)).2 (Nat.le_of_eq HL14.out)
  have q0 := AR.cell (j := 11) rfl
  have t0 := G21.cell (j := 2) rfl
  have f0 := G21.frozen 2
  have zab : ab < Y4.heap.size := AR.lt
  have zbk : (ns 5).n21 < Y4.heap.size := G21.lt
  have z9k : (ns 5).n9 < Y4.heap.size := G9.lt
  have z21k : (ns 5).n21 < Y4.heap.size := G21.lt
  go_upto_region 7 with fail
  obtain ⟨Y5, hY5⟩ : ∃ Y5, Y5 = Y4.setCell ⟨(ns 5).n21, 2, none⟩ (vi 99) := ⟨_, rfl⟩
  have hk : ∀ b, b ≠ (ns 5).n21 → b < Y4.heap.size → Y5.heap[b]? = Y4.heap[b]? := fun b hne _ => by rw [hY5]; exact heap_setCell_other _ _ _ _ hne
  have TB : CellsBox Y5 (ns 5).n21 47 [vi 100, vi 280, vi 99, sl (ns 5).n9 2, vi 260, vi 450, vi 450, sl (ns 5).n19 2] := by rw [hY5]; exact heap_setCell_same Y4 (ns 5).n21 2 #[vi 100, vi 280, vi 300, sl (ns 5).n9 2, vi 260, vi 450, vi 450, sl (ns 5).n19 2] 47 (vi 99) G21
  have HBY5n : Below w.heap.size w Y5 := by rw [hY5]; exact HBY4.setCell (by simp only; omega) _
  have zsz : Y4.heap.size ≤ Y5.heap.size := by rw [hY5]; simp
  rw [← hY5]
  clear hY5
  have N4 := G4.keep (hk _ (by omega) G4.lt)
  have N7 := G7.keep (hk _ (by omega) G7.lt)
  have N9 := G9.keep (hk _ (by omega) G9.lt)
  have N14 := G14.keep (hk _ (by omega) G14.lt)
  have N17 := G17.keep (hk _ (by omega) G17.lt)
  have N19 := G19.keep (hk _ (by omega) G19.lt)
  have BX : BoxRack (lo 5) (lo 6) Y5 (badF 5 (ns 5)) := gen_box (w := Y5) RR0 3 100 280 99 (entA (ns 5)) (entB (ns 5)) ⟨Nat.le_refl _, by simp [entA], .inr ⟨rfl, N4⟩⟩ ⟨Nat.le_refl _, by simp [entB], .inr ⟨rfl, N7⟩⟩ N9 N14 N17 N19 TB
  have KS5 : KS 6 ns lo Y5 := KS4.step (j := 5) (by omega) (by omega) MONO.out (p := (ns 5).n21) ⟨by omega, by omega⟩ hk (by rw [HL14.out]; omega) BX
  have ARn := AR.keep (hk _ (by omega) zab)
  have ZRn := ZR3.keep (hk _ (by omega) ZR3.lt)
  clear AR ZR3 KS4 HBY4 RR0 G4 G7 G9 G14 G17 G19 G21 q0 t0 f0 zab zbk z9k z21k zsz hk TB BX r1 r2 r3 r4 r5 r6 r7 r8 u1 u2 N4 N7 N9 N14 N17 N19
  have AR := ARn
  have ZR3 := ZRn
  have HBY5 := HBY5n
  clear ARn ZRn HBY5n
  obtain ⟨RR, G4, G7, G9, G14, G17, G19, G21⟩ := (KS5 6 (by omega) (by omega)).2 (.inr (by omega))
  have RR0 : Rng (lo 6) (lo 7) (ns 6) := RR
  obtain ⟨r1, r2, r3, r4, r5, r6, r7, r8⟩ := RR
  have u1 : w.heap.size ≤ lo 6 := Nat.le_trans (Nat.le_of_eq HL1.out.symm) (lo_in MONO.out (j := 6) (by omega) (by omega)).1
  have u2 : lo (6 + 1) ≤ ab := Nat.le_trans (lo_in MONO.out (j := 6) (by omega) (by omega)).2 (Nat.le_of_eq HL14.out)
  have q0 := AR.cell (j := 13) rfl
  have q2 := G21.cell (j := 3) rfl
  have t0 := G9.cell (j := 4) rfl
  have f0 := G9.frozen 4
  have zab : ab < Y5.heap.size := AR.lt
  have zbk : (ns 6).n9 < Y5.heap.size := G9.lt
  have z9k : (ns 6).n9 < Y5.heap.size := G9.lt
  have z21k : (ns 6).n21 < Y5.heap.size := G21.lt
  go_upto_region 8 with fail
  obtain ⟨Y6, hY6⟩ : ∃ Y6, Y6 = Y5.setCell ⟨(ns 6).n9, 4, none⟩ (vi 11) := ⟨_, rfl⟩
  have hk : ∀ b, b ≠ (ns 6).n9 → b < Y5.heap.size → Y6.heap[b]? = Y5.heap[b]? := fun b hne _ => by rw [hY6]; exact heap_setCell_other _ _ _ _ hne
  have TB : CellsBox Y6 (ns 6).n9 50 [vi 11, vi 0, vi 3, sl (ns 6).n4 2, vi 11, vi 1, vi 1, sl (ns 6).n7 1] := by rw [hY6]; exact heap_setCell_same Y5 (ns 6).n9 4 #[vi 11, vi 0, vi 3, sl (ns 6).n4 2, vi 12, vi 1, vi 1, sl (ns 6).n7 1] 50 (vi 11) G9
  have HBY6n : Below w.heap.size w Y6 := by rw [hY6]; exact HBY5.setCell (by simp only; omega) _
  have zsz : Y5.heap.size ≤ Y6.heap.size := by rw [hY6]; simp
  rw [← hY6]
  clear hY6
  have N4 := G4.keep (hk _ (by omega) G4.lt)
  have N7 := G7.keep (hk _ (by omega) G7.lt)
  have N14 := G14.keep (hk _ (by omega) G14.lt)
  have N17 := G17.keep (hk _ (by omega) G17.lt)
  have N19 := G19.keep (hk _ (by omega) G19.lt)
  have N21 := G21.keep (hk _ (by omega) G21.lt)
  have BX : BoxRack (lo 6) (lo 7) Y6 (badF 6 (ns 6)) := gen_box (w := Y6) RR0 3 100 280 300 (entA (ns 6)) { entB (ns 6) with number := 11 } ⟨Nat.le_refl _, by simp [entA], .inr ⟨rfl, N4⟩⟩ ⟨Nat.le_refl _, by simp [entB], .inr ⟨rfl, N7⟩⟩ TB N14 N17 N19 N21
  have KS6 : KS 7 ns lo Y6 := KS5.step (j := 6) (by omega) (by omega) MONO.out (p := (ns 6).n9) ⟨by omega, by omega⟩ hk (by rw [HL14.out]; omega) BX
  have ARn := AR.keep (hk _ (by omega) zab)
  have ZRn := ZR3.keep (hk _ (by omega) ZR3.lt)
  clear AR ZR3 KS5 HBY5 RR0 G4 G7 G9 G14 G17 G19 G21 q0 t0 f0 q2 zab zbk z9k z21k zsz hk TB BX r1 r2 r3 r4 r5 r6 r7 r8 u1 u2 N4 N7 N14 N17 N19 N21
  have AR := ARn
  have ZR3 := ZRn
  have HBY6 := HBY6n
  clear ARn ZRn HBY6n
  obtain ⟨RR, G4, G7, G9, G14, G17, G19, G21⟩ := (KS6 7 (by omega) (by omega)).2 (.inr (by omega))
  have RR0 : Rng (lo 7) (lo 8) (ns 7) := RR
  obtain ⟨r1, r2, r3, r4, r5, r6, r7, r8⟩ := RR
  have u1 : w.heap.size ≤ lo 7 := Nat.le_trans (Nat.le_of_eq HL1.out.symm) (lo_in MONO.out (j := 7) (by omega) (by omega)).1
  have u2 : lo (7 + 1) ≤ ab := Nat.le_trans (lo_in MONO.out (j := 7) (by omega) (by omega)).2 (Nat.le_of_eq HL14.out)
  have q0 := AR.cell (j := 15) rfl
  have q2 := G21.cell (j := 3) rfl
  have t0 := G9.cell (j := 5) rfl
  have f0 := G9.frozen 5
  have zab : ab < Y6.heap.size := AR.lt
  have zbk : (ns 7).n9 < Y6.heap.size := G9.lt
  have z9k : (ns 7).n9 < Y6.heap.size := G9.lt
  have z21k : (ns 7).n21 < Y6.heap.size := G21.lt
  go_upto_region 9 with fail
  obtain ⟨Y7, hY7⟩ : ∃ Y7, Y7 = Y6.setCell ⟨(ns 7).n9, 5, none⟩ (vi 0) := ⟨_, rfl⟩
  have hk : ∀ b, b ≠ (ns 7).n9 → b < Y6.heap.size → Y7.heap[b]? = Y6.heap[b]? := fun b hne _ => by rw [hY7]; exact heap_setCell_other _ _ _ _ hne
  have TB : CellsBox Y7 (ns 7).n9 50 [vi 11, vi 0, vi 3, sl (ns 7).n4 2, vi 12, vi 0, vi 1, sl (ns 7).n7 1] := by rw [hY7]; exact heap_setCell_same Y6 (ns 7).n9 5 #[vi 11, vi 0, vi 3, sl (ns 7).n4 2, vi 12, vi 1, vi 1, sl (ns 7).n7 1] 50 (vi 0) G9
  have HBY7n : Below w.heap.size w Y7 := by rw [hY7]; exact HBY6.setCell (by simp only; omega) _
  have zsz : Y6.heap.size ≤ Y7.heap.size := by rw [hY7]; simp
  rw [← hY7]
  clear hY7
  have N4 := G4.keep (hk _ (by omega) G4.lt)
  have N7 := G7.keep (hk _ (by omega) G7.lt)
  have N14 := G14.keep (hk _ (by omega) G14.lt)
  have N17 := G17.keep (hk _ (by omega) G17.lt)
  have N19 := G19.keep (hk _ (by omega) G19.lt)
  have N21 := G21.keep (hk _ (by omega) G21.lt)
  have BX : BoxRack (lo 7) (lo 8) Y7 (badF 7 (ns 7)) := gen_box (w := Y7) RR0 3 100 280 300 (entA (ns 7)) { entB (ns 7) with good := 0 } ⟨Nat.le_refl _, by simp [entA], .inr ⟨rfl, N4⟩⟩ ⟨Nat.le_refl _, by simp [entB], .inr ⟨rfl, N7⟩⟩ TB N14 N17 N19 N21
  have KS7 : KS 8 ns lo Y7 := KS6.step (j := 7) (by omega) (by omega) MONO.out (p := (ns 7).n9) ⟨by omega, by omega⟩ hk (by rw [HL14.out]; omega) BX
  have ARn := AR.keep (hk _ (by omega) zab)
  have ZRn := ZR3.keep (hk _ (by omega) ZR3.lt)
  clear AR ZR3 KS6 HBY6 RR0 G4 G7 G9 G14 G17 G19 G21 q0 t0 f0 q2 zab zbk z9k z21k zsz hk TB BX r1 r2 r3 r4 r5 r6 r7 r8 u1 u2 N4 N7 N14 N17 N19 N21
  have AR := ARn
  have ZR3 := ZRn
  have HBY7 := HBY7n
  clear ARn ZRn HBY7n
  obtain ⟨RR, G4, G7, G9, G14, G17, G19, G21⟩ := (KS7 8 (by omega) (by omega)).2 (.inr (by omega))
  have RR0 : Rng (lo 8) (lo 9) (ns 8) := RR
  obtain ⟨r1, r2, r3, r4, r5, r6, r7, r8⟩ := RR
  have u1 : w.heap.size ≤ lo 8 := Nat.le_trans (Nat.le_of_eq HL1.out.symm) (lo_in MONO.out (j := 8) (by omega) (by omega)).1
  have u2 : lo (8 + 1) ≤ ab := Nat.le_trans (lo_in MONO.out (j := 8) (by omega) (by omega)).2 (Nat.le_of_eq HL14.out)
  have q0 := AR.cell (j := 17) rfl
  have q2 := G21.cell (j := 3) rfl
  have t0 := G9.cell (j := 5) rfl
  have f0 := G9.frozen 5
  have zab : ab < Y7.heap.size := AR.lt
  have zbk : (ns 8).n9 < Y7.heap.size := G9.lt
  have z9k : (ns 8).n9 < Y7.heap.size := G9.lt
  have z21k : (ns 8).n21 < Y7.heap.size := G21.lt
  go_upto_region 10 with fail
  obtain ⟨Y8, hY8⟩ : ∃ Y8, Y8 = Y7.setCell ⟨(ns 8).n9, 5, none⟩ (vi 3) := ⟨_, rfl⟩
  have hk : ∀ b, b ≠ (ns 8).n9 → b < Y7.heap.size → Y8.heap[b]? = Y7.heap[b]? := fun b hne _ => by rw [hY8]; exact heap_setCell_other _ _ _ _ hne
  have TB : CellsBox Y8 (ns 8).n9 50 [vi 11, vi 0, vi 3, sl (ns 8).n4 2, vi 12, vi 3, vi 1, sl (ns 8).n7 1] := by rw [hY8]; exact heap_setCell_same Y7 (ns 8).n9 5 #[vi 11, vi 0, vi 3, sl (ns 8).n4 2, vi 12, vi 1, vi 1, sl (ns 8).n7 1] 50 (vi 3) G9
  have HBY8n : Below w.heap.size w Y8 := by rw [hY8]; exact HBY7.setCell (by simp only; omega) _
  have zsz : Y7.heap.size ≤ Y8.heap.size := by rw [hY8]; simp
  rw [← hY8]
  clear hY8
  have N4 := G4.keep (hk _ (by omega) G4.lt)
  have N7 := G7.keep (hk _ (by omega) G7.lt)
  have N14 := G14.keep (hk _ (by omega) G14.lt)
  have N17 := G17.keep (hk _ (by omega) G17.lt)
  have N19 := G19.keep (hk _ (by omega) G19.lt)
  have N21 := G21.keep (hk _ (by omega) G21.lt)
  have BX : BoxRack (lo 8) (lo 9) Y8 (badF 8 (ns 8)) := gen_box (w := Y8) RR0 3 100 280 300 (entA (ns 8)) { entB (ns 8) with good := 3 } ⟨Nat.le_refl _, by simp [entA], .inr ⟨rfl, N4⟩⟩ ⟨Nat.le_refl _, by simp [entB], .inr ⟨rfl, N7⟩⟩ TB N14 N17 N19 N21
  have KS8 : KS 9 ns lo Y8 := KS7.step (j := 8) (by omega) (by omega) MONO.out (p := (ns 8).n9) ⟨by omega, by omega⟩ hk (by rw [HL14.out]; omega) BX
  have ARn := AR.keep (hk _ (by omega) zab)
  have ZRn := ZR3.keep (hk _ (by omega) ZR3.lt)
  clear AR ZR3 KS7 HBY7 RR0 G4 G7 G9 G14 G17 G19 G21 q0 t0 f0 q2 zab zbk z9k z21k zsz hk TB BX r1 r2 r3 r4 r5 r6 r7 r8 u1 u2 N4 N7 N14 N17 N19 N21
  have AR := ARn
  have ZR3 := ZRn
  have HBY8 := HBY8n
  clear ARn ZRn HBY8n
  obtain ⟨RR, G4, G7, G9, G14, G17, G19, G21⟩ := (KS8 9 (by omega) (by omega)).2 (.inr (by omega))
  have RR0 : Rng (lo 9) (lo 10) (ns 9) := RR
  obtain ⟨r1, r2, r3, r4, r5, r6, r7, r8⟩ := RR
  have u1 : w.heap.size ≤ lo 9 := Nat.le_trans (Nat.le_of_eq HL1.out.symm) (lo_in MONO.out (j := 9) (by omega) (by omega)).1
  have u2 : lo (9 + 1) ≤ ab := Nat.le_trans (lo_in MONO.out (j := 9) (by omega) (by omega)).2 (Nat.le_of_eq HL14.out)
  have q0 := AR.cell (j := 19) rfl
  have q2 := G21.cell (j := 3) rfl
  have t0 := G9.cell (j := 2) rfl
  have f0 := G9.frozen 2
  have zab : ab < Y8.heap.size := AR.lt
  have zbk : (ns 9).n9 < Y8.heap.size := G9.lt
  have z9k : (ns 9).n9 < Y8.heap.size := G9.lt
  have z21k : (ns 9).n21 < Y8.heap.size := G21.lt
  go_upto_region 11 with fail
  obtain ⟨Y9, hY9⟩ : ∃ Y9, Y9 = Y8.setCell ⟨(ns 9).n9, 2, none⟩ (vi 16) := ⟨_, rfl⟩
  have hk : ∀ b, b ≠ (ns 9).n9 → b < Y8.heap.size → Y9.heap[b]? = Y8.heap[b]? := fun b hne _ => by rw [hY9]; exact heap_setCell_other _ _ _ _ hne
  have TB : CellsBox Y9 (ns 9).n9 50 [vi 11, vi 0, vi 16, sl (ns 9).n4 2, vi 12, vi 1, vi 1, sl (ns 9).n7 1] := by rw [hY9]; exact heap_setCell_same Y8 (ns 9).n9 2 #[vi 11, vi 0, vi 3, sl (ns 9).n4 2, vi 12, vi 1, vi 1, sl (ns 9).n7 1] 50 (vi 16) G9
  have HBY9n : Below w.heap.size w Y9 := by rw [hY9]; exact HBY8.setCell (by simp only; omega) _
  have zsz : Y8.heap.size ≤ Y9.heap.size := by rw [hY9]; simp
  rw [← hY9]
  clear hY9
  have N4 := G4.keep (hk _ (by omega) G4.lt)
  have N7 := G7.keep (hk _ (by omega) G7.lt)
  have N14 := G14.keep (hk _ (by omega) G14.lt)
  have N17 := G17.keep (hk _ (by omega) G17.lt)
  have N19 := G19.keep (hk _ (by omega) G19.lt)
  have N21 := G21.keep (hk _ (by omega) G21.lt)
  have BX : BoxRack (lo 9) (lo 10) Y9 (badF 9 (ns 9)) := gen_box (w := Y9) RR0 3 100 280 300 { entA (ns 9) with colours := 16 } (entB (ns 9)) ⟨Nat.le_refl _, by simp [entA], .inr ⟨rfl, N4⟩⟩ ⟨Nat.le_refl _, by simp [entB], .inr ⟨rfl, N7⟩⟩ TB N14 N17 N19 N21
  have KS9 : KS 10 ns lo Y9 := KS8.step (j := 9) (by omega) (by omega) MONO.out (p := (ns 9).n9) ⟨by omega, by omega⟩ hk (by rw [HL14.out]; omega) BX
  have ARn := AR.keep (hk _ (by omega) zab)
  have ZRn := ZR3.keep (hk _ (by omega) ZR3.lt)
  clear AR ZR3 KS8 HBY8 RR0 G4 G7 G9 G14 G17 G19 G21 q0 t0 f0 q2 zab zbk z9k z21k zsz hk TB BX r1 r2 r3 r4 r5 r6 r7 r8 u1 u2 N4 N7 N14 N17 N19 N21
  have AR := ARn
  have ZR3 := ZRn
  have HBY9 := HBY9n
  clear ARn ZRn HBY9n
  obtain ⟨RR, G4, G7, G9, G14, G17, G19, G21⟩ := (KS9 10 (by omega) (by omega)).2 (.inr (by omega))
  have RR0 : Rng (lo 10) (lo 11) (ns 10) := RR
  obtain ⟨r1, r2, r3, r4, r5, r6, r7, r8⟩ := RR
  have u1 : w.heap.size ≤ lo 10 := Nat.le_trans (Nat.le_of_eq HL1.out.symm) (lo_in MONO.out (j := 10) (by omega) (by omega)).1
  have u2 : lo (10 + 1) ≤ ab := Nat.le_trans (lo_in MONO.out (j := 10) (by omega) (by omega)).2 (Nat.le_of_eq HL14.out)
  have q0 := AR.cell (j := 21) rfl
  have q2 := G21.cell (j := 3) rfl
  have t0 := G9.cell (j := 3) rfl
  have f0 := G9.frozen 3
  have zab : ab < Y9.heap.size := AR.lt
  have zbk : (ns 10).n9 < Y9.heap.size := G9.lt
  have z9k : (ns 10).n9 < Y9.heap.size := G9.lt
  have z21k : (ns 10).n21 < Y9.heap.size := G21.lt
  go_upto_region 12 with fail
  obtain ⟨Y10, hY10⟩ : ∃ Y10, Y10 = Y9.setCell ⟨(ns 10).n9, 3, none⟩ (.slice none 0 0) := ⟨_, rfl⟩
  have hk : ∀ b, b ≠ (ns 10).n9 → b < Y9.heap.size → Y10.heap[b]? = Y9.heap[b]? := fun b hne _ => by rw [hY10]; exact heap_setCell_other _ _ _ _ hne
  have TB : CellsBox Y10 (ns 10).n9 50 [vi 11, vi 0, vi 3, .slice none 0 0, vi 12, vi 1, vi 1, sl (ns 10).n7 1] := by rw [hY10]; exact heap_setCell_same Y9 (ns 10).n9 3 #[vi 11, vi 0, vi 3, sl (ns 10).n4 2, vi 12, vi 1, vi 1, sl (ns 10).n7 1] 50 (.slice none 0 0) G9
  have HBY10n : Below w.heap.size w Y10 := by rw [hY10]; exact HBY9.setCell (by simp only; omega) _
  have zsz : Y9.heap.size ≤ Y10.heap.size := by rw [hY10]; simp
  rw [← hY10]
  clear hY10
  have N4 := G4.keep (hk _ (by omega) G4.lt)
  have N7 := G7.keep (hk _ (by omega) G7.lt)
  have N14 := G14.keep (hk _ (by omega) G14.lt)
  have N17 := G17.keep (hk _ (by omega) G17.lt)
  have N19 := G19.keep (hk _ (by omega) G19.lt)
  have N21 := G21.keep (hk _ (by omega) G21.lt)
  have BX : BoxRack (lo 10) (lo 11) Y10 (badF 10 (ns 10)) := gen_box (w := Y10) RR0 3 100 280 300 { entA (ns 10) with ad := none, cap := 0, sizes := [] } (entB (ns 10)) ⟨Nat.zero_le _, by simp, .inl rfl⟩ ⟨Nat.le_refl _, by simp [entB], .inr ⟨rfl, N7⟩⟩ TB N14 N17 N19 N21
  have KS10 : KS 11 ns lo Y10 := KS9.step (j := 10) (by omega) (by omega) MONO.out (p := (ns 10).n9) ⟨by omega, by omega⟩ hk (by rw [HL14.out]; omega) BX
  have ARn := AR.keep (hk _ (by omega) zab)
  have ZRn := ZR3.keep (hk _ (by omega) ZR3.lt)
  clear AR ZR3 KS9 HBY9 RR0 G4 G7 G9 G14 G17 G19 G21 q0 t0 f0 q2 zab zbk z9k z21k zsz hk TB BX r1 r2 r3 r4 r5 r6 r7 r8 u1 u2 N4 N7 N14 N17 N19 N21
  have AR := ARn
  have ZR3 := ZRn
  have HBY10 := HBY10n
  clear ARn ZRn HBY10n
  obtain ⟨RR, G4, G7, G9, G14, G17, G19, G21⟩ := (KS10 11 (by omega) (by omega)).2 (.inr (by omega))
  have RR0 : Rng (lo 11) (lo 12) (ns 11) := RR
  obtain ⟨r1, r2, r3, r4, r5, r6, r7, r8⟩ := RR
  have u1 : w.heap.size ≤ lo 11 := Nat.le_trans (Nat.le_of_eq HL1.out.symm) (lo_in MONO.out (j := 11) (by omega) (by omega)).1
  have u2 : lo (11 + 1) ≤ ab := Nat.le_trans (lo_in MONO.out (j := 11) (by omega) (by omega)).2 (Nat.le_of_eq HL14.out)
  have q0 := AR.cell (j := 23) rfl
  have q2 := G21.cell (j := 3) rfl
  have q3 := G9.cell (j := 3) rfl
  have t0 := G4.cell (j := 4) rfl
  have f0 := G4.frozen 4
  have zab : ab < Y10.heap.size := AR.lt
  have zbk : (ns 11).n4 < Y10.heap.size := G4.lt
  have z9k : (ns 11).n9 < Y10.heap.size := G9.lt
  have z21k : (ns 11).n21 < Y10.heap.size := G21.lt
  go_upto_region 13 with fail
  obtain ⟨Y11, hY11⟩ : ∃ Y11, Y11 = Y10.setCell ⟨(ns 11).n4, 4, none⟩ (vi 40) := ⟨_, rfl⟩
  have hk : ∀ b, b ≠ (ns 11).n4 → b < Y10.heap.size → Y11.heap[b]? = Y10.heap[b]? := fun b hne _ => by rw [hY11]; exact heap_setCell_other _ _ _ _ hne
  have TB : CellsBox Y11 (ns 11).n4 86 [vi 40, vi 250, vi 258, vi 900, vi 40, vi 256, vi 264, vi 950] := by rw [hY11]; exact heap_setCell_same Y10 (ns 11).n4 4 #[vi 40, vi 250, vi 258, vi 900, vi 41, vi 256, vi 264, vi 950] 86 (vi 40) G4
  have HBY11n : Below w.heap.size w Y11 := by rw [hY11]; exact HBY10.setCell (by simp only; omega) _
  have zsz : Y10.heap.size ≤ Y11.heap.size := by rw [hY11]; simp
  rw [← hY11]
  clear hY11
  have N7 := G7.keep (hk _ (by omega) G7.lt)
  have N9 := G9.keep (hk _ (by omega) G9.lt)
  have N14 := G14.keep (hk _ (by omega) G14.lt)
  have N17 := G17.keep (hk _ (by omega) G17.lt)
  have N19 := G19.keep (hk _ (by omega) G19.lt)
  have N21 := G21.keep (hk _ (by omega) G21.lt)
  have BX : BoxRack (lo 11) (lo 12) Y11 (badF 11 (ns 11)) := gen_box (w := Y11) RR0 3 100 280 300 { entA (ns 11) with sizes := [⟨40, 250, 258, 900⟩, ⟨40, 256, 264, 950⟩] } (entB (ns 11)) ⟨Nat.le_refl _, by simp [entA], .inr ⟨rfl, TB⟩⟩ ⟨Nat.le_refl _, by simp [entB], .inr ⟨rfl, N7⟩⟩ N9 N14 N17 N19 N21
  have KS11 : KS 12 ns lo Y11 := KS10.step (j := 11) (by omega) (by omega) MONO.out (p := (ns 11).n4) ⟨by omega, by omega⟩ hk (by rw [HL14.out]; omega) BX
  have ARn := AR.keep (hk _ (by omega) zab)
  have ZRn := ZR3.keep (hk _ (by omega) ZR3.lt)
  clear AR ZR3 KS10 HBY10 RR0 G4 G7 G9 G14 G17 G19 G21 q0 t0 f0 q2 q3 zab zbk z9k z21k zsz hk TB BX r1 r2 r3 r4 r5 r6 r7 r8 u1 u2 N7 N9 N14 N17 N19 N21
  have AR := ARn
  have ZR3 := ZRn
  have HBY11 := HBY11n
  clear ARn ZRn HBY11n
  obtain ⟨RR, G4, G7, G9, G14, G17, G19, G21⟩ := (KS11 12 (by omega) (by omega)).2 (.inr (by omega))
  have RR0 : Rng (lo 12) (lo 13) (ns 12) := RR
  obtain ⟨r1, r2, r3, r4, r5, r6, r7, r8⟩ := RR
  have u1 : w.heap.size ≤ lo 12 := Nat.le_trans (Nat.le_of_eq HL1.out.symm) (lo_in MONO.out (j := 12) (by omega) (by omega)).1
  have u2 : lo (12 + 1) ≤ ab := Nat.le_trans (lo_in MONO.out (j := 12) (by omega) (by omega)).2 (Nat.le_of_eq HL14.out)
  have q0 := AR.cell (j := 25) rfl
  have q2 := G21.cell (j := 3) rfl
  have q3 := G9.cell (j := 3) rfl
  have t0 := G4.cell (j := 1) rfl
  have f0 := G4.frozen 1
  have t1 := G4.cell (j := 2) rfl
  have f1 := G4.frozen 2
  have zab : ab < Y11.heap.size := AR.lt
  have zbk : (ns 12).n4 < Y11.heap.size := G4.lt
  have z9k : (ns 12).n9 < Y11.heap.size := G9.lt
  have z21k : (ns 12).n21 < Y11.heap.size := G21.lt
  go_upto_region 13 with fail
  refine' wp_region_box (fun w' => Spare Y11.heap.size (ns 12).n4 Y11 w') (stays_spare (Nat.le_refl _)) [0, 1, 2, 3, 4, 5, 6, 7, 8, 9, 10, 11, 12] 1 682 (by kernel_rfl) (by kernel_rfl) rfl (by kernel_rfl) (by kernel_rfl) rfl (by kernel_rfl) ?hl12 (Spare.refl _ _ _) ?hq12 ?hr12
  case hl12 =>
    simp only [List.map_cons, List.map_nil, List.getD_cons_zero, List.getD_cons_succ]
    exact rfl
  case hq12 =>
    intro w0 hw0
    have y0 : w0.cell? ⟨ab, 25, none⟩ = some (sl (ns 12).n21 2) := (hw0.cell (by simp only; omega) (by simp only; omega)).trans q0
    have x0 : ab < w0.heap.size := cell_lt y0
    have y2 : w0.cell? ⟨(ns 12).n21, 3, none⟩ = some (sl (ns 12).n9 2) := (hw0.cell (by simp only; omega) (by simp only; omega)).trans q2
    have y3 : w0.cell? ⟨(ns 12).n9, 3, none⟩ = some (sl (ns 12).n4 2) := (hw0.cell (by simp only; omega) (by simp only; omega)).trans q3
    have x2 : (ns 12).n21 < w0.heap.size := cell_lt y2
    have x3 : (ns 12).n9 < w0.heap.size := cell_lt y3
    (repeat (go_big_quiet_step ((go_at_call 22; refine Calls.grow_of (to_any _ _ _)))))
    exact wpQuiet_nil rfl
  refine wpUp_one (i := 13) (by kernel_rfl) rfl rfl (fun w1 h1 h2 K hK => ?_)
  have s0 := cell_keep h1 t0
  have g0 := soft_keep h1 zbk f0
  have s1 := cell_keep h1 t1
  have g1 := soft_keep h1 zbk f1
  go_simp
  refine hK _ _ (spare_set (spare_set h2 rfl _) rfl _) (wpUp_done (by kernel_rfl) (fun Y12 h7 h8 => NoPanic.normal ?_))
  have hk : ∀ b, b ≠ (ns 12).n4 → b < Y11.heap.size → Y12.heap[b]? = Y11.heap[b]? := fun b hne hb => h8.block b hb hne
  have TA : CellsBox w1 (ns 12).n4 86 [vi 40, vi 250, vi 258, vi 900, vi 41, vi 256, vi 264, vi 950] := G4.below h1 zbk
  have TA1 : CellsBox (w1.setCell ⟨(ns 12).n4, 1, none⟩ (vi 0)) (ns 12).n4 86 [vi 40, vi 0, vi 258, vi 900, vi 41, vi 256, vi 264, vi 950] := heap_setCell_same w1 (ns 12).n4 1 #[vi 40, vi 250, vi 258, vi 900, vi 41, vi 256, vi 264, vi 950] 86 (vi 0) TA
  have TA2 : CellsBox ((w1.setCell ⟨(ns 12).n4, 1, none⟩ (vi 0)).setCell ⟨(ns 12).n4, 2, none⟩ (vi 5)) (ns 12).n4 86 [vi 40, vi 0, vi 5, vi 900, vi 41, vi 256, vi 264, vi 950] := heap_setCell_same _ (ns 12).n4 2 #[vi 40, vi 0, vi 258, vi 900, vi 41, vi 256, vi 264, vi 950] 86 (vi 5) TA1
  have TB : CellsBox Y12 (ns 12).n4 86 [vi 40, vi 0, vi 5, vi 900, vi 41, vi 256, vi 264, vi 950] := TA2.below h7 TA2.lt
  have HBY12n : Below w.heap.size w Y12 := HBY11.trans (h8.below (by have := HBY11.size; omega) (by omega))
  have zsz : Y11.heap.size ≤ Y12.heap.size := h8.size
  clear h1 h2 h7 h8 hK K TA TA1 TA2 s0 s1 g0 g1
  have N7 := G7.keep (hk _ (by omega) G7.lt)
  have N9 := G9.keep (hk _ (by omega) G9.lt)
  have N14 := G14.keep (hk _ (by omega) G14.lt)
  have N17 := G17.keep (hk _ (by omega) G17.lt)
  have N19 := G19.keep (hk _ (by omega) G19.lt)
  have N21 := G21.keep (hk _ (by omega) G21.lt)
  have BX : BoxRack (lo 12) (lo 13) Y12 (badF 12 (ns 12)) := gen_box (w := Y12) RR0 3 100 280 300 { entA (ns 12) with sizes := [⟨40, 0, 5, 900⟩, ⟨41, 256, 264, 950⟩] } (entB (ns 12)) ⟨Nat.le_refl _, by simp [entA], .inr ⟨rfl, TB⟩⟩ ⟨Nat.le_refl _, by simp [entB], .inr ⟨rfl, N7⟩⟩ N9 N14 N17 N19 N21
  have KS12 : KS 13 ns lo Y12 := KS11.step (j := 12) (by omega) (by omega) MONO.out (p := (ns 12).n4) ⟨by omega, by omega⟩ hk (by rw [HL14.out]; omega) BX
  have ARn := AR.keep (hk _ (by omega) zab)
  have ZRn := ZR3.keep (hk _ (by omega) ZR3.lt)
  clear AR ZR3 KS11 HBY11 RR0 G4 G7 G9 G14 G17 G19 G21 q0 t0 f0 t1 f1 q2 q3 zab zbk z9k z21k zsz hk TB BX r1 r2 r3 r4 r5 r6 r7 r8 u1 u2 N7 N9 N14 N17 N19 N21
  have AR := ARn
  have ZR3 := ZRn
  have HBY12 := HBY12n
  clear ARn ZRn HBY12n
  obtain ⟨RR, G4, G7, G9, G14, G17, G19, G21⟩ := (KS12 13 (by omega) (by omega)).2 (.inr (by omega))
  have RR0 : Rng (lo 13) (lo 14) (ns 13) := RR
  obtain ⟨r1, r2, r3, r4, r5, r6, r7, r8⟩ := RR
  have u1 : w.heap.size ≤ lo 13 := Nat.le_trans (Nat.le_of_eq HL1.out.symm) (lo_in MONO.out (j := 13) (by omega) (by omega)).1
  have u2 : lo (13 + 1) ≤ ab := Nat.le_trans (lo_in MONO.out (j := 13) (by omega) (by omega)).2 (Nat.le_of_eq HL14.out)
  have q0 := AR.cell (j := 27) rfl
  have q2 := G21.cell (j := 3) rfl
  have q3 := G9.cell (j := 3) rfl
  have t0 := G4.cell (j := 3) rfl
  have f0 := G4.frozen 3
  have zab : ab < Y12.heap.size := AR.lt
  have zbk : (ns 13).n4 < Y12.heap.size := G4.lt
  have z9k : (ns 13).n9 < Y12.heap.size := G9.lt
  have z21k : (ns 13).n21 < Y12.heap.size := G21.lt
  go_upto_region 15 with fail
  obtain ⟨Y13, hY13⟩ : ∃ Y13, Y13 = Y12.setCell ⟨(ns 13).n4, 3, none⟩ (vi 0) := ⟨_, rfl⟩
  have hk : ∀ b, b ≠ (ns 13).n4 → b < Y12.heap.size → Y13.heap[b]? = Y12.heap[b]? := fun b hne _ => by rw [hY13]; exact heap_setCell_other _ _ _ _ hne
  have TB : CellsBox Y13 (ns 13).n4 86 [vi 40, vi 250, vi 258, vi 0, vi 41, vi 256, vi 264, vi 950] := by rw [hY13]; exact heap_setCell_same Y12 (ns 13).n4 3 #[vi 40, vi 250, vi 258, vi 900, vi 41, vi 256, vi 264, vi 950] 86 (vi 0) G4
  have HBY13n : Below w.heap.size w Y13 := by rw [hY13]; exact HBY12.setCell (by simp only; omega) _
  have zsz : Y12.heap.size ≤ Y13.heap.size := by rw [hY13]; simp
  rw [← hY13]
  clear hY13
  have N7 := G7.keep (hk _ (by omega) G7.lt)
  have N9 := G9.keep (hk _ (by omega) G9.lt)
  have N14 := G14.keep (hk _ (by omega) G14.lt)
  have N17 := G17.keep (hk _ (by omega) G17.lt)
  have N19 := G19.keep (hk _ (by omega) G19.lt)
  have N21 := G21.keep (hk _ (by omega) G21.lt)
  have BX : BoxRack (lo 13) (lo 14) Y13 (badF 13 (ns 13)) := gen_box (w := Y13) RR0 3 100 280 300 { entA (ns 13) with sizes := [⟨40, 250, 258, 0⟩, ⟨41, 256, 264, 950⟩] } (entB (ns 13)) ⟨Nat.le_refl _, by simp [entA], .inr ⟨rfl, TB⟩⟩ ⟨Nat.le_refl _, by simp [entB], .inr ⟨rfl, N7⟩⟩ N9 N14 N17 N19 N21
  have KS13 : KS 14 ns lo Y13 := KS12.step (j := 13) (by omega) (by omega) MONO.out (p := (ns 13).n4) ⟨by omega, by omega⟩ hk (by rw [HL14.out]; omega) BX
  have ARn := AR.keep (hk _ (by omega) zab)
  have ZRn := ZR3.keep (hk _ (by omega) ZR3.lt)
  clear AR ZR3 KS12 HBY12 RR0 G4 G7 G9 G14 G17 G19 G21 q0 t0 f0 q2 q3 zab zbk z9k z21k zsz hk TB BX r1 r2 r3 r4 r5 r6 r7 r8 u1 u2 N7 N9 N14 N17 N19 N21
  have AR := ARn
  have ZR3 := ZRn
  have HBY13 := HBY13n
  clear ARn ZRn HBY13n
  obtain ⟨RB, hRB⟩ : ∃ RB : Nat → Rack, RB = badR ns zb := ⟨_, rfl⟩
  have hcl : ∀ i, i < 14 → Y13.cell? ⟨ab, i * 2, none⟩ = some (vi (RB i).goods) ∧ Y13.cell? ⟨ab, i * 2 + 1, none⟩ = some (RB i).slice := by
    intro i hi
    have : i = 0 ∨ i = 1 ∨ i = 2 ∨ i = 3 ∨ i = 4 ∨ i = 5 ∨ i = 6 ∨ i = 7 ∨ i = 8 ∨ i = 9 ∨ i = 10 ∨ i = 11 ∨ i = 12 ∨ i = 13 := by omega
    rw [hRB]
    rcases this with rfl | rfl | rfl | rfl | rfl | rfl | rfl | rfl | rfl | rfl | rfl | rfl | rfl | rfl
    · exact ⟨AR.cell (j := 0) rfl, AR.cell (j := 1) rfl⟩
    · exact ⟨AR.cell (j := 2) rfl, AR.cell (j := 3) rfl⟩
    · exact ⟨AR.cell (j := 4) rfl, AR.cell (j := 5) rfl⟩
    · exact ⟨AR.cell (j := 6) rfl, AR.cell (j := 7) rfl⟩
    · exact ⟨AR.cell (j := 8) rfl, AR.cell (j := 9) rfl⟩
    · exact ⟨AR.cell (j := 10) rfl, AR.cell (j := 11) rfl⟩
    · exact ⟨AR.cell (j := 12) rfl, AR.cell (j := 13) rfl⟩
    · exact ⟨AR.cell (j := 14) rfl, AR.cell (j := 15) rfl⟩
    · exact ⟨AR.cell (j := 16) rfl, AR.cell (j := 17) rfl⟩
    · exact ⟨AR.cell (j := 18) rfl, AR.cell (j := 19) rfl⟩
    · exact ⟨AR.cell (j := 20) rfl, AR.cell (j := 21) rfl⟩
    · exact ⟨AR.cell (j := 22) rfl, AR.cell (j := 23) rfl⟩
    · exact ⟨AR.cell (j := 24) rfl, AR.cell (j := 25) rfl⟩
    · exact ⟨AR.cell (j := 26) rfl, AR.cell (j := 27) rfl⟩
  have hat : ∀ i, i < 14 → RackAt Y13 Y13.heap.size (RB i) := fun i hi => by rw [hRB]; exact bad_at KS13 ZR3 i hi
  have hno : ∀ i, i < 14 → validB (RB i) = false := fun i hi => by rw [hRB]; exact bad_no ns zb i hi
  have HCL := Lib.hid hcl
  have HAT := Lib.hid hat
  have HNO := Lib.hid hno
  have zab : ab < Y13.heap.size := AR.lt
  clear hRB hcl hat hno AR ZR3 KS13 MONO HL1 HL14 zzb
  go_wp2_with fail
  refine (thing_any _ _ _ _).mono ?_
  rintro e V0 ⟨rfl, hv0⟩
  go_wp2_with fail
  obtain ⟨U0, hU0⟩ : ∃ U0, U0 = V0.alloc (.cells #[vi (-1), vi 0, vi 4] 63) := ⟨_, rfl⟩
  have hbU : Below V0.heap.size V0 U0 := by rw [hU0]; exact (Below.refl _ _).alloc (Nat.le_refl _) _
  have I0 : U0.cell? ⟨V0.heap.size, 0, none⟩ = some (vi (-1)) := by rw [hU0]; simp [go_sem]
  have I1 : U0.cell? ⟨V0.heap.size, 1, none⟩ = some (vi (0)) := by rw [hU0]; simp [go_sem]
  have I2 : U0.cell? ⟨V0.heap.size, 2, none⟩ = some (vi (4)) := by rw [hU0]; simp [go_sem]
  have hYU := gr_trans hv0 hbU
  have HBU : Below w.heap.size w U0 := HBY13.trans (hYU.mono HBY13.size)
  rw [← hU0]
  obtain ⟨nb, hnb⟩ : ∃ nb, nb = V0.heap.size := ⟨_, rfl⟩
  rw [← hnb] at I0 I1 I2 ⊢
  clear hU0 hbU hv0 hnb V0
  go_loopw [3] (fun i wr => ∃ k : Nat, k ≤ 14 ∧ i = .int .i64 k ∧ Below U0.heap.size U0 wr) (fun i _ => 14 - (intOf i).toNat)
  case atStart => exact ⟨0, by omega, rfl, Below.refl _ _⟩
  obtain ⟨k, hk, rfl, hB⟩ := hrel
  have HB : Below w.heap.size w wr := HBU.trans (hB.mono HBU.size)
  by_cases hlt : k < 14
  · as_aux_lemma =>
      obtain ⟨cA, cB⟩ := HCL.out k hlt
      have hR := HAT.out k hlt
      have hV := HNO.out k hlt
      obtain ⟨KR, hKR⟩ : ∃ KR, KR = RB k := ⟨_, rfl⟩
      rw [← hKR] at cA cB hR hV
      clear hKR
      obtain ⟨kg, kA, kc, kl⟩ := KR
      have q0 : wr.cell? ⟨ab, k * 2, none⟩ = some (vi kg) := cell_keep (gr_trans hYU hB) cA
      have q1 : wr.cell? ⟨ab, k * 2 + 1, none⟩ = some (.slice kA kl.length kc) := cell_keep (gr_trans hYU hB) cB
      have HR := hR.to (gr_trans hYU hB)
      have i0 := cell_keep hB I0
      have i1 := cell_keep hB I1
      have i2 := cell_keep hB I2
      have za : ab < wr.heap.size := cell_lt q0
      have zn : nb < wr.heap.size := cell_lt i0
      have hkI : (k : Int) < 14 := by omega
      have h0k : (0 : Int) ≤ k := by omega
      have HD := hB
      clear cA cB hR
      go_upto_region 19 with fail
      (refine wp_region_grow_lit (by kernel_rfl) (by kernel_rfl) ?_; (repeat (go_big_quiet_step (first | (go_at_call 22; refine Calls.grow_of (to_any _ _ _)) | (go_at_call 24; go_loud (refine Calls.grow_of (means_bad ⟨kg, kA, kc, kl⟩ _ (hl.next (HB.trans ((plus_below wr _).mono HB.size))) (HR.to (plus_below wr _)) hV _ _ _)))))); refine wpQuiet_nil ?_; intro w1 hw1; have hb1 := below_of_plus hw1; clear hw1; obtain ⟨⟨hc1, hf1, hs1⟩, hz1⟩ := after hb1; (try simp only [World.size_alloc, World.size_setCell, World.size_drew] at hz1))
      clear hc1 hf1 hs1 hz1
      obtain ⟨X19, rfl⟩ : ∃ X19, X19 = w1 := ⟨_, rfl⟩
      have HBn : Below w.heap.size w X19 := HB.trans (hb1.mono HB.size)
      have HDn : Below U0.heap.size U0 X19 := gr_trans HD hb1
      have HRn := HR.to hb1
      have q0n := cell_keep hb1 q0
      have q1n := cell_keep hb1 q1
      have i0n := cell_keep hb1 i0
      have i1n := cell_keep hb1 i1
      have i2n := cell_keep hb1 i2
      clear HB HD HR q0 q1 i0 i1 i2 za zn hb1
      have HB := HBn
      have HD := HDn
      have HR := HRn
      have q0 := q0n
      have q1 := q1n
      have i0 := i0n
      have i1 := i1n
      have i2 := i2n
      clear HBn HDn HRn q0n q1n i0n i1n i2n
      have za : ab < X19.heap.size := cell_lt q0
      have zn : nb < X19.heap.size := cell_lt i0
      go_wp2_with fail
      refine (number_bad ⟨kg, kA, kc, kl⟩ _ (hl.next HB) HR hV _ _ _).mono ?_
      rintro e X20 ⟨rfl, hb1⟩
      have HBn : Below w.heap.size w X20 := HB.trans (hb1.mono HB.size)
      have HDn : Below U0.heap.size U0 X20 := gr_trans HD hb1
      have HRn := HR.to hb1
      have q0n := cell_keep hb1 q0
      have q1n := cell_keep hb1 q1
      have i0n := cell_keep hb1 i0
      have i1n := cell_keep hb1 i1
      have i2n := cell_keep hb1 i2
      clear HB HD HR q0 q1 i0 i1 i2 za zn hb1
      have HB := HBn
      have HD := HDn
      have HR := HRn
      have q0 := q0n
      have q1 := q1n
      have i0 := i0n
      have i1 := i1n
      have i2 := i2n
      clear HBn HDn HRn q0n q1n i0n i1n i2n
      have za : ab < X20.heap.size := cell_lt q0
      have zn : nb < X20.heap.size := cell_lt i0
      go_wp2_with fail
      refine (twins_bad ⟨kg, kA, kc, kl⟩ _ (hl.next HB) HR hV _).mono ?_
      rintro e X21 ⟨rfl, hb1⟩
      have HBn : Below w.heap.size w X21 := HB.trans (hb1.mono HB.size)
      have HDn : Below U0.heap.size U0 X21 := gr_trans HD hb1
      have HRn := HR.to hb1
      have q0n := cell_keep hb1 q0
      have q1n := cell_keep hb1 q1
      have i0n := cell_keep hb1 i0
      have i1n := cell_keep hb1 i1
      have i2n := cell_keep hb1 i2
      clear HB HD HR q0 q1 i0 i1 i2 za zn hb1
      have HB := HBn
      have HD := HDn
      have HR := HRn
      have q0 := q0n
      have q1 := q1n
      have i0 := i0n
      have i1 := i1n
      have i2 := i2n
      clear HBn HDn HRn q0n q1n i0n i1n i2n
      have za : ab < X21.heap.size := cell_lt q0
      have zn : nb < X21.heap.size := cell_lt i0
      go_upto_region 22 with fail
      (refine wp_region_grow_lit (by kernel_rfl) (by kernel_rfl) ?_; (repeat (go_big_quiet_step (first | (go_at_call 22; refine Calls.grow_of (to_any _ _ _)) | (go_at_call 30; go_loud (refine Calls.grow_of (price_bad ⟨kg, kA, kc, kl⟩ _ (hl.next (HB.trans ((plus_below X21 _).mono HB.size))) (HR.to (plus_below X21 _)) hV _ _ _ _)))))); refine wpQuiet_nil ?_; intro w1 hw1; have hb1 := below_of_plus hw1; clear hw1; obtain ⟨⟨hc1, hf1, hs1⟩, hz1⟩ := after hb1; (try simp only [World.size_alloc, World.size_setCell, World.size_drew] at hz1))
      clear hc1 hf1 hs1 hz1
      obtain ⟨X22, rfl⟩ : ∃ X22, X22 = w1 := ⟨_, rfl⟩
      have HBn : Below w.heap.size w X22 := HB.trans (hb1.mono HB.size)
      have HDn : Below U0.heap.size U0 X22 := gr_trans HD hb1
      have HRn := HR.to hb1
      have q0n := cell_keep hb1 q0
      have q1n := cell_keep hb1 q1
      have i0n := cell_keep hb1 i0
      have i1n := cell_keep hb1 i1
      have i2n := cell_keep hb1 i2
      clear HB HD HR q0 q1 i0 i1 i2 za zn hb1
      have HB := HBn
      have HD := HDn
      have HR := HRn
      have q0 := q0n
      have q1 := q1n
      have i0 := i0n
      have i1 := i1n
      have i2 := i2n
      clear HBn HDn HRn q0n q1n i0n i1n i2n
      have za : ab < X22.heap.size := cell_lt q0
      have zn : nb < X22.heap.size := cell_lt i0
      go_upto_region 23 with fail
      (refine wp_region_grow_lit (by kernel_rfl) (by kernel_rfl) ?_; (repeat (go_big_quiet_step (first | (go_at_call 22; refine Calls.grow_of (to_any _ _ _)) | (go_at_call 34; go_loud (refine Calls.grow_of (prices_bad ⟨kg, kA, kc, kl⟩ _ (hl.next (HB.trans ((plus_below X22 _).mono HB.size))) (HR.to (plus_below X22 _)) hV _ _ _ _ _)))))); refine wpQuiet_nil ?_; intro w1 hw1; have hb1 := below_of_plus hw1; clear hw1; obtain ⟨⟨hc1, hf1, hs1⟩, hz1⟩ := after hb1; (try simp only [World.size_alloc, World.size_setCell, World.size_drew] at hz1))
      clear hc1 hf1 hs1 hz1
      obtain ⟨X23, rfl⟩ : ∃ X23, X23 = w1 := ⟨_, rfl⟩
      have HBn : Below w.heap.size w X23 := HB.trans (hb1.mono HB.size)
      have HDn : Below U0.heap.size U0 X23 := gr_trans HD hb1
      have HRn := HR.to hb1
      have q0n := cell_keep hb1 q0
      have q1n := cell_keep hb1 q1
      have i0n := cell_keep hb1 i0
      have i1n := cell_keep hb1 i1
      have i2n := cell_keep hb1 i2
      clear HB HD HR q0 q1 i0 i1 i2 za zn hb1
      have HB := HBn
      have HD := HDn
      have HR := HRn
      have q0 := q0n
      have q1 := q1n
      have i0 := i0n
      have i1 := i1n
      have i2 := i2n
      clear HBn HDn HRn q0n q1n i0n i1n i2n
      have za : ab < X23.heap.size := cell_lt q0
      have zn : nb < X23.heap.size := cell_lt i0
      go_upto_region 24 with fail
      (refine wp_region_grow_lit (by kernel_rfl) (by kernel_rfl) ?_; (repeat (go_big_quiet_step (first | (go_at_call 22; refine Calls.grow_of (to_any _ _ _)) | (go_at_call 35; go_loud (refine Calls.grow_of (last_bad ⟨kg, kA, kc, kl⟩ _ (hl.next (HB.trans ((plus_below X23 _).mono HB.size))) (HR.to (plus_below X23 _)) hV _ _ _)))))); refine wpQuiet_nil ?_; intro w1 hw1; have hb1 := below_of_plus hw1; clear hw1; obtain ⟨⟨hc1, hf1, hs1⟩, hz1⟩ := after hb1; (try simp only [World.size_alloc, World.size_setCell, World.size_drew] at hz1))
      clear hc1 hf1 hs1 hz1
      obtain ⟨X24, rfl⟩ : ∃ X24, X24 = w1 := ⟨_, rfl⟩
      have HBn : Below w.heap.size w X24 := HB.trans (hb1.mono HB.size)
      have HDn : Below U0.heap.size U0 X24 := gr_trans HD hb1
      have HRn := HR.to hb1
      have q0n := cell_keep hb1 q0
      have q1n := cell_keep hb1 q1
      have i0n := cell_keep hb1 i0
      have i1n := cell_keep hb1 i1
      have i2n := cell_keep hb1 i2
      clear HB HD HR q0 q1 i0 i1 i2 za zn hb1
      have HB := HBn
      have HD := HDn
      have HR := HRn
      have q0 := q0n
      have q1 := q1n
      have i0 := i0n
      have i1 := i1n
      have i2 := i2n
      clear HBn HDn HRn q0n q1n i0n i1n i2n
      have za : ab < X24.heap.size := cell_lt q0
      have zn : nb < X24.heap.size := cell_lt i0
      go_wp2_with fail
      refine (sum_bad ⟨kg, kA, kc, kl⟩ _ (hl.next HB) HR hV _).mono ?_
      rintro e X25 ⟨rfl, hb1⟩
      have HBn : Below w.heap.size w X25 := HB.trans (hb1.mono HB.size)
      have HDn : Below U0.heap.size U0 X25 := gr_trans HD hb1
      have HRn := HR.to hb1
      have q0n := cell_keep hb1 q0
      have q1n := cell_keep hb1 q1
      have i0n := cell_keep hb1 i0
      have i1n := cell_keep hb1 i1
      have i2n := cell_keep hb1 i2
      clear HB HD HR q0 q1 i0 i1 i2 za zn hb1
      have HB := HBn
      have HD := HDn
      have HR := HRn
      have q0 := q0n
      have q1 := q1n
      have i0 := i0n
      have i1 := i1n
      have i2 := i2n
      clear HBn HDn HRn q0n q1n i0n i1n i2n
      have za : ab < X25.heap.size := cell_lt q0
      have zn : nb < X25.heap.size := cell_lt i0
      go_upto_region 26 with fail
      (refine wp_region_grow_lit (by kernel_rfl) (by kernel_rfl) ?_; (repeat (go_big_quiet_step (first | (go_at_call 22; refine Calls.grow_of (to_any _ _ _)) | (go_at_call 38; go_loud (refine Calls.grow_of (cheap_bad ⟨kg, kA, kc, kl⟩ _ (hl.next (HB.trans ((plus_below X25 _).mono HB.size))) (HR.to (plus_below X25 _)) hV _ _)))))); refine wpQuiet_nil ?_; intro w1 hw1; have hb1 := below_of_plus hw1; clear hw1; obtain ⟨⟨hc1, hf1, hs1⟩, hz1⟩ := after hb1; (try simp only [World.size_alloc, World.size_setCell, World.size_drew] at hz1))
      clear hc1 hf1 hs1 hz1
      obtain ⟨X26, rfl⟩ : ∃ X26, X26 = w1 := ⟨_, rfl⟩
      have HBn : Below w.heap.size w X26 := HB.trans (hb1.mono HB.size)
      have HDn : Below U0.heap.size U0 X26 := gr_trans HD hb1
      have HRn := HR.to hb1
      have q0n := cell_keep hb1 q0
      have q1n := cell_keep hb1 q1
      have i0n := cell_keep hb1 i0
      have i1n := cell_keep hb1 i1
      have i2n := cell_keep hb1 i2
      clear HB HD HR q0 q1 i0 i1 i2 za zn hb1
      have HB := HBn
      have HD := HDn
      have HR := HRn
      have q0 := q0n
      have q1 := q1n
      have i0 := i0n
      have i1 := i1n
      have i2 := i2n
      clear HBn HDn HRn q0n q1n i0n i1n i2n
      have za : ab < X26.heap.size := cell_lt q0
      have zn : nb < X26.heap.size := cell_lt i0
      go_upto_region 27 with fail
      (refine wp_region_grow_lit (by kernel_rfl) (by kernel_rfl) ?_; (repeat (go_big_quiet_step (first | (go_at_call 22; refine Calls.grow_of (to_any _ _ _)) | (go_at_call 14; go_loud (refine Calls.grow_of (fits_bad ⟨kg, kA, kc, kl⟩ _ (hl.next (HB.trans ((plus_below X26 _).mono HB.size))) (HR.to (plus_below X26 _)) hV _ _ _ _)))))); refine wpQuiet_nil ?_; intro w1 hw1; have hb1 := below_of_plus hw1; clear hw1; obtain ⟨⟨hc1, hf1, hs1⟩, hz1⟩ := after hb1; (try simp only [World.size_alloc, World.size_setCell, World.size_drew] at hz1))
      clear hc1 hf1 hs1 hz1
      obtain ⟨X27, rfl⟩ : ∃ X27, X27 = w1 := ⟨_, rfl⟩
      have HBn : Below w.heap.size w X27 := HB.trans (hb1.mono HB.size)
      have HDn : Below U0.heap.size U0 X27 := gr_trans HD hb1
      have HRn := HR.to hb1
      have q0n := cell_keep hb1 q0
      have q1n := cell_keep hb1 q1
      have i0n := cell_keep hb1 i0
      have i1n := cell_keep hb1 i1
      have i2n := cell_keep hb1 i2
      clear HB HD HR q0 q1 i0 i1 i2 za zn hb1
      have HB := HBn
      have HD := HDn
      have HR := HRn
      have q0 := q0n
      have q1 := q1n
      have i0 := i0n
      have i1 := i1n
      have i2 := i2n
      clear HBn HDn HRn q0n q1n i0n i1n i2n
      have za : ab < X27.heap.size := cell_lt q0
      have zn : nb < X27.heap.size := cell_lt i0
      go_upto_region 28 with fail
      (refine wp_region_grow_lit (by kernel_rfl) (by kernel_rfl) ?_; (repeat (go_big_quiet_step (first | (go_at_call 22; refine Calls.grow_of (to_any _ _ _)) | (go_at_call 17; go_loud (refine Calls.grow_of (sure_bad ⟨kg, kA, kc, kl⟩ _ (hl.next (HB.trans ((plus_below X27 _).mono HB.size))) (HR.to (plus_below X27 _)) hV _ _ _ _)))))); refine wpQuiet_nil ?_; intro w1 hw1; have hb1 := below_of_plus hw1; clear hw1; obtain ⟨⟨hc1, hf1, hs1⟩, hz1⟩ := after hb1; (try simp only [World.size_alloc, World.size_setCell, World.size_drew] at hz1))
      clear hc1 hf1 hs1 hz1
      obtain ⟨X28, rfl⟩ : ∃ X28, X28 = w1 := ⟨_, rfl⟩
      have HBn : Below w.heap.size w X28 := HB.trans (hb1.mono HB.size)
      have HDn : Below U0.heap.size U0 X28 := gr_trans HD hb1
      have HRn := HR.to hb1
      have q0n := cell_keep hb1 q0
      have q1n := cell_keep hb1 q1
      have i0n := cell_keep hb1 i0
      have i1n := cell_keep hb1 i1
      have i2n := cell_keep hb1 i2
      clear HB HD HR q0 q1 i0 i1 i2 za zn hb1
      have HB := HBn
      have HD := HDn
      have HR := HRn
      have q0 := q0n
      have q1 := q1n
      have i0 := i0n
      have i1 := i1n
      have i2 := i2n
      clear HBn HDn HRn q0n q1n i0n i1n i2n
      have za : ab < X28.heap.size := cell_lt q0
      have zn : nb < X28.heap.size := cell_lt i0
      go_wp2_with fail
      refine (check_bad ⟨kg, kA, kc, kl⟩ _ (hl.next HB) HR hV).mono ?_
      rintro e X29 ⟨rfl, hb1⟩
      have HDn : Below U0.heap.size U0 X29 := gr_trans HD hb1
      clear hb1 HB HR q0 q1 i0 i1 i2 za zn HD
      go_wp2_with fail
      go_roundw
      case rel => exact ⟨k + 1, by omega, by go_num, HDn⟩
      case measure => simp [intOf]; omega
  · obtain rfl : k = 14 := by omega
    clear HCL HAT HNO I0 I1 I2 hYU HBU HBY13
    go_upto_region 31 with fail
    go_cut [26] from 323 to 328 (fun s26 wx => s26 = vi 11 ∧ Below wr.heap.size wr wx)
    case first =>
      as_aux_lemma =>
        go_wp2_with fail
        refine (rack_any _).mono ?_
        rintro e T1 ⟨f1, f2, f3, f4, e1, e2, i1, rfl, hR, hT1⟩
        have T1B : Below w.heap.size w T1 := HB.trans (hT1.mono HB.size)
        go_wp2_with fail
        refine (to_any _ _ _).mono ?_
        rintro e T2 ⟨rfl, hT2⟩
        have T2S : Below wr.heap.size wr T2 := gr_trans hT1 hT2
        have T2B : Below w.heap.size w T2 := T1B.trans (hT2.mono T1B.size)
        replace hR := hR.to hT2
        go_wp2_with fail
        refine (means_ (chap f1 f2 f3 f4 e1 e2 i1) 1 0 12 _ (hl.next T2B) hR).mono ?_
        rintro e T3 ⟨v31, rfl, hm⟩
        have hT3 := hm.2
        rw [(k31 f1 f2 f3 f4 e1 e2 i1)]
        clear hm
        have T3S : Below wr.heap.size wr T3 := gr_trans T2S hT3
        have T3B : Below w.heap.size w T3 := T2B.trans (hT3.mono T2B.size)
        replace hR := hR.to hT3
        clear hR
        go_wp2_with fail
        go_meet
        exact ⟨rfl, T3S⟩
    obtain ⟨rfl, hbc⟩ := hcut
    obtain ⟨T4, rfl⟩ : ∃ T4, T4 = wc := ⟨_, rfl⟩
    have T4B : Below w.heap.size w T4 := HB.trans (hbc.mono HB.size)
    clear hbc
    go_upto_region 32 with fail
    go_cut [28] from 329 to 334 (fun s28 wx => s28 = vi 11 ∧ Below T4.heap.size T4 wx)
    case first =>
      as_aux_lemma =>
        go_wp2_with fail
        refine (rack_any _).mono ?_
        rintro e T5 ⟨f1, f2, f3, f4, e1, e2, i1, rfl, hR, hT5⟩
        have T5B : Below w.heap.size w T5 := T4B.trans (hT5.mono T4B.size)
        go_wp2_with fail
        refine (to_any _ _ _).mono ?_
        rintro e T6 ⟨rfl, hT6⟩
        have T6S : Below T4.heap.size T4 T6 := gr_trans hT5 hT6
        have T6B : Below w.heap.size w T6 := T5B.trans (hT6.mono T5B.size)
        replace hR := hR.to hT6
        go_wp2_with fail
        refine (means_ (chap f1 f2 f3 f4 e1 e2 i1) 1 2 10000 _ (hl.next T6B) hR).mono ?_
        rintro e T7 ⟨v32, rfl, hm⟩
        have hT7 := hm.2
        rw [(k32 f1 f2 f3 f4 e1 e2 i1)]
        clear hm
        have T7S : Below T4.heap.size T4 T7 := gr_trans T6S hT7
        have T7B : Below w.heap.size w T7 := T6B.trans (hT7.mono T6B.size)
        replace hR := hR.to hT7
        clear hR
        go_wp2_with fail
        go_meet
        exact ⟨rfl, T7S⟩
    obtain ⟨rfl, hbc⟩ := hcut
    obtain ⟨T8, rfl⟩ : ∃ T8, T8 = wc := ⟨_, rfl⟩
    have T8B : Below w.heap.size w T8 := T4B.trans (hbc.mono T4B.size)
    clear hbc T4B
    go_upto_region 33 with fail
    go_cut [30] from 335 to 339 (fun s30 wx => s30 = vi 11 ∧ Below T8.heap.size T8 wx)
    case first =>
      as_aux_lemma =>
        go_wp2_with fail
        refine (rack_any _).mono ?_
        rintro e T9 ⟨f1, f2, f3, f4, e1, e2, i1, rfl, hR, hT9⟩
        have T9B : Below w.heap.size w T9 := T8B.trans (hT9.mono T8B.size)
        go_wp2_with fail
        refine (number_any (chap f1 f2 f3 f4 e1 e2 i1) 2 11 0 _ (hl.next T9B) hR).mono ?_
        rintro e T10 ⟨rfl, hT10⟩
        rw [(k33 f1 f2 f3 f4 e1 e2 i1).1, (k33 f1 f2 f3 f4 e1 e2 i1).2]
        have T10S : Below T8.heap.size T8 T10 := gr_trans hT9 hT10
        have T10B : Below w.heap.size w T10 := T9B.trans (hT10.mono T9B.size)
        replace hR := hR.to hT10
        clear hR
        go_wp2_with fail
        go_meet
        exact ⟨rfl, T10S⟩
    obtain ⟨rfl, hbc⟩ := hcut
    obtain ⟨T11, rfl⟩ : ∃ T11, T11 = wc := ⟨_, rfl⟩
    have T11B : Below w.heap.size w T11 := T8B.trans (hbc.mono T8B.size)
    clear hbc T8B
    go_upto_region 34 with fail
    go_cut [32] from 340 to 344 (fun s32 wx => s32 = vi 11 ∧ Below T11.heap.size T11 wx)
    case first =>
      as_aux_lemma =>
        go_wp2_with fail
        refine (rack_any _).mono ?_
        rintro e T12 ⟨f1, f2, f3, f4, e1, e2, i1, rfl, hR, hT12⟩
        have T12B : Below w.heap.size w T12 := T11B.trans (hT12.mono T11B.size)
        go_wp2_with fail
        refine (Twins_any (chap f1 f2 f3 f4 e1 e2 i1) 20001 _ (hl.next T12B) hR).mono ?_
        rintro e T13 ⟨v34, rfl, hm⟩
        have hT13 := hm.2
        rw [(k34 f1 f2 f3 f4 e1 e2 i1)]
        clear hm
        have T13S : Below T11.heap.size T11 T13 := gr_trans hT12 hT13
        have T13B : Below w.heap.size w T13 := T12B.trans (hT13.mono T12B.size)
        replace hR := hR.to hT13
        clear hR
        go_wp2_with fail
        go_meet
        exact ⟨rfl, T13S⟩
    obtain ⟨rfl, hbc⟩ := hcut
    obtain ⟨T14, rfl⟩ : ∃ T14, T14 = wc := ⟨_, rfl⟩
    have T14B : Below w.heap.size w T14 := T11B.trans (hbc.mono T11B.size)
    clear hbc T11B
    go_upto_region 35 with fail
    go_cut [34] from 345 to 350 (fun s34 wx => s34 = vi 11 ∧ Below T14.heap.size T14 wx)
    case first =>
      as_aux_lemma =>
        go_wp2_with fail
        refine (rack_any _).mono ?_
        rintro e T15 ⟨f1, f2, f3, f4, e1, e2, i1, rfl, hR, hT15⟩
        have T15B : Below w.heap.size w T15 := T14B.trans (hT15.mono T14B.size)
        go_wp2_with fail
        refine (thing_any _ _ _ _).mono ?_
        rintro e T16 ⟨rfl, hT16⟩
        have T16S : Below T14.heap.size T14 T16 := gr_trans hT15 hT16
        have T16B : Below w.heap.size w T16 := T15B.trans (hT16.mono T15B.size)
        replace hR := hR.to hT16
        go_wp2_with fail
        refine (Price_any (chap f1 f2 f3 f4 e1 e2 i1) 0 ⟨3, 1, 0⟩ _ (hl.next T16B) hR).mono ?_
        rintro e T17 ⟨rfl, hT17⟩
        rw [(k35 f1 f2 f3 f4 e1 e2 i1).1, (k35 f1 f2 f3 f4 e1 e2 i1).2]
        have T17S : Below T14.heap.size T14 T17 := gr_trans T16S hT17
        have T17B : Below w.heap.size w T17 := T16B.trans (hT17.mono T16B.size)
        replace hR := hR.to hT17
        clear hR
        go_wp2_with fail
        go_meet
        exact ⟨rfl, T17S⟩
    obtain ⟨rfl, hbc⟩ := hcut
    obtain ⟨T18, rfl⟩ : ∃ T18, T18 = wc := ⟨_, rfl⟩
    have T18B : Below w.heap.size w T18 := T14B.trans (hbc.mono T14B.size)
    clear hbc T14B
    go_upto_region 36 with fail
    go_cut [36] from 351 to 356 (fun s36 wx => s36 = vi 11 ∧ Below T18.heap.size T18 wx)
    case first =>
      as_aux_lemma =>
        go_wp2_with fail
        refine (rack_any _).mono ?_
        rintro e T19 ⟨f1, f2, f3, f4, e1, e2, i1, rfl, hR, hT19⟩
        have T19B : Below w.heap.size w T19 := T18B.trans (hT19.mono T18B.size)
        go_wp2_with fail
        refine (thing_any _ _ _ _).mono ?_
        rintro e T20 ⟨rfl, hT20⟩
        have T20S : Below T18.heap.size T18 T20 := gr_trans hT19 hT20
        have T20B : Below w.heap.size w T20 := T19B.trans (hT20.mono T19B.size)
        replace hR := hR.to hT20
        go_wp2_with fail
        refine (Price_any (chap f1 f2 f3 f4 e1 e2 i1) 0 ⟨0, 100, 0⟩ _ (hl.next T20B) hR).mono ?_
        rintro e T21 ⟨rfl, hT21⟩
        rw [(k36 f1 f2 f3 f4 e1 e2 i1).1, (k36 f1 f2 f3 f4 e1 e2 i1).2]
        have T21S : Below T18.heap.size T18 T21 := gr_trans T20S hT21
        have T21B : Below w.heap.size w T21 := T20B.trans (hT21.mono T20B.size)
        replace hR := hR.to hT21
        clear hR
        go_wp2_with fail
        go_meet
        exact ⟨rfl, T21S⟩
    obtain ⟨rfl, hbc⟩ := hcut
    obtain ⟨T22, rfl⟩ : ∃ T22, T22 = wc := ⟨_, rfl⟩
    have T22B : Below w.heap.size w T22 := T18B.trans (hbc.mono T18B.size)
    clear hbc T18B
    go_upto_region 37 with fail
    go_cut [38] from 357 to 363 (fun s38 wx => s38 = vi 11 ∧ Below T22.heap.size T22 wx)
    case first =>
      as_aux_lemma =>
        go_wp2_with fail
        refine (rack_any _).mono ?_
        rintro e T23 ⟨f1, f2, f3, f4, e1, e2, i1, rfl, hR, hT23⟩
        have T23B : Below w.heap.size w T23 := T22B.trans (hT23.mono T22B.size)
        go_wp2_with fail
        refine (to_any _ _ _).mono ?_
        rintro e T24 ⟨rfl, hT24⟩
        have T24S : Below T22.heap.size T22 T24 := gr_trans hT23 hT24
        have T24B : Below w.heap.size w T24 := T23B.trans (hT24.mono T23B.size)
        replace hR := hR.to hT24
        go_wp2_with fail
        refine (thing_any _ _ _ _).mono ?_
        rintro e T25 ⟨rfl, hT25⟩
        have T25S : Below T22.heap.size T22 T25 := gr_trans T24S hT25
        have T25B : Below w.heap.size w T25 := T24B.trans (hT25.mono T24B.size)
        replace hR := hR.to hT25
        go_wp2_with fail
        refine (Prices_any (chap f1 f2 f3 f4 e1 e2 i1) 0 1 ⟨0, 40, 4⟩ _ (hl.next T25B) hR).mono ?_
        rintro e T26 ⟨v37, rfl, hm⟩
        have hT26 := hm.2
        rw [(k37 f1 f2 f3 f4 e1 e2 i1)]
        clear hm
        have T26S : Below T22.heap.size T22 T26 := gr_trans T25S hT26
        have T26B : Below w.heap.size w T26 := T25B.trans (hT26.mono T25B.size)
        replace hR := hR.to hT26
        clear hR
        go_wp2_with fail
        go_meet
        exact ⟨rfl, T26S⟩
    obtain ⟨rfl, hbc⟩ := hcut
    obtain ⟨T27, rfl⟩ : ∃ T27, T27 = wc := ⟨_, rfl⟩
    have T27B : Below w.heap.size w T27 := T22B.trans (hbc.mono T22B.size)
    clear hbc T22B
    go_upto_region 38 with fail
    go_cut [40] from 364 to 369 (fun s40 wx => s40 = vi 11 ∧ Below T27.heap.size T27 wx)
    case first =>
      as_aux_lemma =>
        go_wp2_with fail
        refine (rack_any _).mono ?_
        rintro e T28 ⟨f1, f2, f3, f4, e1, e2, i1, rfl, hR, hT28⟩
        have T28B : Below w.heap.size w T28 := T27B.trans (hT28.mono T27B.size)
        go_wp2_with fail
        refine (thing_any _ _ _ _).mono ?_
        rintro e T29 ⟨rfl, hT29⟩
        have T29S : Below T27.heap.size T27 T29 := gr_trans hT28 hT29
        have T29B : Below w.heap.size w T29 := T28B.trans (hT29.mono T28B.size)
        replace hR := hR.to hT29
        go_wp2_with fail
        refine (Last_any (chap f1 f2 f3 f4 e1 e2 i1) ⟨0, 0, 0⟩ _ (hl.next T29B) hR).mono ?_
        rintro e T30 ⟨rfl, hT30⟩
        rw [(k38 f1 f2 f3 f4 e1 e2 i1).1, (k38 f1 f2 f3 f4 e1 e2 i1).2]
        have T30S : Below T27.heap.size T27 T30 := gr_trans T29S hT30
        have T30B : Below w.heap.size w T30 := T29B.trans (hT30.mono T29B.size)
        replace hR := hR.to hT30
        clear hR
        go_wp2_with fail
        go_meet
        exact ⟨rfl, T30S⟩
    obtain ⟨rfl, hbc⟩ := hcut
    obtain ⟨T31, rfl⟩ : ∃ T31, T31 = wc := ⟨_, rfl⟩
    have T31B : Below w.heap.size w T31 := T27B.trans (hbc.mono T27B.size)
    clear hbc T27B
    go_upto_region 39 with fail
    go_cut [42] from 370 to 377 (fun s42 wx => s42 = vi 11 ∧ Below T31.heap.size T31 wx)
    case first =>
      as_aux_lemma =>
        go_wp2_with fail
        refine (rack_any _).mono ?_
        rintro e T32 ⟨f1, f2, f3, f4, e1, e2, i1, rfl, hR, hT32⟩
        have T32B : Below w.heap.size w T32 := T31B.trans (hT32.mono T31B.size)
        go_wp2_with fail
        refine (thing_any _ _ _ _).mono ?_
        rintro e T33 ⟨rfl, hT33⟩
        have T33S : Below T31.heap.size T31 T33 := gr_trans hT32 hT33
        have T33B : Below w.heap.size w T33 := T32B.trans (hT33.mono T32B.size)
        replace hR := hR.to hT33
        go_wp2_with fail
        obtain ⟨LW, hLW⟩ : ∃ LW, LW = T33.alloc (.cells #[vi 0, vi 40, vi 0, vi 1001] 79) := ⟨_, rfl⟩
        have hbL : Below T33.heap.size T33 LW := by rw [hLW]; exact (Below.refl _ _).alloc (Nat.le_refl _) _
        have hls : LinesAt LW LW.heap.size (some ⟨T33.heap.size, 0, none⟩) 1 [⟨⟨0, 40, 0⟩, 1001⟩] := by rw [hLW]; exact ⟨Nat.le_refl _, by decide, row_of_box (CellsBox.new T33 79 [vi 0, vi 40, vi 0, vi 1001]) (by decide)⟩
        rw [← hLW]
        clear hLW
        have LWS : Below T31.heap.size T31 LW := gr_trans T33S hbL
        have LWB : Below w.heap.size w LW := T33B.trans (hbL.mono T33B.size)
        replace hR := hR.to hbL
        refine (Sum_any (chap f1 f2 f3 f4 e1 e2 i1) 270 _ _ [⟨⟨0, 40, 0⟩, 1001⟩] _ (hl.next LWB) hR hls).mono ?_
        rintro e T34 ⟨rfl, hT34⟩
        rw [(k39 f1 f2 f3 f4 e1 e2 i1).1, (k39 f1 f2 f3 f4 e1 e2 i1).2]
        clear hls
        have T34S : Below T31.heap.size T31 T34 := gr_trans LWS hT34
        have T34B : Below w.heap.size w T34 := LWB.trans (hT34.mono LWB.size)
        replace hR := hR.to hT34
        clear hR
        go_wp2_with fail
        go_meet
        exact ⟨rfl, T34S⟩
    obtain ⟨rfl, hbc⟩ := hcut
    obtain ⟨T35, rfl⟩ : ∃ T35, T35 = wc := ⟨_, rfl⟩
    have T35B : Below w.heap.size w T35 := T31B.trans (hbc.mono T31B.size)
    clear hbc T31B
    go_upto_region 40 with fail
    go_cut [45] from 378 to 385 (fun s45 wx => s45 = vi 11 ∧ Below T35.heap.size T35 wx)
    case first =>
      as_aux_lemma =>
        refine' wp_region_box (fun w' => Below T35.heap.size T35 w') (stays_below _) [] 11 682 (by kernel_rfl) (by kernel_rfl) rfl (by kernel_rfl) (by kernel_rfl) rfl (by kernel_rfl) ?hl40 (Below.refl _ _) ?hq40 ?hr40
        case hl40 => exact rfl
        case hq40 =>
          intro w0 hw0
          exact wpQuiet_nil rfl
        refine wpUp_two (i := 0) (j := 2) (by kernel_rfl) rfl rfl rfl rfl (fun w1 h1 h2 K hK => ?_) (fun w1 h1 h2 K hK => ?_)
        · skip
          go_simp
          refine (rack_any _).mono ?_
          rintro e r0 ⟨f1, f2, f3, f4, e1, e2, i1, rfl, hR, hbr0⟩
          simp only [Act.put, List.setIfInBounds_toArray, List.set_cons_zero, List.set_cons_succ]
          refine hK _ _ (gr_trans h2 hbr0) ?_
          refine wpUp_two (i := 1) (j := 2) (by kernel_rfl) rfl rfl rfl rfl (fun w3 h3 h4 K3 hK3 => ?_) (fun w3 h3 h4 K3 hK3 => ?_)
          · skip
            go_simp
            refine (to_any _ _ _).mono ?_
            rintro e r1 ⟨rfl, hbr1⟩
            simp only [Act.put, List.setIfInBounds_toArray, List.set_cons_zero, List.set_cons_succ]
            refine hK3 _ _ (gr_trans h4 hbr1) ?_
            refine wpUp_one (i := 2) (by kernel_rfl) rfl rfl (fun w5 h5 h6 K5 hK5 => ?_)
            have hmk := mk21 w5
            go_simp
            clear hmk
            obtain ⟨r2, hr2⟩ : ∃ V, V = w5.alloc (.cells (line21.map Line.cells).flatten.toArray 79) := ⟨_, rfl⟩
            have hbr2 : Below w5.heap.size w5 r2 := by rw [hr2]; exact (Below.refl _ _).alloc (Nat.le_refl _) _
            have hls : LinesAt r2 r2.heap.size (some ⟨w5.heap.size, 0, none⟩) 21 line21 := by rw [hr2]; exact ⟨Nat.le_refl _, by decide, row_of_box (CellsBox.new w5 79 _) (by decide)⟩
            first | rw [← hr2] | (simp only [line21] at hr2; rw [← hr2]) | trace_state
            clear hr2
            refine hK5 _ _ (gr_trans h6 hbr2) ?_
            refine wpUp_one (i := 3) (by kernel_rfl) rfl rfl (fun wz hz1 hz2 Kz hKz => ?_)
            go_simp
            refine (Cheapest_any (chap f1 f2 f3 f4 e1 e2 i1) 0 1 (some ⟨w5.heap.size, 0, none⟩) 21 line21 _ (hl.next (T35B.trans (hz2.mono T35B.size))) (hR.to (gr_trans (gr_trans (gr_trans (gr_trans h3 hbr1) h5) hbr2) hz1)) (hls.to hz1)).mono ?_
            rintro e wy ⟨rfl, hby⟩
            rw [(k40 f1 f2 f3 f4 e1 e2 i1).1, (k40 f1 f2 f3 f4 e1 e2 i1).2.1, (k40 f1 f2 f3 f4 e1 e2 i1).2.2]
            simp only [Act.put, List.setIfInBounds_toArray, List.set_cons_zero, List.set_cons_succ]
            refine hKz _ _ (gr_trans hz2 hby) ?_
            refine' wpUp_more (stays_below _) [4, 5, 6, 7, 8, 9, 10] 0 682 (by kernel_rfl) (by kernel_rfl) (by kernel_rfl) rfl (by kernel_rfl) rfl ?hlz3 (Below.refl _ _) ?hqz3 ?hrz3
            case hlz3 =>
              simp only [List.map_cons, List.map_nil, List.getD_cons_zero, List.getD_cons_succ]
              exact rfl
            case hqz3 =>
              intro w0 hw0
              (repeat (go_big_quiet_step (fail)))
              exact wpQuiet_nil rfl
            refine wpUp_done (by kernel_rfl) (fun wf hf1 hf2 => NoPanic.normal ?_)
            go_wp2_with fail
            go_meet
            exact ⟨rfl, hf2⟩
          · skip
            have hmk := mk21 w3
            go_simp
            clear hmk
            obtain ⟨r4, hr4⟩ : ∃ V, V = w3.alloc (.cells (line21.map Line.cells).flatten.toArray 79) := ⟨_, rfl⟩
            have hbr4 : Below w3.heap.size w3 r4 := by rw [hr4]; exact (Below.refl _ _).alloc (Nat.le_refl _) _
            have hls : LinesAt r4 r4.heap.size (some ⟨w3.heap.size, 0, none⟩) 21 line21 := by rw [hr4]; exact ⟨Nat.le_refl _, by decide, row_of_box (CellsBox.new w3 79 _) (by decide)⟩
            first | rw [← hr4] | (simp only [line21] at hr4; rw [← hr4]) | trace_state
            clear hr4
            refine hK3 _ _ (gr_trans h4 hbr4) ?_
            refine wpUp_one (i := 1) (by kernel_rfl) rfl rfl (fun w5 h5 h6 K5 hK5 => ?_)
            go_simp
            refine (to_any _ _ _).mono ?_
            rintro e r5 ⟨rfl, hbr5⟩
            simp only [Act.put, List.setIfInBounds_toArray, List.set_cons_zero, List.set_cons_succ]
            refine hK5 _ _ (gr_trans h6 hbr5) ?_
            refine wpUp_one (i := 3) (by kernel_rfl) rfl rfl (fun wz hz1 hz2 Kz hKz => ?_)
            go_simp
            refine (Cheapest_any (chap f1 f2 f3 f4 e1 e2 i1) 0 1 (some ⟨w3.heap.size, 0, none⟩) 21 line21 _ (hl.next (T35B.trans (hz2.mono T35B.size))) (hR.to (gr_trans (gr_trans (gr_trans (gr_trans h3 hbr4) h5) hbr5) hz1)) (hls.to (gr_trans (gr_trans h5 hbr5) hz1))).mono ?_
            rintro e wy ⟨rfl, hby⟩
            rw [(k40 f1 f2 f3 f4 e1 e2 i1).1, (k40 f1 f2 f3 f4 e1 e2 i1).2.1, (k40 f1 f2 f3 f4 e1 e2 i1).2.2]
            simp only [Act.put, List.setIfInBounds_toArray, List.set_cons_zero, List.set_cons_succ]
            refine hKz _ _ (gr_trans hz2 hby) ?_
            refine' wpUp_more (stays_below _) [4, 5, 6, 7, 8, 9, 10] 0 682 (by kernel_rfl) (by kernel_rfl) (by kernel_rfl) rfl (by kernel_rfl) rfl ?hlz6 (Below.refl _ _) ?hqz6 ?hrz6
            case hlz6 =>
              simp only [List.map_cons, List.map_nil, List.getD_cons_zero, List.getD_cons_succ]
              exact rfl
            case hqz6 =>
              intro w0 hw0
              (repeat (go_big_quiet_step (fail)))
              exact wpQuiet_nil rfl
            refine wpUp_done (by kernel_rfl) (fun wf hf1 hf2 => NoPanic.normal ?_)
            go_wp2_with fail
            go_meet
            exact ⟨rfl, hf2⟩
        · skip
          have hmk := mk21 w1
          go_simp
          clear hmk
          obtain ⟨r7, hr7⟩ : ∃ V, V = w1.alloc (.cells (line21.map Line.cells).flatten.toArray 79) := ⟨_, rfl⟩
          have hbr7 : Below w1.heap.size w1 r7 := by rw [hr7]; exact (Below.refl _ _).alloc (Nat.le_refl _) _
          have hls : LinesAt r7 r7.heap.size (some ⟨w1.heap.size, 0, none⟩) 21 line21 := by rw [hr7]; exact ⟨Nat.le_refl _, by decide, row_of_box (CellsBox.new w1 79 _) (by decide)⟩
          first | rw [← hr7] | (simp only [line21] at hr7; rw [← hr7]) | trace_state
          clear hr7
          refine hK _ _ (gr_trans h2 hbr7) ?_
          refine wpUp_one (i := 0) (by kernel_rfl) rfl rfl (fun w3 h3 h4 K3 hK3 => ?_)
          go_simp
          refine (rack_any _).mono ?_
          rintro e r8 ⟨f1, f2, f3, f4, e1, e2, i1, rfl, hR, hbr8⟩
          simp only [Act.put, List.setIfInBounds_toArray, List.set_cons_zero, List.set_cons_succ]
          refine hK3 _ _ (gr_trans h4 hbr8) ?_
          refine wpUp_one (i := 1) (by kernel_rfl) rfl rfl (fun w5 h5 h6 K5 hK5 => ?_)
          go_simp
          refine (to_any _ _ _).mono ?_
          rintro e r9 ⟨rfl, hbr9⟩
          simp only [Act.put, List.setIfInBounds_toArray, List.set_cons_zero, List.set_cons_succ]
          refine hK5 _ _ (gr_trans h6 hbr9) ?_
          refine wpUp_one (i := 3) (by kernel_rfl) rfl rfl (fun wz hz1 hz2 Kz hKz => ?_)
          go_simp
          refine (Cheapest_any (chap f1 f2 f3 f4 e1 e2 i1) 0 1 (some ⟨w1.heap.size, 0, none⟩) 21 line21 _ (hl.next (T35B.trans (hz2.mono T35B.size))) (hR.to (gr_trans (gr_trans h5 hbr9) hz1)) (hls.to (gr_trans (gr_trans (gr_trans (gr_trans h3 hbr8) h5) hbr9) hz1))).mono ?_
          rintro e wy ⟨rfl, hby⟩
          rw [(k40 f1 f2 f3 f4 e1 e2 i1).1, (k40 f1 f2 f3 f4 e1 e2 i1).2.1, (k40 f1 f2 f3 f4 e1 e2 i1).2.2]
          simp only [Act.put, List.setIfInBounds_toArray, List.set_cons_zero, List.set_cons_succ]
          refine hKz _ _ (gr_trans hz2 hby) ?_
          refine' wpUp_more (stays_below _) [4, 5, 6, 7, 8, 9, 10] 0 682 (by kernel_rfl) (by kernel_rfl) (by kernel_rfl) rfl (by kernel_rfl) rfl ?hlz10 (Below.refl _ _) ?hqz10 ?hrz10
          case hlz10 =>
            simp only [List.map_cons, List.map_nil, List.getD_cons_zero, List.getD_cons_succ]
            exact rfl
          case hqz10 =>
            intro w0 hw0
            (repeat (go_big_quiet_step (fail)))
            exact wpQuiet_nil rfl
          refine wpUp_done (by kernel_rfl) (fun wf hf1 hf2 => NoPanic.normal ?_)
          go_wp2_with fail
          go_meet
          exact ⟨rfl, hf2⟩
    obtain ⟨rfl, hbc⟩ := hcut
    obtain ⟨T36, rfl⟩ : ∃ T36, T36 = wc := ⟨_, rfl⟩
    have T36B : Below w.heap.size w T36 := T35B.trans (hbc.mono T35B.size)
    clear hbc T35B
    go_upto_region 41 with fail
    go_cut [47] from 386 to 391 (fun s47 wx => s47 = vi 11 ∧ Below T36.heap.size T36 wx)
    case first =>
      as_aux_lemma =>
        go_wp2_with fail
        refine (rack_any _).mono ?_
        rintro e T37 ⟨f1, f2, f3, f4, e1, e2, i1, rfl, hR, hT37⟩
        have T37B : Below w.heap.size w T37 := T36B.trans (hT37.mono T36B.size)
        go_wp2_with fail
        refine (to_any _ _ _).mono ?_
        rintro e T38 ⟨rfl, hT38⟩
        have T38S : Below T36.heap.size T36 T38 := gr_trans hT37 hT38
        have T38B : Below w.heap.size w T38 := T37B.trans (hT38.mono T37B.size)
        replace hR := hR.to hT38
        go_wp2_with fail
        refine (fits_any (chap f1 f2 f3 f4 e1 e2 i1) 0 11 255 401 _ (hl.next T38B) hR).mono ?_
        rintro e T39 ⟨v41, rfl, hm⟩
        have hT39 := hm.2
        rw [(k41 f1 f2 f3 f4 e1 e2 i1)]
        clear hm
        have T39S : Below T36.heap.size T36 T39 := gr_trans T38S hT39
        have T39B : Below w.heap.size w T39 := T38B.trans (hT39.mono T38B.size)
        replace hR := hR.to hT39
        clear hR
        go_wp2_with fail
        go_meet
        exact ⟨rfl, T39S⟩
    obtain ⟨rfl, hbc⟩ := hcut
    obtain ⟨T40, rfl⟩ : ∃ T40, T40 = wc := ⟨_, rfl⟩
    have T40B : Below w.heap.size w T40 := T36B.trans (hbc.mono T36B.size)
    clear hbc T36B
    go_upto_region 42 with fail
    go_cut [49] from 392 to 397 (fun s49 wx => s49 = vi 11 ∧ Below T40.heap.size T40 wx)
    case first =>
      as_aux_lemma =>
        go_wp2_with fail
        refine (rack_any _).mono ?_
        rintro e T41 ⟨f1, f2, f3, f4, e1, e2, i1, rfl, hR, hT41⟩
        have T41B : Below w.heap.size w T41 := T40B.trans (hT41.mono T40B.size)
        go_wp2_with fail
        refine (to_any _ _ _).mono ?_
        rintro e T42 ⟨rfl, hT42⟩
        have T42S : Below T40.heap.size T40 T42 := gr_trans hT41 hT42
        have T42B : Below w.heap.size w T42 := T41B.trans (hT42.mono T41B.size)
        replace hR := hR.to hT42
        go_wp2_with fail
        refine (sure_any (chap f1 f2 f3 f4 e1 e2 i1) 0 0 255 256 _ (hl.next T42B) hR).mono ?_
        rintro e T43 ⟨rfl, hT43⟩
        rw [(k42 f1 f2 f3 f4 e1 e2 i1).1, (k42 f1 f2 f3 f4 e1 e2 i1).2]
        have T43S : Below T40.heap.size T40 T43 := gr_trans T42S hT43
        have T43B : Below w.heap.size w T43 := T42B.trans (hT43.mono T42B.size)
        replace hR := hR.to hT43
        clear hR
        go_wp2_with fail
        go_meet
        exact ⟨rfl, T43S⟩
    obtain ⟨rfl, hbc⟩ := hcut
    obtain ⟨T44, rfl⟩ : ∃ T44, T44 = wc := ⟨_, rfl⟩
    have T44B : Below w.heap.size w T44 := T40B.trans (hbc.mono T40B.size)
    clear hbc T40B
    go_upto_region 45 with fail
    go_cut [26] from 444 to 448 (fun s26 wx => s26 = vi 4 ∧ Below T44.heap.size T44 wx)
    case first =>
      as_aux_lemma =>
        go_wp2_with fail
        refine (rack_any _).mono ?_
        rintro e T45 ⟨f1, f2, f3, f4, e1, e2, i1, rfl, hR, hT45⟩
        have T45B : Below w.heap.size w T45 := T44B.trans (hT45.mono T44B.size)
        go_wp2_with fail
        refine (number_any (chap f1 f2 f3 f4 e1 e2 i1) 0 12 1 _ (hl.next T45B) hR).mono ?_
        rintro e T46 ⟨rfl, hT46⟩
        rw [(k45 f1 f2 f3 f4 e1 e2 i1).1, (k45 f1 f2 f3 f4 e1 e2 i1).2]
        have T46S : Below T44.heap.size T44 T46 := gr_trans hT45 hT46
        have T46B : Below w.heap.size w T46 := T45B.trans (hT46.mono T45B.size)
        replace hR := hR.to hT46
        clear hR
        go_wp2_with fail
        go_meet
        exact ⟨rfl, T46S⟩
    obtain ⟨rfl, hbc⟩ := hcut
    obtain ⟨T47, rfl⟩ : ∃ T47, T47 = wc := ⟨_, rfl⟩
    have T47B : Below w.heap.size w T47 := T44B.trans (hbc.mono T44B.size)
    clear hbc T44B
    go_upto_region 46 with fail
    go_cut [28] from 449 to 453 (fun s28 wx => s28 = vi 4 ∧ Below T47.heap.size T47 wx)
    case first =>
      as_aux_lemma =>
        go_wp2_with fail
        refine (rack_any _).mono ?_
        rintro e T48 ⟨f1, f2, f3, f4, e1, e2, i1, rfl, hR, hT48⟩
        have T48B : Below w.heap.size w T48 := T47B.trans (hT48.mono T47B.size)
        go_wp2_with fail
        refine (number_any (chap f1 f2 f3 f4 e1 e2 i1) 0 13 1 _ (hl.next T48B) hR).mono ?_
        rintro e T49 ⟨rfl, hT49⟩
        rw [(k46 f1 f2 f3 f4 e1 e2 i1).1, (k46 f1 f2 f3 f4 e1 e2 i1).2]
        have T49S : Below T47.heap.size T47 T49 := gr_trans hT48 hT49
        have T49B : Below w.heap.size w T49 := T48B.trans (hT49.mono T48B.size)
        replace hR := hR.to hT49
        clear hR
        go_wp2_with fail
        go_meet
        exact ⟨rfl, T49S⟩
    obtain ⟨rfl, hbc⟩ := hcut
    obtain ⟨T50, rfl⟩ : ∃ T50, T50 = wc := ⟨_, rfl⟩
    have T50B : Below w.heap.size w T50 := T47B.trans (hbc.mono T47B.size)
    clear hbc T47B
    go_upto_region 47 with fail
    go_cut [30] from 454 to 459 (fun s30 wx => s30 = vi 4 ∧ Below T50.heap.size T50 wx)
    case first =>
      as_aux_lemma =>
        go_wp2_with fail
        refine (rack_any _).mono ?_
        rintro e T51 ⟨f1, f2, f3, f4, e1, e2, i1, rfl, hR, hT51⟩
        have T51B : Below w.heap.size w T51 := T50B.trans (hT51.mono T50B.size)
        go_wp2_with fail
        refine (thing_any _ _ _ _).mono ?_
        rintro e T52 ⟨rfl, hT52⟩
        have T52S : Below T50.heap.size T50 T52 := gr_trans hT51 hT52
        have T52B : Below w.heap.size w T52 := T51B.trans (hT52.mono T51B.size)
        replace hR := hR.to hT52
        go_wp2_with fail
        refine (Price_any (chap f1 f2 f3 f4 e1 e2 i1) 99 ⟨0, 40, 0⟩ _ (hl.next T52B) hR).mono ?_
        rintro e T53 ⟨rfl, hT53⟩
        rw [(k47 f1 f2 f3 f4 e1 e2 i1).1, (k47 f1 f2 f3 f4 e1 e2 i1).2]
        have T53S : Below T50.heap.size T50 T53 := gr_trans T52S hT53
        have T53B : Below w.heap.size w T53 := T52B.trans (hT53.mono T52B.size)
        replace hR := hR.to hT53
        clear hR
        go_wp2_with fail
        go_meet
        exact ⟨rfl, T53S⟩
    obtain ⟨rfl, hbc⟩ := hcut
    obtain ⟨T54, rfl⟩ : ∃ T54, T54 = wc := ⟨_, rfl⟩
    have T54B : Below w.heap.size w T54 := T50B.trans (hbc.mono T50B.size)
    clear hbc T50B
    go_upto_region 48 with fail
    go_cut [32] from 460 to 465 (fun s32 wx => s32 = vi 4 ∧ Below T54.heap.size T54 wx)
    case first =>
      as_aux_lemma =>
        go_wp2_with fail
        refine (rack_any _).mono ?_
        rintro e T55 ⟨f1, f2, f3, f4, e1, e2, i1, rfl, hR, hT55⟩
        have T55B : Below w.heap.size w T55 := T54B.trans (hT55.mono T54B.size)
        go_wp2_with fail
        refine (thing_any _ _ _ _).mono ?_
        rintro e T56 ⟨rfl, hT56⟩
        have T56S : Below T54.heap.size T54 T56 := gr_trans hT55 hT56
        have T56B : Below w.heap.size w T56 := T55B.trans (hT56.mono T55B.size)
        replace hR := hR.to hT56
        go_wp2_with fail
        refine (Price_any (chap f1 f2 f3 f4 e1 e2 i1) 301 ⟨0, 40, 1⟩ _ (hl.next T56B) hR).mono ?_
        rintro e T57 ⟨rfl, hT57⟩
        rw [(k48 f1 f2 f3 f4 e1 e2 i1).1, (k48 f1 f2 f3 f4 e1 e2 i1).2]
        have T57S : Below T54.heap.size T54 T57 := gr_trans T56S hT57
        have T57B : Below w.heap.size w T57 := T56B.trans (hT57.mono T56B.size)
        replace hR := hR.to hT57
        clear hR
        go_wp2_with fail
        go_meet
        exact ⟨rfl, T57S⟩
    obtain ⟨rfl, hbc⟩ := hcut
    obtain ⟨T58, rfl⟩ : ∃ T58, T58 = wc := ⟨_, rfl⟩
    have T58B : Below w.heap.size w T58 := T54B.trans (hbc.mono T54B.size)
    clear hbc T54B
    go_upto_region 49 with fail
    go_cut [34] from 466 to 471 (fun s34 wx => s34 = vi 4 ∧ Below T58.heap.size T58 wx)
    case first =>
      as_aux_lemma =>
        go_wp2_with fail
        refine (rack_any _).mono ?_
        rintro e T59 ⟨f1, f2, f3, f4, e1, e2, i1, rfl, hR, hT59⟩
        have T59B : Below w.heap.size w T59 := T58B.trans (hT59.mono T58B.size)
        go_wp2_with fail
        refine (thing_any _ _ _ _).mono ?_
        rintro e T60 ⟨rfl, hT60⟩
        have T60S : Below T58.heap.size T58 T60 := gr_trans hT59 hT60
        have T60B : Below w.heap.size w T60 := T59B.trans (hT60.mono T59B.size)
        replace hR := hR.to hT60
        go_wp2_with fail
        refine (Last_any (chap f1 f2 f3 f4 e1 e2 i1) ⟨2, 1, 0⟩ _ (hl.next T60B) hR).mono ?_
        rintro e T61 ⟨rfl, hT61⟩
        rw [(k49 f1 f2 f3 f4 e1 e2 i1).1, (k49 f1 f2 f3 f4 e1 e2 i1).2]
        have T61S : Below T58.heap.size T58 T61 := gr_trans T60S hT61
        have T61B : Below w.heap.size w T61 := T60B.trans (hT61.mono T60B.size)
        replace hR := hR.to hT61
        clear hR
        go_wp2_with fail
        go_meet
        exact ⟨rfl, T61S⟩
    obtain ⟨rfl, hbc⟩ := hcut
    obtain ⟨T62, rfl⟩ : ∃ T62, T62 = wc := ⟨_, rfl⟩
    have T62B : Below w.heap.size w T62 := T58B.trans (hbc.mono T58B.size)
    clear hbc T58B
    go_upto_region 50 with fail
    go_cut [36] from 472 to 477 (fun s36 wx => s36 = vi 4 ∧ Below T62.heap.size T62 wx)
    case first =>
      as_aux_lemma =>
        go_wp2_with fail
        refine (rack_any _).mono ?_
        rintro e T63 ⟨f1, f2, f3, f4, e1, e2, i1, rfl, hR, hT63⟩
        have T63B : Below w.heap.size w T63 := T62B.trans (hT63.mono T62B.size)
        go_wp2_with fail
        refine (order_any _).mono ?_
        rintro e T64 ⟨oA, oc, rfl, hls, hT64⟩
        have T64S : Below T62.heap.size T62 T64 := gr_trans hT63 hT64
        have T64B : Below w.heap.size w T64 := T63B.trans (hT64.mono T63B.size)
        replace hR := hR.to hT64
        go_wp2_with fail
        refine (Sum_any (chap f1 f2 f3 f4 e1 e2 i1) 259 oA oc orderL _ (hl.next T64B) hR hls).mono ?_
        rintro e T65 ⟨rfl, hT65⟩
        rw [(k50 f1 f2 f3 f4 e1 e2 i1).1, (k50 f1 f2 f3 f4 e1 e2 i1).2]
        have T65S : Below T62.heap.size T62 T65 := gr_trans T64S hT65
        have T65B : Below w.heap.size w T65 := T64B.trans (hT65.mono T64B.size)
        replace hR := hR.to hT65
        replace hls := hls.to hT65
        clear hR
        clear hls
        go_wp2_with fail
        go_meet
        exact ⟨rfl, T65S⟩
    obtain ⟨rfl, hbc⟩ := hcut
    obtain ⟨T66, rfl⟩ : ∃ T66, T66 = wc := ⟨_, rfl⟩
    have T66B : Below w.heap.size w T66 := T62B.trans (hbc.mono T62B.size)
    clear hbc T62B
    go_upto_region 51 with fail
    go_cut [38] from 478 to 485 (fun s38 wx => s38 = vi 4 ∧ Below T66.heap.size T66 wx)
    case first =>
      as_aux_lemma =>
        go_wp2_with fail
        refine (rack_any _).mono ?_
        rintro e T67 ⟨f1, f2, f3, f4, e1, e2, i1, rfl, hR, hT67⟩
        have T67B : Below w.heap.size w T67 := T66B.trans (hT67.mono T66B.size)
        go_wp2_with fail
        refine (to_any _ _ _).mono ?_
        rintro e T68 ⟨rfl, hT68⟩
        have T68S : Below T66.heap.size T66 T68 := gr_trans hT67 hT68
        have T68B : Below w.heap.size w T68 := T67B.trans (hT68.mono T67B.size)
        replace hR := hR.to hT68
        go_wp2_with fail
        refine (order_any _).mono ?_
        rintro e T69 ⟨oA, oc, rfl, hls, hT69⟩
        have T69S : Below T66.heap.size T66 T69 := gr_trans T68S hT69
        have T69B : Below w.heap.size w T69 := T68B.trans (hT69.mono T68B.size)
        replace hR := hR.to hT69
        go_wp2_with fail
        refine (Cheapest_any (chap f1 f2 f3 f4 e1 e2 i1) 0 259 oA oc orderL _ (hl.next T69B) hR hls).mono ?_
        rintro e T70 ⟨rfl, hT70⟩
        rw [(k51 f1 f2 f3 f4 e1 e2 i1).1, (k51 f1 f2 f3 f4 e1 e2 i1).2.1, (k51 f1 f2 f3 f4 e1 e2 i1).2.2]
        have T70S : Below T66.heap.size T66 T70 := gr_trans T69S hT70
        have T70B : Below w.heap.size w T70 := T69B.trans (hT70.mono T69B.size)
        replace hR := hR.to hT70
        replace hls := hls.to hT70
        clear hR
        clear hls
        go_wp2_with fail
        go_meet
        exact ⟨rfl, T70S⟩
    obtain ⟨rfl, hbc⟩ := hcut
    obtain ⟨T71, rfl⟩ : ∃ T71, T71 = wc := ⟨_, rfl⟩
    have T71B : Below w.heap.size w T71 := T66B.trans (hbc.mono T66B.size)
    clear hbc T66B
    go_upto_region 52 with fail
    go_cut [40] from 486 to 491 (fun s40 wx => s40 = vi 4 ∧ Below T71.heap.size T71 wx)
    case first =>
      as_aux_lemma =>
        go_wp2_with fail
        refine (rack_any _).mono ?_
        rintro e T72 ⟨f1, f2, f3, f4, e1, e2, i1, rfl, hR, hT72⟩
        have T72B : Below w.heap.size w T72 := T71B.trans (hT72.mono T71B.size)
        go_wp2_with fail
        refine (to_any _ _ _).mono ?_
        rintro e T73 ⟨rfl, hT73⟩
        have T73S : Below T71.heap.size T71 T73 := gr_trans hT72 hT73
        have T73B : Below w.heap.size w T73 := T72B.trans (hT73.mono T72B.size)
        replace hR := hR.to hT73
        go_wp2_with fail
        refine (fits_any (chap f1 f2 f3 f4 e1 e2 i1) 0 13 255 256 _ (hl.next T73B) hR).mono ?_
        rintro e T74 ⟨v52, rfl, hm⟩
        have hT74 := hm.2
        rw [(k52 f1 f2 f3 f4 e1 e2 i1)]
        clear hm
        have T74S : Below T71.heap.size T71 T74 := gr_trans T73S hT74
        have T74B : Below w.heap.size w T74 := T73B.trans (hT74.mono T73B.size)
        replace hR := hR.to hT74
        clear hR
        go_wp2_with fail
        go_meet
        exact ⟨rfl, T74S⟩
    obtain ⟨rfl, hbc⟩ := hcut
    obtain ⟨T75, rfl⟩ : ∃ T75, T75 = wc := ⟨_, rfl⟩
    have T75B : Below w.heap.size w T75 := T71B.trans (hbc.mono T71B.size)
    clear hbc T71B
    go_upto_region 53 with fail
    go_cut [42] from 492 to 497 (fun s42 wx => s42 = vi 4 ∧ Below T75.heap.size T75 wx)
    case first =>
      as_aux_lemma =>
        go_wp2_with fail
        refine (rack_any _).mono ?_
        rintro e T76 ⟨f1, f2, f3, f4, e1, e2, i1, rfl, hR, hT76⟩
        have T76B : Below w.heap.size w T76 := T75B.trans (hT76.mono T75B.size)
        go_wp2_with fail
        refine (to_any _ _ _).mono ?_
        rintro e T77 ⟨rfl, hT77⟩
        have T77S : Below T75.heap.size T75 T77 := gr_trans hT76 hT77
        have T77B : Below w.heap.size w T77 := T76B.trans (hT77.mono T76B.size)
        replace hR := hR.to hT77
        go_wp2_with fail
        refine (sure_any (chap f1 f2 f3 f4 e1 e2 i1) 0 11 255 260 _ (hl.next T77B) hR).mono ?_
        rintro e T78 ⟨rfl, hT78⟩
        rw [(k53 f1 f2 f3 f4 e1 e2 i1).1, (k53 f1 f2 f3 f4 e1 e2 i1).2]
        have T78S : Below T75.heap.size T75 T78 := gr_trans T77S hT78
        have T78B : Below w.heap.size w T78 := T77B.trans (hT78.mono T77B.size)
        replace hR := hR.to hT78
        clear hR
        go_wp2_with fail
        go_meet
        exact ⟨rfl, T78S⟩
    obtain ⟨rfl, hbc⟩ := hcut
    obtain ⟨T79, rfl⟩ : ∃ T79, T79 = wc := ⟨_, rfl⟩
    have T79B : Below w.heap.size w T79 := T75B.trans (hbc.mono T75B.size)
    clear hbc T75B
    go_upto_region 56 with fail
    go_cut [50, 26] from 532 to 537 (fun s50 s26 wx => (∃ lA lc, s50 = .slice lA 1 lc ∧ RowsAt wx wx.heap.size 2 lA lc ([((1 : Int), (0 : Int))].map meantC)) ∧ s26 = vi 0 ∧ Below T79.heap.size T79 wx)
    case first =>
      as_aux_lemma =>
        go_wp2_with fail
        refine (rack_any _).mono ?_
        rintro e T80 ⟨f1, f2, f3, f4, e1, e2, i1, rfl, hR, hT80⟩
        have T80B : Below w.heap.size w T80 := T79B.trans (hT80.mono T79B.size)
        go_wp2_with fail
        refine (to_any _ _ _).mono ?_
        rintro e T81 ⟨rfl, hT81⟩
        have T81S : Below T79.heap.size T79 T81 := gr_trans hT80 hT81
        have T81B : Below w.heap.size w T81 := T80B.trans (hT81.mono T80B.size)
        replace hR := hR.to hT81
        go_wp2_with fail
        refine (means_ (chap f1 f2 f3 f4 e1 e2 i1) 290 300 12 _ (hl.next T81B) hR).mono ?_
        rintro e T82 ⟨v, rfl, hm⟩
        rw [(k56 f1 f2 f3 f4 e1 e2 i1).1]
        rw [(k56 f1 f2 f3 f4 e1 e2 i1).2] at hm
        obtain ⟨⟨lA, lc, rfl, lm1, lm2, lm3, _⟩, hT82⟩ := hm
        have T82S : Below T79.heap.size T79 T82 := gr_trans T81S hT82
        have T82B : Below w.heap.size w T82 := T81B.trans (hT82.mono T81B.size)
        replace hR := hR.to hT82
        clear hR
        have hl1 : RowsAt T82 T82.heap.size 2 lA lc ([((1 : Int), (0 : Int))].map meantC) := ⟨lm1, lm2, lm3⟩
        clear lm1 lm2 lm3
        go_wp2_with fail
        go_meet
        exact ⟨⟨lA, lc, rfl, hl1⟩, rfl, T82S⟩
    obtain ⟨⟨lA, lc, rfl, hl1⟩, rfl, hbc⟩ := hcut
    obtain ⟨T83, rfl⟩ : ∃ T83, T83 = wc := ⟨_, rfl⟩
    have T83B : Below w.heap.size w T83 := T79B.trans (hbc.mono T79B.size)
    clear hbc
    go_upto_region 57 with fail
    go_cut [51, 28] from 538 to 542 (fun s51 s28 wx => s51 = vi 11 ∧ s28 = vi 0 ∧ Below T83.heap.size T83 wx)
    case first =>
      as_aux_lemma =>
        go_wp2_with fail
        refine (rack_any _).mono ?_
        rintro e T84 ⟨f1, f2, f3, f4, e1, e2, i1, rfl, hR, hT84⟩
        have T84B : Below w.heap.size w T84 := T83B.trans (hT84.mono T83B.size)
        go_wp2_with fail
        refine (number_any (chap f1 f2 f3 f4 e1 e2 i1) 1 12 0 _ (hl.next T84B) hR).mono ?_
        rintro e T85 ⟨rfl, hT85⟩
        rw [(k57 f1 f2 f3 f4 e1 e2 i1).1, (k57 f1 f2 f3 f4 e1 e2 i1).2]
        have T85S : Below T83.heap.size T83 T85 := gr_trans hT84 hT85
        have T85B : Below w.heap.size w T85 := T84B.trans (hT85.mono T84B.size)
        replace hR := hR.to hT85
        clear hR
        go_wp2_with fail
        go_meet
        exact ⟨rfl, rfl, T85S⟩
    obtain ⟨rfl, rfl, hbc⟩ := hcut
    obtain ⟨T86, rfl⟩ : ∃ T86, T86 = wc := ⟨_, rfl⟩
    have T86B : Below w.heap.size w T86 := T83B.trans (hbc.mono T83B.size)
    replace hl1 := hl1.to hbc
    clear hbc
    go_upto_region 58 with fail
    go_cut [52, 30] from 543 to 547 (fun s52 s30 wx => (∃ tA tc, s52 = .slice tA 0 tc) ∧ s30 = vi 0 ∧ Below T86.heap.size T86 wx)
    case first =>
      as_aux_lemma =>
        go_wp2_with fail
        refine (rack_any _).mono ?_
        rintro e T87 ⟨f1, f2, f3, f4, e1, e2, i1, rfl, hR, hT87⟩
        have T87B : Below w.heap.size w T87 := T86B.trans (hT87.mono T86B.size)
        go_wp2_with fail
        refine (Twins_any (chap f1 f2 f3 f4 e1 e2 i1) 200 _ (hl.next T87B) hR).mono ?_
        rintro e T88 ⟨v, rfl, hm⟩
        rw [(k58 f1 f2 f3 f4 e1 e2 i1).1]
        rw [(k58 f1 f2 f3 f4 e1 e2 i1).2] at hm
        obtain ⟨⟨tA, tc, rfl, -⟩, hT88⟩ := hm
        have T88S : Below T86.heap.size T86 T88 := gr_trans hT87 hT88
        have T88B : Below w.heap.size w T88 := T87B.trans (hT88.mono T87B.size)
        replace hR := hR.to hT88
        clear hR
        go_wp2_with fail
        go_meet
        exact ⟨⟨tA, tc, rfl⟩, rfl, T88S⟩
    obtain ⟨⟨tA, tc, rfl⟩, rfl, hbc⟩ := hcut
    obtain ⟨T89, rfl⟩ : ∃ T89, T89 = wc := ⟨_, rfl⟩
    have T89B : Below w.heap.size w T89 := T86B.trans (hbc.mono T86B.size)
    replace hl1 := hl1.to hbc
    clear hbc
    go_upto_region 59 with fail
    go_cut [53, 32] from 548 to 553 (fun s53 s32 wx => s53 = vi 980 ∧ s32 = vi 0 ∧ Below T89.heap.size T89 wx)
    case first =>
      as_aux_lemma =>
        go_wp2_with fail
        refine (rack_any _).mono ?_
        rintro e T90 ⟨f1, f2, f3, f4, e1, e2, i1, rfl, hR, hT90⟩
        have T90B : Below w.heap.size w T90 := T89B.trans (hT90.mono T89B.size)
        go_wp2_with fail
        refine (thing_any _ _ _ _).mono ?_
        rintro e T91 ⟨rfl, hT91⟩
        have T91S : Below T89.heap.size T89 T91 := gr_trans hT90 hT91
        have T91B : Below w.heap.size w T91 := T90B.trans (hT91.mono T90B.size)
        replace hR := hR.to hT91
        go_wp2_with fail
        refine (Price_any (chap f1 f2 f3 f4 e1 e2 i1) 301 ⟨0, 40, 0⟩ _ (hl.next T91B) hR).mono ?_
        rintro e T92 ⟨rfl, hT92⟩
        rw [(k59 f1 f2 f3 f4 e1 e2 i1).1, (k59 f1 f2 f3 f4 e1 e2 i1).2]
        have T92S : Below T89.heap.size T89 T92 := gr_trans T91S hT92
        have T92B : Below w.heap.size w T92 := T91B.trans (hT92.mono T91B.size)
        replace hR := hR.to hT92
        clear hR
        go_wp2_with fail
        go_meet
        exact ⟨rfl, rfl, T92S⟩
    obtain ⟨rfl, rfl, hbc⟩ := hcut
    obtain ⟨T93, rfl⟩ : ∃ T93, T93 = wc := ⟨_, rfl⟩
    have T93B : Below w.heap.size w T93 := T89B.trans (hbc.mono T89B.size)
    replace hl1 := hl1.to hbc
    clear hbc
    go_upto_region 60 with fail
    go_cut [54, 34] from 554 to 559 (fun s54 s34 wx => s54 = vi 450 ∧ s34 = vi 0 ∧ Below T93.heap.size T93 wx)
    case first =>
      as_aux_lemma =>
        go_wp2_with fail
        refine (rack_any _).mono ?_
        rintro e T94 ⟨f1, f2, f3, f4, e1, e2, i1, rfl, hR, hT94⟩
        have T94B : Below w.heap.size w T94 := T93B.trans (hT94.mono T93B.size)
        go_wp2_with fail
        refine (thing_any _ _ _ _).mono ?_
        rintro e T95 ⟨rfl, hT95⟩
        have T95S : Below T93.heap.size T93 T95 := gr_trans hT94 hT95
        have T95B : Below w.heap.size w T95 := T94B.trans (hT95.mono T94B.size)
        replace hR := hR.to hT95
        go_wp2_with fail
        refine (Last_any (chap f1 f2 f3 f4 e1 e2 i1) ⟨0, 40, 0⟩ _ (hl.next T95B) hR).mono ?_
        rintro e T96 ⟨rfl, hT96⟩
        rw [(k60 f1 f2 f3 f4 e1 e2 i1).1, (k60 f1 f2 f3 f4 e1 e2 i1).2]
        have T96S : Below T93.heap.size T93 T96 := gr_trans T95S hT96
        have T96B : Below w.heap.size w T96 := T95B.trans (hT96.mono T95B.size)
        replace hR := hR.to hT96
        clear hR
        go_wp2_with fail
        go_meet
        exact ⟨rfl, rfl, T96S⟩
    obtain ⟨rfl, rfl, hbc⟩ := hcut
    obtain ⟨T97, rfl⟩ : ∃ T97, T97 = wc := ⟨_, rfl⟩
    have T97B : Below w.heap.size w T97 := T93B.trans (hbc.mono T93B.size)
    replace hl1 := hl1.to hbc
    clear hbc
    go_upto_region 61 with fail
    go_cut [55, 36] from 560 to 565 (fun s55 s36 wx => (∃ sA sc, s55 = .slice sA 1 sc ∧ IntsAt wx wx.heap.size sA sc [41]) ∧ s36 = vi 0 ∧ Below T97.heap.size T97 wx)
    case first =>
      as_aux_lemma =>
        go_wp2_with fail
        refine (rack_any _).mono ?_
        rintro e T98 ⟨f1, f2, f3, f4, e1, e2, i1, rfl, hR, hT98⟩
        have T98B : Below w.heap.size w T98 := T97B.trans (hT98.mono T97B.size)
        go_wp2_with fail
        refine (to_any _ _ _).mono ?_
        rintro e T99 ⟨rfl, hT99⟩
        have T99S : Below T97.heap.size T97 T99 := gr_trans hT98 hT99
        have T99B : Below w.heap.size w T99 := T98B.trans (hT99.mono T98B.size)
        replace hR := hR.to hT99
        go_wp2_with fail
        refine (fits_any (chap f1 f2 f3 f4 e1 e2 i1) 0 11 259 270 _ (hl.next T99B) hR).mono ?_
        rintro e T100 ⟨v, rfl, hm⟩
        rw [(k61 f1 f2 f3 f4 e1 e2 i1).1]
        rw [(k61 f1 f2 f3 f4 e1 e2 i1).2] at hm
        obtain ⟨⟨sA, sc, rfl, hs1⟩, hT100⟩ := hm
        have T100S : Below T97.heap.size T97 T100 := gr_trans T99S hT100
        have T100B : Below w.heap.size w T100 := T99B.trans (hT100.mono T99B.size)
        replace hR := hR.to hT100
        clear hR
        go_wp2_with fail
        go_meet
        exact ⟨⟨sA, sc, rfl, hs1⟩, rfl, T100S⟩
    obtain ⟨⟨sA, sc, rfl, hs1⟩, rfl, hbc⟩ := hcut
    obtain ⟨T101, rfl⟩ : ∃ T101, T101 = wc := ⟨_, rfl⟩
    have T101B : Below w.heap.size w T101 := T97B.trans (hbc.mono T97B.size)
    replace hl1 := hl1.to hbc
    clear hbc
    go_upto_region 62 with fail
    go_cut [56, 38] from 566 to 571 (fun s56 s38 wx => (∃ qA qc, s56 = .slice qA 0 qc) ∧ s38 = vi 0 ∧ Below T101.heap.size T101 wx)
    case first =>
      as_aux_lemma =>
        go_wp2_with fail
        refine (rack_any _).mono ?_
        rintro e T102 ⟨f1, f2, f3, f4, e1, e2, i1, rfl, hR, hT102⟩
        have T102B : Below w.heap.size w T102 := T101B.trans (hT102.mono T101B.size)
        go_wp2_with fail
        refine (to_any _ _ _).mono ?_
        rintro e T103 ⟨rfl, hT103⟩
        have T103S : Below T101.heap.size T101 T103 := gr_trans hT102 hT103
        have T103B : Below w.heap.size w T103 := T102B.trans (hT103.mono T102B.size)
        replace hR := hR.to hT103
        go_wp2_with fail
        refine (fits_any (chap f1 f2 f3 f4 e1 e2 i1) 0 11 100 200 _ (hl.next T103B) hR).mono ?_
        rintro e T104 ⟨v, rfl, hm⟩
        rw [(k62 f1 f2 f3 f4 e1 e2 i1).1]
        rw [(k62 f1 f2 f3 f4 e1 e2 i1).2] at hm
        obtain ⟨⟨qA, qc, rfl, -⟩, hT104⟩ := hm
        have T104S : Below T101.heap.size T101 T104 := gr_trans T103S hT104
        have T104B : Below w.heap.size w T104 := T103B.trans (hT104.mono T103B.size)
        replace hR := hR.to hT104
        clear hR
        go_wp2_with fail
        go_meet
        exact ⟨⟨qA, qc, rfl⟩, rfl, T104S⟩
    obtain ⟨⟨qA, qc, rfl⟩, rfl, hbc⟩ := hcut
    obtain ⟨T105, rfl⟩ : ∃ T105, T105 = wc := ⟨_, rfl⟩
    have T105B : Below w.heap.size w T105 := T101B.trans (hbc.mono T101B.size)
    replace hl1 := hl1.to hbc
    replace hs1 := hs1.to hbc
    clear hbc
    go_upto_region 63 with fail
    go_cut [57, 40] from 572 to 576 (fun s57 s40 wx => s57 = vi 0 ∧ s40 = vi 0 ∧ Below T105.heap.size T105 wx)
    case first =>
      as_aux_lemma =>
        go_wp2_with fail
        refine (rack_any _).mono ?_
        rintro e T106 ⟨f1, f2, f3, f4, e1, e2, i1, rfl, hR, hT106⟩
        have T106B : Below w.heap.size w T106 := T105B.trans (hT106.mono T105B.size)
        go_wp2_with fail
        refine (Sum_any (chap f1 f2 f3 f4 e1 e2 i1) 5 none 0 [] _ (hl.next T106B) hR ⟨Nat.le_refl _, by omega, fun hl => absurd hl (by simp)⟩).mono ?_
        rintro e T107 ⟨rfl, hT107⟩
        rw [(k63 f1 f2 f3 f4 e1 e2 i1).1, (k63 f1 f2 f3 f4 e1 e2 i1).2]
        have T107S : Below T105.heap.size T105 T107 := gr_trans hT106 hT107
        have T107B : Below w.heap.size w T107 := T106B.trans (hT107.mono T106B.size)
        replace hR := hR.to hT107
        clear hR
        go_wp2_with fail
        go_meet
        exact ⟨rfl, rfl, T107S⟩
    obtain ⟨rfl, rfl, hbc⟩ := hcut
    obtain ⟨T108, rfl⟩ : ∃ T108, T108 = wc := ⟨_, rfl⟩
    have T108B : Below w.heap.size w T108 := T105B.trans (hbc.mono T105B.size)
    replace hl1 := hl1.to hbc
    replace hs1 := hs1.to hbc
    clear hbc
    go_upto_region 64 with fail
    go_cut [58, 42] from 577 to 582 (fun s58 s42 wx => s58 = vi 40 ∧ s42 = vi 0 ∧ Below T108.heap.size T108 wx)
    case first =>
      as_aux_lemma =>
        go_wp2_with fail
        refine (rack_any _).mono ?_
        rintro e T109 ⟨f1, f2, f3, f4, e1, e2, i1, rfl, hR, hT109⟩
        have T109B : Below w.heap.size w T109 := T108B.trans (hT109.mono T108B.size)
        go_wp2_with fail
        refine (to_any _ _ _).mono ?_
        rintro e T110 ⟨rfl, hT110⟩
        have T110S : Below T108.heap.size T108 T110 := gr_trans hT109 hT110
        have T110B : Below w.heap.size w T110 := T109B.trans (hT110.mono T109B.size)
        replace hR := hR.to hT110
        go_wp2_with fail
        refine (sure_any (chap f1 f2 f3 f4 e1 e2 i1) 0 11 257 258 _ (hl.next T110B) hR).mono ?_
        rintro e T111 ⟨rfl, hT111⟩
        rw [(k64 f1 f2 f3 f4 e1 e2 i1).1, (k64 f1 f2 f3 f4 e1 e2 i1).2]
        have T111S : Below T108.heap.size T108 T111 := gr_trans T110S hT111
        have T111B : Below w.heap.size w T111 := T110B.trans (hT111.mono T110B.size)
        replace hR := hR.to hT111
        clear hR
        go_wp2_with fail
        go_meet
        exact ⟨rfl, rfl, T111S⟩
    obtain ⟨rfl, rfl, hbc⟩ := hcut
    obtain ⟨T112, rfl⟩ : ∃ T112, T112 = wc := ⟨_, rfl⟩
    have T112B : Below w.heap.size w T112 := T108B.trans (hbc.mono T108B.size)
    replace hl1 := hl1.to hbc
    replace hs1 := hs1.to hbc
    clear hbc
    go_upto_region 65 with fail
    go_cut [59, 60, 45] from 583 to 589 (fun s59 s60 s45 wx => s59 = vi 7 ∧ s60 = vi 0 ∧ s45 = vi 0 ∧ Below T112.heap.size T112 wx)
    case first =>
      as_aux_lemma =>
        go_wp2_with fail
        refine (rack_any _).mono ?_
        rintro e T113 ⟨f1, f2, f3, f4, e1, e2, i1, rfl, hR, hT113⟩
        have T113B : Below w.heap.size w T113 := T112B.trans (hT113.mono T112B.size)
        go_wp2_with fail
        refine (to_any _ _ _).mono ?_
        rintro e T114 ⟨rfl, hT114⟩
        have T114S : Below T112.heap.size T112 T114 := gr_trans hT113 hT114
        have T114B : Below w.heap.size w T114 := T113B.trans (hT114.mono T113B.size)
        replace hR := hR.to hT114
        go_wp2_with fail
        refine (Cheapest_any (chap f1 f2 f3 f4 e1 e2 i1) 7 9 none 0 [] _ (hl.next T114B) hR ⟨Nat.le_refl _, by omega, fun hl => absurd hl (by simp)⟩).mono ?_
        rintro e T115 ⟨rfl, hT115⟩
        rw [(k65 f1 f2 f3 f4 e1 e2 i1).1, (k65 f1 f2 f3 f4 e1 e2 i1).2.1, (k65 f1 f2 f3 f4 e1 e2 i1).2.2]
        have T115S : Below T112.heap.size T112 T115 := gr_trans T114S hT115
        have T115B : Below w.heap.size w T115 := T114B.trans (hT115.mono T114B.size)
        replace hR := hR.to hT115
        clear hR
        go_wp2_with fail
        go_meet
        exact ⟨rfl, rfl, rfl, T115S⟩
    obtain ⟨rfl, rfl, rfl, hbc⟩ := hcut
    obtain ⟨T116, rfl⟩ : ∃ T116, T116 = wc := ⟨_, rfl⟩
    have T116B : Below w.heap.size w T116 := T112B.trans (hbc.mono T112B.size)
    replace hl1 := hl1.to hbc
    replace hs1 := hs1.to hbc
    clear hbc
    go_upto_region 66 with fail
    refine wp_region_env ?_
    refine wpList_envN (N := 682) (m := [(26, vi 0), (50, .slice lA 1 lc), (28, vi 0), (51, vi 11), (30, vi 0), (52, .slice tA 0 tc), (32, vi 0), (53, vi 980), (34, vi 0), (54, vi 450), (36, vi 0), (55, .slice sA 1 sc), (38, vi 0), (56, .slice qA 0 qc), (40, vi 0), (57, vi 0), (42, vi 0), (58, vi 40), (45, vi 0), (59, vi 7), (60, vi 0)]) 0 4 [(592, .bool true), (593, .slice lA 1 lc), (28, vi 0), (51, vi 11), (30, vi 0), (52, .slice tA 0 tc), (32, vi 0), (53, vi 980), (34, vi 0), (54, vi 450), (36, vi 0), (55, .slice sA 1 sc), (38, vi 0), (56, .slice qA 0 qc), (40, vi 0), (57, vi 0), (42, vi 0), (58, vi 40), (45, vi 0), (59, vi 7), (60, vi 0)] ((((((((((((((((((((((Known.nil (Nat.le_of_ble_eq_true (by kernel_rfl)) rfl).cons (t := 60) (v := vi 0) (by kernel_rfl)).cons (t := 59) (v := vi 7) (by kernel_rfl)).cons (t := 45) (v := vi 0) (by kernel_rfl)).cons (t := 58) (v := vi 40) (by kernel_rfl)).cons (t := 42) (v := vi 0) (by kernel_rfl)).cons (t := 57) (v := vi 0) (by kernel_rfl)).cons (t := 40) (v := vi 0) (by kernel_rfl)).cons (t := 56) (v := .slice qA 0 qc) (by kernel_rfl)).cons (t := 38) (v := vi 0) (by kernel_rfl)).cons (t := 55) (v := .slice sA 1 sc) (by kernel_rfl)).cons (t := 36) (v := vi 0) (by kernel_rfl)).cons (t := 54) (v := vi 450) (by kernel_rfl)).cons (t := 34) (v := vi 0) (by kernel_rfl)).cons (t := 53) (v := vi 980) (by kernel_rfl)).cons (t := 32) (v := vi 0) (by kernel_rfl)).cons (t := 52) (v := .slice tA 0 tc) (by kernel_rfl)).cons (t := 30) (v := vi 0) (by kernel_rfl)).cons (t := 51) (v := vi 11) (by kernel_rfl)).cons (t := 28) (v := vi 0) (by kernel_rfl)).cons (t := 50) (v := .slice lA 1 lc) (by kernel_rfl)).cons (t := 26) (v := vi 0) (by kernel_rfl)) (by kernel_rfl) (by kernel_rfl) ?_
    intro a1 K1
    refine wpList_runE 4 594 (.agg #[vi 1, vi 0]) T116 _ K1 rfl rfl (by decide) (by kernel_rfl) (by kernel_rfl) (by kernel_rfl) (by kernel_rfl) ?_
    intro a2 K2
    refine wpList_runE 5 595 (.slice (some ⟨T116.heap.size, 0, none⟩) 1 1) (T116.alloc (.cells #[vi 1, vi 0] 52)) _ K2 rfl rfl (by decide) (by kernel_rfl) (by kernel_rfl) (by kernel_rfl) (by kernel_rfl) ?_
    intro a3 K3
    obtain ⟨Q1, hQ1⟩ : ∃ V, V = T116.alloc (.cells #[vi 1, vi 0] 52) := ⟨_, rfl⟩
    have hbQ1 : Below T116.heap.size T116 Q1 := by rw [hQ1]; exact (Below.refl _ _).alloc (Nat.le_refl _) _
    have hn1 : RowsAt Q1 Q1.heap.size 2 (some ⟨T116.heap.size, 0, none⟩) 1 ([((1 : Int), (0 : Int))].map meantC) := by rw [hQ1]; exact ⟨by decide, by decide, row_of_box (CellsBox.new T116 52 [vi 1, vi 0]) (by decide)⟩
    rw [← hQ1]
    clear hQ1
    have Q1B : Below w.heap.size w Q1 := T116B.trans (hbQ1.mono T116B.size)
    replace hl1 := hl1.to hbQ1
    replace hs1 := hs1.to hbQ1
    refine wpList_callE 6 596 33 #[.slice lA 1 lc, .slice (some ⟨T116.heap.size, 0, none⟩) 1 1] _ K3 rfl rfl (by decide) (by kernel_rfl) (by kernel_rfl) (by kernel_rfl) (by kernel_rfl) ?_
    refine (sameMeant_any lA (some ⟨T116.heap.size, 0, none⟩) lc 1 [((1 : Int), (0 : Int))] [((1 : Int), (0 : Int))] _ hl1 hn1).mono ?_
    rintro e T117 ⟨rfl, hT117⟩
    rw [show decide ([((1 : Int), (0 : Int))] = [((1 : Int), (0 : Int))]) = true by decide]
    clear hn1 hl1
    have T117B : Below w.heap.size w T117 := Q1B.trans (hT117.mono Q1B.size)
    replace hs1 := hs1.to hT117
    refine ⟨_, rfl, ?_⟩
    intro a4 K4
    refine wpList_envN 7 40 [(635, .bool true), (636, .slice sA 1 sc), (38, vi 0), (56, .slice qA 0 qc), (40, vi 0), (57, vi 0), (42, vi 0), (58, vi 40), (45, vi 0), (59, vi 7), (60, vi 0)] K4 (by kernel_rfl) (by kernel_rfl) ?_
    intro a5 K5
    refine wpList_runE 47 637 (.slice (some ⟨T117.heap.size, 0, none⟩) 1 1) (T117.alloc (.cells #[vi 41] 3)) _ K5 rfl rfl (by decide) (by kernel_rfl) (by kernel_rfl) (by kernel_rfl) (by kernel_rfl) ?_
    intro a6 K6
    obtain ⟨Q2, hQ2⟩ : ∃ V, V = T117.alloc (.cells #[vi 41] 3) := ⟨_, rfl⟩
    have hbQ2 : Below T117.heap.size T117 Q2 := by rw [hQ2]; exact (Below.refl _ _).alloc (Nat.le_refl _) _
    have hn1 : IntsAt Q2 Q2.heap.size (some ⟨T117.heap.size, 0, none⟩) 1 [(41 : Int)] := by rw [hQ2]; exact ⟨by decide, by decide, row_of_box (m := [(41 : Int)].map fun n => [vi n]) (CellsBox.new T117 3 [vi 41]) (by decide)⟩
    rw [← hQ2]
    clear hQ2
    have Q2B : Below w.heap.size w Q2 := T117B.trans (hbQ2.mono T117B.size)
    replace hs1 := hs1.to hbQ2
    refine wpList_callE 48 638 16 #[.slice sA 1 sc, .slice (some ⟨T117.heap.size, 0, none⟩) 1 1] _ K6 rfl rfl (by decide) (by kernel_rfl) (by kernel_rfl) (by kernel_rfl) (by kernel_rfl) ?_
    refine (match_any sA (some ⟨T117.heap.size, 0, none⟩) sc 1 [(41 : Int)] [(41 : Int)] _ hs1 hn1).mono ?_
    rintro e T118 ⟨rfl, hT118⟩
    rw [show decide ([(41 : Int)] = [(41 : Int)]) = true by decide]
    clear hn1 hs1
    have T118B : Below w.heap.size w T118 := Q2B.trans (hT118.mono Q2B.size)
    refine ⟨_, rfl, ?_⟩
    intro a7 K7
    refine wpList_envN 49 41 [(679, .bool true)] K7 (by kernel_rfl) (by kernel_rfl) ?_
    intro a8 K8
    refine wpList_callE 90 680 19 #[] _ K8 rfl rfl (by decide) (by kernel_rfl) (by kernel_rfl) (by kernel_rfl) (by kernel_rfl) ?_
    refine (works_any _ (hl.next T118B)).mono ?_
    rintro e T119 ⟨rfl, hT119⟩
    have T119B : Below w.heap.size w T119 := T118B.trans (hT119.mono T118B.size)
    refine ⟨_, rfl, ?_⟩
    intro a9 K9
    refine wpList_envN 91 2 [(0, .bool true)] K9 (by kernel_rfl) (by kernel_rfl) ?_
    intro b K
    refine (show wpList _ _ _ [] _ _ from wpList_nil ?_)
    have go := ‹∀ (a : Act) (w : World), Code.wp Tryd.prog Code.ret _ a w → _›
    refine go _ _ (wp_ret ?_)
    have hb0 := K.2 0 (.bool true) rfl
    refine bodyPost_ret (v := .bool true) ?_ K.1.2 ⟨rfl, T119B⟩
    simp [results, Tryd.results13, Array.getD_eq_getD_getElem?, hb0, go_sem]
end Go.Proofs.YtpcajmkmmkmekaaDoor
