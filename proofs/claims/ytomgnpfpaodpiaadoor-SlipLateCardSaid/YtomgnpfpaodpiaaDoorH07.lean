/- Arrays of twelve numbers in memory; contract of pieces.without. -/
import Derived.Test.YtomgnpfpaodpiaaDoorH06
set_option linter.unusedVariables false
set_option linter.unusedSimpArgs false
namespace Go.Proofs.YtomgnpfpaodpiaaDoor
open Go Go.RowKit
set_option maxHeartbeats 2000000
/-- an array of twelve numbers lies in a block, and can be written -/
structure ArrAt (w : World) (b : Nat) (p : List Int) : Prop where
  len : p.length = 12
  cell : ∀ j : Nat, j < 12 → w.cell? ⟨b, j, none⟩ = some (vi (p[j]?.getD 0))
  soft : ∀ j : Nat, j < 12 → w.frozen? ⟨b, j, none⟩ = false
theorem ArrAt.lt {w : World} {b : Nat} {p : List Int} (h : ArrAt w b p) : b < w.heap.size := cell_lt (h.cell 0 (by omega))
theorem ArrAt.keep {w w' : World} {b : Nat} {p : List Int} (h : ArrAt w b p) (hb : Below w.heap.size w w') : ArrAt w' b p :=
  ⟨h.len, fun j hj => cell_keep hb (h.cell j hj), fun j hj => soft_keep hb h.lt (h.soft j hj)⟩
theorem ArrAt.set {w : World} {b : Nat} {p : List Int} (h : ArrAt w b p) (k : Nat) (hk : k < 12) (n : Int) : ArrAt (w.setCell ⟨b, k, none⟩ (vi n)) b (p.set k n) := by
  refine ⟨by rw [List.length_set]; exact h.len, fun j hj => ?_, fun j hj => ?_⟩
  · have hl := h.len
    by_cases e : k = j
    · subst e
      have hc := h.cell k hk
      have hs := h.soft k hk
      simp [go_sem, hc, hs, hl, hk]
    · have hc := h.cell j hj
      simp [go_sem, hc, e, Ne.symm e]
  · have := h.soft j hj
    simp [go_sem, this]
theorem ArrAt.apart {w : World} {b b' k : Nat} {p : List Int} (h : ArrAt w b p) (hb : b' ≠ b) (v : Value) : ArrAt (w.setCell ⟨b', k, none⟩ v) b p := by
  refine ⟨h.len, fun j hj => ?_, fun j hj => ?_⟩
  · have hc := h.cell j hj
    simp [go_sem, hc, hb, Ne.symm hb]
  · have := h.soft j hj
    simp [go_sem, this]
theorem ArrAt.setAll {w : World} {b : Nat} {z : List Int} (h : ArrAt w b z) (r0 r1 r2 r3 r4 r5 r6 r7 r8 r9 r10 r11 : Int) : ArrAt ((((((((((((w.setCell ⟨b, 0, none⟩ (vi r0)).setCell ⟨b, 1, none⟩ (vi r1)).setCell ⟨b, 2, none⟩ (vi r2)).setCell ⟨b, 3, none⟩ (vi r3)).setCell ⟨b, 4, none⟩ (vi r4)).setCell ⟨b, 5, none⟩ (vi r5)).setCell ⟨b, 6, none⟩ (vi r6)).setCell ⟨b, 7, none⟩ (vi r7)).setCell ⟨b, 8, none⟩ (vi r8)).setCell ⟨b, 9, none⟩ (vi r9)).setCell ⟨b, 10, none⟩ (vi r10)).setCell ⟨b, 11, none⟩ (vi r11)) b [r0, r1, r2, r3, r4, r5, r6, r7, r8, r9, r10, r11] := by
  obtain ⟨z0, z1, z2, z3, z4, z5, z6, z7, z8, z9, z10, z11, rfl⟩ := spread h.len
  exact ((((((((((((h.set 0 (by omega) r0).set 1 (by omega) r1).set 2 (by omega) r2).set 3 (by omega) r3).set 4 (by omega) r4).set 5 (by omega) r5).set 6 (by omega) r6).set 7 (by omega) r7).set 8 (by omega) r8).set 9 (by omega) r9).set 10 (by omega) r10).set 11 (by omega) r11)
theorem ArrAt.setBoth {w a : World} {b B : Nat} {z : List Int} (h : ArrAt w b z) (hB : Below B a w) (hb : B ≤ b) (r0 r1 r2 r3 r4 r5 r6 r7 r8 r9 r10 r11 : Int) : ArrAt ((((((((((((w.setCell ⟨b, 0, none⟩ (vi r0)).setCell ⟨b, 1, none⟩ (vi r1)).setCell ⟨b, 2, none⟩ (vi r2)).setCell ⟨b, 3, none⟩ (vi r3)).setCell ⟨b, 4, none⟩ (vi r4)).setCell ⟨b, 5, none⟩ (vi r5)).setCell ⟨b, 6, none⟩ (vi r6)).setCell ⟨b, 7, none⟩ (vi r7)).setCell ⟨b, 8, none⟩ (vi r8)).setCell ⟨b, 9, none⟩ (vi r9)).setCell ⟨b, 10, none⟩ (vi r10)).setCell ⟨b, 11, none⟩ (vi r11)) b [r0, r1, r2, r3, r4, r5, r6, r7, r8, r9, r10, r11] ∧ Below B a ((((((((((((w.setCell ⟨b, 0, none⟩ (vi r0)).setCell ⟨b, 1, none⟩ (vi r1)).setCell ⟨b, 2, none⟩ (vi r2)).setCell ⟨b, 3, none⟩ (vi r3)).setCell ⟨b, 4, none⟩ (vi r4)).setCell ⟨b, 5, none⟩ (vi r5)).setCell ⟨b, 6, none⟩ (vi r6)).setCell ⟨b, 7, none⟩ (vi r7)).setCell ⟨b, 8, none⟩ (vi r8)).setCell ⟨b, 9, none⟩ (vi r9)).setCell ⟨b, 10, none⟩ (vi r10)).setCell ⟨b, 11, none⟩ (vi r11)) := ⟨h.setAll r0 r1 r2 r3 r4 r5 r6 r7 r8 r9 r10 r11, ((((((((((((hB.setCell hb _).setCell hb _).setCell hb _).setCell hb _).setCell hb _).setCell hb _).setCell hb _).setCell hb _).setCell hb _).setCell hb _).setCell hb _).setCell hb _)⟩
theorem ArrAt.cells {w : World} {b : Nat} {r0 r1 r2 r3 r4 r5 r6 r7 r8 r9 r10 r11 : Int} (h : ArrAt w b [r0, r1, r2, r3, r4, r5, r6, r7, r8, r9, r10, r11]) : w.cell? ⟨b, 0, none⟩ = some (vi r0) ∧ w.cell? ⟨b, 1, none⟩ = some (vi r1) ∧ w.cell? ⟨b, 2, none⟩ = some (vi r2) ∧ w.cell? ⟨b, 3, none⟩ = some (vi r3) ∧ w.cell? ⟨b, 4, none⟩ = some (vi r4) ∧ w.cell? ⟨b, 5, none⟩ = some (vi r5) ∧ w.cell? ⟨b, 6, none⟩ = some (vi r6) ∧ w.cell? ⟨b, 7, none⟩ = some (vi r7) ∧ w.cell? ⟨b, 8, none⟩ = some (vi r8) ∧ w.cell? ⟨b, 9, none⟩ = some (vi r9) ∧ w.cell? ⟨b, 10, none⟩ = some (vi r10) ∧ w.cell? ⟨b, 11, none⟩ = some (vi r11) := ⟨h.cell 0 (by omega), h.cell 1 (by omega), h.cell 2 (by omega), h.cell 3 (by omega), h.cell 4 (by omega), h.cell 5 (by omega), h.cell 6 (by omega), h.cell 7 (by omega), h.cell 8 (by omega), h.cell 9 (by omega), h.cell 10 (by omega), h.cell 11 (by omega)⟩
theorem ArrAt.softs {w : World} {b : Nat} {z : List Int} (h : ArrAt w b z) : w.frozen? ⟨b, 0, none⟩ = false ∧ w.frozen? ⟨b, 1, none⟩ = false ∧ w.frozen? ⟨b, 2, none⟩ = false ∧ w.frozen? ⟨b, 3, none⟩ = false ∧ w.frozen? ⟨b, 4, none⟩ = false ∧ w.frozen? ⟨b, 5, none⟩ = false ∧ w.frozen? ⟨b, 6, none⟩ = false ∧ w.frozen? ⟨b, 7, none⟩ = false ∧ w.frozen? ⟨b, 8, none⟩ = false ∧ w.frozen? ⟨b, 9, none⟩ = false ∧ w.frozen? ⟨b, 10, none⟩ = false ∧ w.frozen? ⟨b, 11, none⟩ = false := ⟨h.soft 0 (by omega), h.soft 1 (by omega), h.soft 2 (by omega), h.soft 3 (by omega), h.soft 4 (by omega), h.soft 5 (by omega), h.soft 6 (by omega), h.soft 7 (by omega), h.soft 8 (by omega), h.soft 9 (by omega), h.soft 10 (by omega), h.soft 11 (by omega)⟩
theorem arr_new {w : World} {b : Nat} {r0 r1 r2 r3 r4 r5 r6 r7 r8 r9 r10 r11 : Int} (h : w.cell? ⟨b, 0, none⟩ = some (vi r0) ∧ w.cell? ⟨b, 1, none⟩ = some (vi r1) ∧ w.cell? ⟨b, 2, none⟩ = some (vi r2) ∧ w.cell? ⟨b, 3, none⟩ = some (vi r3) ∧ w.cell? ⟨b, 4, none⟩ = some (vi r4) ∧ w.cell? ⟨b, 5, none⟩ = some (vi r5) ∧ w.cell? ⟨b, 6, none⟩ = some (vi r6) ∧ w.cell? ⟨b, 7, none⟩ = some (vi r7) ∧ w.cell? ⟨b, 8, none⟩ = some (vi r8) ∧ w.cell? ⟨b, 9, none⟩ = some (vi r9) ∧ w.cell? ⟨b, 10, none⟩ = some (vi r10) ∧ w.cell? ⟨b, 11, none⟩ = some (vi r11)) (s : w.frozen? ⟨b, 0, none⟩ = false ∧ w.frozen? ⟨b, 1, none⟩ = false ∧ w.frozen? ⟨b, 2, none⟩ = false ∧ w.frozen? ⟨b, 3, none⟩ = false ∧ w.frozen? ⟨b, 4, none⟩ = false ∧ w.frozen? ⟨b, 5, none⟩ = false ∧ w.frozen? ⟨b, 6, none⟩ = false ∧ w.frozen? ⟨b, 7, none⟩ = false ∧ w.frozen? ⟨b, 8, none⟩ = false ∧ w.frozen? ⟨b, 9, none⟩ = false ∧ w.frozen? ⟨b, 10, none⟩ = false ∧ w.frozen? ⟨b, 11, none⟩ = false) : ArrAt w b [r0, r1, r2, r3, r4, r5, r6, r7, r8, r9, r10, r11] := by
  refine ⟨rfl, fun j hj => ?_, fun j hj => ?_⟩
  all_goals
    have hk : j = 0 ∨ j = 1 ∨ j = 2 ∨ j = 3 ∨ j = 4 ∨ j = 5 ∨ j = 6 ∨ j = 7 ∨ j = 8 ∨ j = 9 ∨ j = 10 ∨ j = 11 := by omega
    rcases hk with rfl | rfl | rfl | rfl | rfl | rfl | rfl | rfl | rfl | rfl | rfl | rfl <;> simp [h, s]
end Go.Proofs.YtomgnpfpaodpiaaDoor

/- Contract of pieces.without. -/
namespace Go.Proofs.YtomgnpfpaodpiaaDoor
open Go Go.RowKit
set_option maxHeartbeats 2000000
def withoutK (p q : List Int) : Nat → List Int
  | 0 => p
  | k + 1 => (withoutK p q k).set k (p[k]?.getD 0 - q[k]?.getD 0)
theorem withoutK_len (p q : List Int) : ∀ k, (withoutK p q k).length = p.length
  | 0 => rfl
  | k + 1 => by rw [withoutK, List.length_set, withoutK_len p q k]
theorem withoutK_at (p q : List Int) : ∀ (k j : Nat), k ≤ j → (withoutK p q k)[j]? = p[j]?
  | 0, _, _ => rfl
  | k + 1, j, h => by rw [withoutK, List.getElem?_set_ne (by omega), withoutK_at p q k j (by omega)]
theorem withoutK_all {p q : List Int} (hp : p.length = 12) (hq : q.length = 12) : withoutK p q 12 = withoutF p q := by
  obtain ⟨n0, n1, n2, n3, n4, n5, n6, n7, n8, n9, n10, n11, rfl⟩ := spread hp
  obtain ⟨m0, m1, m2, m3, m4, m5, m6, m7, m8, m9, m10, m11, rfl⟩ := spread hq
  simp [withoutK, withoutF]
theorem without_any (p q : List Int) (hp : p.length = 12) (hq : q.length = 12) (hpb : ∀ n ∈ p, -1152921504606846976 ≤ n ∧ n ≤ 1152921504606846976) (hqb : ∀ n ∈ q, -1000000 ≤ n ∧ n ≤ 1000000) (w : World) :
    Calls Tryd.prog 88 #[piecesV p, piecesV q] w fun e w' => e = .returned (piecesV (withoutF p q)) ∧ Below w.heap.size w w' := by
  have HX : Hid (∀ k : Nat, k < 12 → ∃ m n : Int, (-1152921504606846976 ≤ m ∧ m ≤ 1152921504606846976) ∧ (-1000000 ≤ n ∧ n ≤ 1000000) ∧ withoutK p q (k + 1) = (withoutK p q k).set k (m - n) ∧ (withoutK p q k)[k]?.getD 0 = m ∧ ∀ w, (Instr.index 102 (.agg (q.map vi).toArray) (.int .i64 k)).run Tryd.prog w = .ok (vi n) w) := fun k hk => by
    have h1 : p[k]? = some p[k] := List.getElem?_eq_getElem (by omega)
    have h2 : q[k]? = some q[k] := List.getElem?_eq_getElem (by omega)
    refine ⟨p[k], q[k], hpb _ (List.getElem_mem _), hqb _ (List.getElem_mem _), by rw [withoutK, h1, h2]; rfl, by rw [withoutK_at p q k k (Nat.le_refl _), h1]; rfl, fun w => ?_⟩
    have := idx12 hq k hk w
    rwa [h2] at this
  have HA := Lib.hid (withoutK_all hp hq)
  have HP0 : Hid (withoutK p q 0 = p) := rfl
  obtain ⟨R, hR⟩ : ∃ R, R = withoutF p q := ⟨_, rfl⟩
  obtain ⟨S, hS⟩ : ∃ S, S = withoutK p q := ⟨_, rfl⟩
  obtain ⟨V, hV⟩ : ∃ V, V = (q.map vi).toArray := ⟨_, rfl⟩
  have HV := Lib.hid hV
  have HPL := Lib.hid hp
  rw [← hR] at HA ⊢
  rw [← hS] at HX HA HP0
  rw [← hV] at HX
  clear hR hS hV hpb hqb
  obtain ⟨m0, m1, m2, m3, m4, m5, m6, m7, m8, m9, m10, m11, rfl⟩ := spread hq
  obtain ⟨n0, n1, n2, n3, n4, n5, n6, n7, n8, n9, n10, n11, hpp⟩ := spread hp
  rw [hpp] at HPL HP0 ⊢
  clear hp hq hpp
  show Calls Tryd.prog 88 #[.agg #[vi n0, vi n1, vi n2, vi n3, vi n4, vi n5, vi n6, vi n7, vi n8, vi n9, vi n10, vi n11], .agg #[vi m0, vi m1, vi m2, vi m3, vi m4, vi m5, vi m6, vi m7, vi m8, vi m9, vi m10, vi m11]] w _
  go_enter Tryd.func88, Tryd.ntmps88
  go_wp2_with fail
  have hfold : #[vi m0, vi m1, vi m2, vi m3, vi m4, vi m5, vi m6, vi m7, vi m8, vi m9, vi m10, vi m11] = V := by rw [HV.out]; rfl
  rw [hfold]
  clear hfold HV
  go_loopw [5, 6, 8] (fun x y i wr => ∃ k : Nat, k ≤ 12 ∧ i = .int .i64 k ∧ Below w.heap.size w wr ∧ ArrAt wr w.heap.size (S k) ∧ ArrAt wr (w.heap.size + 2) [0, 0, 0, 0, 0, 0, 0, 0, 0, 0, 0, 0]) (fun _ _ i _ => 12 - (intOf i).toNat)
  case atStart =>
    refine ⟨0, Nat.zero_le _, rfl, by (repeat (first | exact Below.refl _ _ | refine Below.setCell ?_ (by first | omega | (simp; omega) | (simp; done)) _ | refine Below.alloc ?_ (by first | omega | (simp; omega) | (simp; done)) _ | refine Below.drew ?_ | refine below_drewN ?_ _ | refine Below.trans ?_ (Below.mono (by assumption) (by first | omega | (simp; omega) | (simp; done))))), ?_, ?_⟩
    · rw [HP0.out]
      refine ⟨rfl, fun j hj => ?_, fun j hj => ?_⟩
      all_goals
        have hk : j = 0 ∨ j = 1 ∨ j = 2 ∨ j = 3 ∨ j = 4 ∨ j = 5 ∨ j = 6 ∨ j = 7 ∨ j = 8 ∨ j = 9 ∨ j = 10 ∨ j = 11 := by omega
        rcases hk with rfl | rfl | rfl | rfl | rfl | rfl | rfl | rfl | rfl | rfl | rfl | rfl <;> simp [go_sem]
    · refine ⟨rfl, fun j hj => ?_, fun j hj => ?_⟩
      all_goals
        have hk : j = 0 ∨ j = 1 ∨ j = 2 ∨ j = 3 ∨ j = 4 ∨ j = 5 ∨ j = 6 ∨ j = 7 ∨ j = 8 ∨ j = 9 ∨ j = 10 ∨ j = 11 := by omega
        rcases hk with rfl | rfl | rfl | rfl | rfl | rfl | rfl | rfl | rfl | rfl | rfl | rfl <;> simp [go_sem]
  obtain ⟨k, hk, rfl, hB, hX, hY⟩ := hrel
  by_cases hlt : k < 12
  · obtain ⟨m, n, ⟨m1, m2⟩, ⟨n1, n2⟩, S1, S2, hx⟩ := HX.out k hlt
    have hkI : (k : Int) < 12 := by omega
    have h0k : (0 : Int) ≤ k := by omega
    have c0 := hX.cell k hlt
    rw [S2] at c0
    have f0 := hX.soft k hlt
    have S1 := Lib.hid S1
    have HXX := Lib.hid hX
    have HYY := Lib.hid hY
    have hz := hX.lt
    clear hX hY S2
    go_wp2_with fail
    go_roundw
    case rel =>
      refine ⟨k + 1, by omega, by go_num, by (repeat (first | exact Below.refl _ _ | refine Below.setCell ?_ (by first | omega | (simp; omega) | (simp; done)) _ | refine Below.alloc ?_ (by first | omega | (simp; omega) | (simp; done)) _ | refine Below.drew ?_ | refine below_drewN ?_ _ | refine Below.trans ?_ (Below.mono (by assumption) (by first | omega | (simp; omega) | (simp; done))))), ?_, HYY.out.apart (by omega) _⟩
      rw [S1.out]
      exact HXX.out.set k hlt _
    case measure => simp [intOf]; omega
  · obtain rfl : k = 12 := by omega
    rw [HA.out] at hX
    clear HX HA HP0 HPL
    obtain ⟨r0, r1, r2, r3, r4, r5, r6, r7, r8, r9, r10, r11, rfl⟩ := spread hX.len
    obtain ⟨c0, c1, c2, c3, c4, c5, c6, c7, c8, c9, c10, c11⟩ := hX.cells
    obtain ⟨d0, d1, d2, d3, d4, d5, d6, d7, d8, d9, d10, d11⟩ := hY.cells
    obtain ⟨e0, e1, e2, e3, e4, e5, e6, e7, e8, e9, e10, e11⟩ := hY.softs
    have HYY : Hid (ArrAt wr (w.heap.size + 1 + 1) [0, 0, 0, 0, 0, 0, 0, 0, 0, 0, 0, 0]) := hY
    clear hX hY
    go_wp2_with fail
    clear c0 c1 c2 c3 c4 c5 c6 c7 c8 c9 c10 c11 d0 d1 d2 d3 d4 d5 d6 d7 d8 d9 d10 d11 e0 e1 e2 e3 e4 e5 e6 e7 e8 e9 e10 e11
    refine (?key : ∀ W9 : World, ArrAt W9 (w.heap.size + 1 + 1) [r0, r1, r2, r3, r4, r5, r6, r7, r8, r9, r10, r11] ∧ Below w.heap.size w W9 → bodyPost _ _ _ _ _ W9) _ (HYY.out.setBoth hB (by omega) r0 r1 r2 r3 r4 r5 r6 r7 r8 r9 r10 r11)
    case key =>
      intro W9 ⟨Z, B9⟩
      obtain ⟨c0, c1, c2, c3, c4, c5, c6, c7, c8, c9, c10, c11⟩ := Z.cells
      refine bodyPost_ret (v := .agg #[vi r0, vi r1, vi r2, vi r3, vi r4, vi r5, vi r6, vi r7, vi r8, vi r9, vi r10, vi r11]) (by simp [results, Tryd.results88, go_sem, c0, c1, c2, c3, c4, c5, c6, c7, c8, c9, c10, c11]) rfl ⟨rfl, B9⟩
end Go.Proofs.YtomgnpfpaodpiaaDoor

/- Contract of piecesOf. -/
namespace Go.Proofs.YtomgnpfpaodpiaaDoor
open Go Go.RowKit
set_option maxHeartbeats 2000000
theorem ArrAt.drew {w : World} {b : Nat} {p : List Int} (h : ArrAt w b p) : ArrAt w.drew b p := ⟨h.len, fun j hj => by simpa [go_sem] using h.cell j hj, fun j hj => by simpa [go_sem] using h.soft j hj⟩
theorem ArrAt.alloc {w : World} {b : Nat} {p : List Int} (h : ArrAt w b p) (o : Obj) : ArrAt (w.alloc o) b p := h.keep ((Below.refl _ w).alloc (Nat.le_refl _) o)
/-- lines whose pieces can be counted -/
structure LinesOk (l : List SLine) : Prop where
  few : l.length ≤ 1000
  each : ∀ x ∈ l, 0 ≤ x.shelf ∧ x.shelf < 12 ∧ 0 ≤ x.many ∧ x.many ≤ 1000
def piecesK (l : List SLine) (k : Nat) : List Int := piecesF (l.take k)
theorem piecesK_succ {l : List SLine} {k : Nat} {x : SLine} (h : l[k]? = some x) : piecesK l (k + 1) = (piecesK l k).set x.shelf.toNat ((piecesK l k)[x.shelf.toNat]?.getD 0 + x.many) := by
  obtain ⟨hk, rfl⟩ := List.getElem?_eq_some_iff.1 h
  unfold piecesK piecesF
  rw [List.take_succ_eq_append_getElem hk, List.foldl_append]
  rfl
theorem piecesK_all (l : List SLine) : piecesK l l.length = piecesF l := by unfold piecesK; rw [List.take_length]
theorem piecesK_ok {l : List SLine} (h : LinesOk l) : ∀ k : Nat, k ≤ l.length → Twelve (1000 * (k : Int)) (piecesK l k)
  | 0, _ => by simpa [piecesK, piecesF] using twelve_zero
  | k + 1, hk => by
    have ih := piecesK_ok h k (by omega)
    have hx : l[k]? = some l[k] := List.getElem?_eq_getElem (by omega)
    obtain ⟨h1, h2, h3, h4⟩ := h.each _ (List.getElem_mem (by omega : k < l.length))
    obtain ⟨n, e, g1, g2⟩ := ih.at_ (k := l[k].shelf.toNat) (by omega)
    rw [piecesK_succ hx, e]
    refine (ih.wide (by omega)).set ?_ ?_ _
    · simp only [Option.getD_some]; omega
    · simp only [Option.getD_some]; omega
theorem piecesOf_any (A : Option Addr) (cap : Nat) (l : List SLine) (hok : LinesOk l) (w : World) (h : SLinesAt w w.heap.size A l.length l) :
    Calls Tryd.prog 86 #[.slice A l.length cap] w fun e w' => e = .returned (piecesV (piecesF l)) ∧ Below w.heap.size w w' := by
  have hll := h.lens
  have HH := Lib.hid h
  have HA := Lib.hid (piecesK_all l)
  have HP0 : Hid (piecesK l 0 = [0, 0, 0, 0, 0, 0, 0, 0, 0, 0, 0, 0]) := rfl
  have HX : Hid (∀ (k : Nat) (x : SLine), l[k]? = some x → ∃ (s : Nat) (n : Int), x.shelf = s ∧ s < 12 ∧ (piecesK l k)[s]?.getD 0 = n ∧ (0 ≤ n ∧ n ≤ 1000000) ∧ (0 ≤ x.many ∧ x.many ≤ 1000) ∧ piecesK l (k + 1) = (piecesK l k).set s (n + x.many)) := fun k x hx => by
    have hk := (List.getElem?_eq_some_iff.1 hx).1
    obtain ⟨h1, h2, h3, h4⟩ := hok.each x (List.mem_of_getElem? hx)
    have hf := hok.few
    have ih := piecesK_ok hok k (by omega)
    obtain ⟨n, e, g1, g2⟩ := ih.at_ (k := x.shelf.toNat) (by omega)
    have S := piecesK_succ hx
    rw [e] at S
    exact ⟨x.shelf.toNat, n, by omega, by omega, by rw [e]; rfl, ⟨g1, by omega⟩, ⟨h3, h4⟩, S⟩
  obtain ⟨R, hR⟩ : ∃ R, R = piecesF l := ⟨_, rfl⟩
  obtain ⟨S, hS⟩ : ∃ S, S = piecesK l := ⟨_, rfl⟩
  rw [← hR] at HA ⊢
  rw [← hS] at HX HA HP0
  clear hR hS h hok
  go_enter Tryd.func86, Tryd.ntmps86
  go_wp2_with fail
  go_loopw [5, 8] (fun x i wr => ∃ k : Nat, k ≤ l.length ∧ i = .int .i64 k ∧ Below w.heap.size w wr ∧ ArrAt wr (w.heap.size + 1) (S k) ∧ ArrAt wr w.heap.size [0, 0, 0, 0, 0, 0, 0, 0, 0, 0, 0, 0]) (fun _ i _ => l.length - (intOf i).toNat)
  case atStart =>
    refine ⟨0, Nat.zero_le _, rfl, by (repeat (first | exact Below.refl _ _ | refine Below.setCell ?_ (by first | omega | (simp; omega) | (simp; done)) _ | refine Below.alloc ?_ (by first | omega | (simp; omega) | (simp; done)) _ | refine Below.drew ?_ | refine below_drewN ?_ _ | refine Below.trans ?_ (Below.mono (by assumption) (by first | omega | (simp; omega) | (simp; done))))), ?_, ?_⟩
    · rw [HP0.out]
      exact arr_new (by simp [go_sem]) (by simp [go_sem])
    · exact arr_new (by simp [go_sem]) (by simp [go_sem])
  obtain ⟨k, hk, rfl, hB, hX, hY⟩ := hrel
  by_cases hlt : k < l.length
  · obtain ⟨x, hx⟩ : ∃ x, l[k]? = some x := ⟨_, List.getElem?_eq_getElem hlt⟩
    obtain ⟨s, n, hs, s12, hn, ⟨n1, n2⟩, ⟨m1, m2⟩, S1⟩ := HX.out k x hx
    obtain ⟨bb, off, rfl, hbb, x0, x1⟩ := row2 (HH.out.to hB).row hx rfl
    obtain ⟨xs, xm⟩ := x
    simp only at hs m1 m2 S1 x0 x1
    subst hs
    have hkI : (k : Int) < l.length := by omega
    have h0k : (0 : Int) ≤ k := by omega
    have hsI : (s : Int) < 12 := by omega
    have h0s : (0 : Int) ≤ s := by omega
    have c0 := hX.cell s s12
    rw [hn] at c0
    have f0 := hX.soft s s12
    have S1 := Lib.hid S1
    have HXX := Lib.hid hX
    have HYY := Lib.hid hY
    have hz := hX.lt
    have zbb : bb < wr.heap.size := cell_lt x0
    clear hX hY hn hx
    go_wp2_with fail
    have d1 : ¬ (wr.heap.size = w.heap.size + 1) := by omega
    have d2 : ¬ (w.heap.size + 1 = wr.heap.size) := by omega
    go_region_with fail
    all_goals go_wp2_with fail
    all_goals go_roundw
    all_goals first
      | (simp [intOf]; omega)
      | (refine ⟨k + 1, by omega, by go_num, by (repeat (first | exact Below.refl _ _ | refine Below.setCell ?_ (by first | omega | (simp; omega) | (simp; done)) _ | refine Below.alloc ?_ (by first | omega | (simp; omega) | (simp; done)) _ | refine Below.drew ?_ | refine below_drewN ?_ _ | refine Below.trans ?_ (Below.mono (by assumption) (by first | omega | (simp; omega) | (simp; done))))), ?_, ?_⟩
         · rw [S1.out]
           repeat (first | exact HXX.out.set s s12 _ | refine ArrAt.drew ?_ | refine ArrAt.alloc ?_ _)
         · repeat (first | exact HYY.out.apart (by omega) _ | refine ArrAt.drew ?_ | refine ArrAt.alloc ?_ _))
  · obtain rfl : k = l.length := by omega
    rw [HA.out] at hX
    clear HX HA HP0
    obtain ⟨r0, r1, r2, r3, r4, r5, r6, r7, r8, r9, r10, r11, rfl⟩ := spread hX.len
    obtain ⟨c0, c1, c2, c3, c4, c5, c6, c7, c8, c9, c10, c11⟩ := hX.cells
    obtain ⟨d0, d1, d2, d3, d4, d5, d6, d7, d8, d9, d10, d11⟩ := hY.cells
    obtain ⟨e0, e1, e2, e3, e4, e5, e6, e7, e8, e9, e10, e11⟩ := hY.softs
    have HYY := Lib.hid hY
    clear hX hY
    go_wp2_with fail
    clear c0 c1 c2 c3 c4 c5 c6 c7 c8 c9 c10 c11 d0 d1 d2 d3 d4 d5 d6 d7 d8 d9 d10 d11 e0 e1 e2 e3 e4 e5 e6 e7 e8 e9 e10 e11
    refine (?key : ∀ W9 : World, ArrAt W9 w.heap.size [r0, r1, r2, r3, r4, r5, r6, r7, r8, r9, r10, r11] ∧ Below w.heap.size w W9 → bodyPost _ _ _ _ _ W9) _ (HYY.out.setBoth hB (by omega) r0 r1 r2 r3 r4 r5 r6 r7 r8 r9 r10 r11)
    case key =>
      intro W9 ⟨Z, B9⟩
      obtain ⟨c0, c1, c2, c3, c4, c5, c6, c7, c8, c9, c10, c11⟩ := Z.cells
      refine bodyPost_ret (v := .agg #[vi r0, vi r1, vi r2, vi r3, vi r4, vi r5, vi r6, vi r7, vi r8, vi r9, vi r10, vi r11]) (by simp [results, Tryd.results86, go_sem, c0, c1, c2, c3, c4, c5, c6, c7, c8, c9, c10, c11]) rfl ⟨rfl, B9⟩
end Go.Proofs.YtomgnpfpaodpiaaDoor

