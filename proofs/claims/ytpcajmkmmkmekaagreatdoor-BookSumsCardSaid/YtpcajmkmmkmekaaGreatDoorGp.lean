/- Contract of the chapter's rack. -/
import Derived.Test.YtpcajmkmmkmekaaGreatDoorGo
import Derived.Laws.Rows
import Derived.Test.YtpcajmkmmkmekaaGreatDoorGn
import Derived.Test.YtpcajmkmmkmekaaGreatDoorGl
set_option linter.unusedVariables false
set_option linter.unusedSimpArgs false
namespace Go.Proofs.YtpcajmkmmkmekaaGreatDoor
open Go Go.RowKit
set_option maxHeartbeats 4000000
def chap (f1 f2 f3 f4 e1 e2 i1 : Option Addr) : Rack := ⟨3, i1, 2, [⟨100, 280, 300, e1, 2, [⟨11, 0, 3, f1, 2, [⟨40, 250, 258, 900⟩, ⟨41, 256, 264, 950⟩]⟩, ⟨12, 1, 1, f2, 1, [⟨7, 1, 400, 300⟩]⟩]⟩,
  ⟨260, 450, 450, e2, 2, [⟨12, 0, 1, f3, 2, [⟨40, 250, 258, 980⟩, ⟨42, 262, 270, 990⟩]⟩, ⟨13, 2, 4, f4, 1, [⟨1, 1, 400, 50⟩]⟩]⟩]⟩
theorem CellsBox.below {W W' : World} {b B : Nat} {t : TypeId} {cs : List Value} (h : CellsBox W b t cs) (hb : Below B W W') (hB : b < B) : CellsBox W' b t cs := (hb.block b hB).trans h
theorem CellsBox.set {W : World} {b : Nat} {t : TypeId} {cs : List Value} (h : CellsBox W b t cs) (p : Addr) (v : Value) (hne : b ≠ p.block) : CellsBox (W.setCell p v) b t cs := (heap_setCell_other W p b v hne).trans h
theorem CellsBox.alloc {W : World} {b : Nat} {t : TypeId} {cs : List Value} (h : CellsBox W b t cs) (o : Obj) : CellsBox (W.alloc o) b t cs := h.below ((Below.refl _ W).alloc (Nat.le_refl _) o) h.lt
theorem CellsBox.frozen {W : World} {b : Nat} {t : TypeId} {cs : List Value} (h : CellsBox W b t cs) (j : Nat) : W.frozen? ⟨b, j, none⟩ = false := by simp [World.frozen?, show W.heap[b]? = _ from h]
set_option maxRecDepth 100000 in
theorem rack_any (w : World) :
    Calls Tryz.prog 49 #[] w fun e w' => ∃ f1 f2 f3 f4 e1 e2 i1, e = .returned (chap f1 f2 f3 f4 e1 e2 i1).val ∧ RackAt w' w'.heap.size (chap f1 f2 f3 f4 e1 e2 i1) ∧ Below w.heap.size w w' := by
  go_enter Tryz.func49, Tryz.ntmps49
  go_wp2_with fail
  refine (to_any _ _ _).mono ?_
  rintro e wa ⟨rfl, hba⟩
  go_wp2_with fail
  refine (fit_any _ _ _ _ _).mono ?_
  rintro e wb ⟨rfl, hbb⟩
  go_wp2_with fail
  refine (fit_any _ _ _ _ _).mono ?_
  rintro e wc ⟨rfl, hbc⟩
  go_wp2_with fail
  refine (fit_any _ _ _ _ _).mono ?_
  rintro e wd ⟨rfl, hbd⟩
  go_wp2_with fail
  refine (to_any _ _ _).mono ?_
  rintro e we ⟨rfl, hbe⟩
  go_wp2_with fail
  refine (fit_any _ _ _ _ _).mono ?_
  rintro e wf ⟨rfl, hbf⟩
  go_wp2_with fail
  refine (fit_any _ _ _ _ _).mono ?_
  rintro e wg ⟨rfl, hbg⟩
  go_wp2_with fail
  refine (fit_any _ _ _ _ _).mono ?_
  rintro e wh ⟨rfl, hbh⟩
  have sa := hba.size
  have sb := hbb.size
  have sc := hbc.size
  have sd := hbd.size
  have se := hbe.size
  have sf := hbf.size
  have sg := hbg.size
  have sh := hbh.size
  simp only [World.size_alloc] at sa sb sc sd se sf sg sh
  have z0 : w.heap.size < wh.heap.size := by omega
  have z1 : w.heap.size < wh.heap.size + 1 := by omega
  have z2 : w.heap.size < wh.heap.size + 1 + 1 := by omega
  have HR : CellsBox wh w.heap.size 24 [vi 0, .slice none 0 0] := (CellsBox.new w 24 [vi 0, .slice none 0 0]).below (B := w.heap.size + 1) (by (repeat (first | exact Below.refl _ _ | refine Below.setCell ?_ (by first | omega | (simp; omega) | (simp; done)) _ | refine Below.alloc ?_ (by first | omega | (simp; omega) | (simp; done)) _ | refine Below.drew ?_ | refine below_drewN ?_ _ | refine Below.trans ?_ (Below.mono (by assumption) (by first | omega | (simp; omega) | (simp; done)))))) (by omega)
  have H4 : CellsBox wh wc.heap.size 118 [vi 40, vi 250, vi 258, vi 900, vi 41, vi 256, vi 264, vi 950] := (CellsBox.new wc 118 [vi 40, vi 250, vi 258, vi 900, vi 41, vi 256, vi 264, vi 950]).below (B := wc.heap.size + 1) (by (repeat (first | exact Below.refl _ _ | refine Below.setCell ?_ (by first | omega | (simp; omega) | (simp; done)) _ | refine Below.alloc ?_ (by first | omega | (simp; omega) | (simp; done)) _ | refine Below.drew ?_ | refine below_drewN ?_ _ | refine Below.trans ?_ (Below.mono (by assumption) (by first | omega | (simp; omega) | (simp; done)))))) (by omega)
  have H7 : CellsBox wh wd.heap.size 118 [vi 7, vi 1, vi 400, vi 300] := (CellsBox.new wd 118 [vi 7, vi 1, vi 400, vi 300]).below (B := wd.heap.size + 1) (by (repeat (first | exact Below.refl _ _ | refine Below.setCell ?_ (by first | omega | (simp; omega) | (simp; done)) _ | refine Below.alloc ?_ (by first | omega | (simp; omega) | (simp; done)) _ | refine Below.drew ?_ | refine below_drewN ?_ _ | refine Below.trans ?_ (Below.mono (by assumption) (by first | omega | (simp; omega) | (simp; done)))))) (by omega)
  have H9 : CellsBox wh (wd.heap.size + 1) 68 [vi 11, vi 0, vi 3, .slice (some ⟨wc.heap.size, 0, none⟩) 2 2, vi 12, vi 1, vi 1, .slice (some ⟨wd.heap.size, 0, none⟩) 1 1] := by
    have := CellsBox.new (wd.alloc (.cells #[vi 7, vi 1, vi 400, vi 300] 118)) 68 [vi 11, vi 0, vi 3, .slice (some ⟨wc.heap.size, 0, none⟩) 2 2, vi 12, vi 1, vi 1, .slice (some ⟨wd.heap.size, 0, none⟩) 1 1]
    simp only [World.size_alloc] at this
    exact this.below (B := wd.heap.size + 1 + 1) (by (repeat (first | exact Below.refl _ _ | refine Below.setCell ?_ (by first | omega | (simp; omega) | (simp; done)) _ | refine Below.alloc ?_ (by first | omega | (simp; omega) | (simp; done)) _ | refine Below.drew ?_ | refine below_drewN ?_ _ | refine Below.trans ?_ (Below.mono (by assumption) (by first | omega | (simp; omega) | (simp; done)))))) (by omega)
  have H14 : CellsBox wh wg.heap.size 118 [vi 40, vi 250, vi 258, vi 980, vi 42, vi 262, vi 270, vi 990] := (CellsBox.new wg 118 [vi 40, vi 250, vi 258, vi 980, vi 42, vi 262, vi 270, vi 990]).below (B := wg.heap.size + 1) (by (repeat (first | exact Below.refl _ _ | refine Below.setCell ?_ (by first | omega | (simp; omega) | (simp; done)) _ | refine Below.alloc ?_ (by first | omega | (simp; omega) | (simp; done)) _ | refine Below.drew ?_ | refine below_drewN ?_ _ | refine Below.trans ?_ (Below.mono (by assumption) (by first | omega | (simp; omega) | (simp; done)))))) (by omega)
  have HBh : Below w.heap.size w wh := by (repeat (first | exact Below.refl _ _ | refine Below.setCell ?_ (by first | omega | (simp; omega) | (simp; done)) _ | refine Below.alloc ?_ (by first | omega | (simp; omega) | (simp; done)) _ | refine Below.drew ?_ | refine below_drewN ?_ _ | refine Below.trans ?_ (Below.mono (by assumption) (by first | omega | (simp; omega) | (simp; done)))))
  have k0 := HR.cell (j := 0) rfl
  have k1 := HR.cell (j := 1) rfl
  have f0 := HR.frozen 0
  have f1 := HR.frozen 1
  clear hba hbb hbc hbd hbe hbf hbg hbh
  go_wp2
  have Q1 : CellsBox (wh.setCell ⟨w.heap.size, 0, none⟩ (vi 3)) w.heap.size 24 [vi 3, .slice none 0 0] := heap_setCell_same wh w.heap.size 0 #[vi 0, .slice none 0 0] 24 (vi 3) HR
  have Q2 : CellsBox ((wh.setCell ⟨w.heap.size, 0, none⟩ (vi 3)).setCell ⟨w.heap.size, 1, none⟩ (.slice (some ⟨wh.heap.size + 1 + 1, 0, none⟩) 2 2)) w.heap.size 24 [vi 3, .slice (some ⟨wh.heap.size + 1 + 1, 0, none⟩) 2 2] := heap_setCell_same _ w.heap.size 1 #[vi 3, .slice none 0 0] 24 (.slice (some ⟨wh.heap.size + 1 + 1, 0, none⟩) 2 2) Q1
  have n0 : ¬ w.heap.size = wh.heap.size := by omega
  have n1 : ¬ w.heap.size = wh.heap.size + 1 := by omega
  have n2 : ¬ w.heap.size = wh.heap.size + 1 + 1 := by omega
  have q0 := Q2.cell (j := 0) rfl
  have q1 := Q2.cell (j := 1) rfl
  have q2 := (((Q2.alloc (.cells #[vi 1, vi 1, vi 400, vi 50] 118)).alloc (.cells #[vi 12, vi 0, vi 1, .slice (some ⟨wg.heap.size, 0, none⟩) 2 2, vi 13, vi 2, vi 4, .slice (some ⟨wh.heap.size, 0, none⟩) 1 1] 68)).alloc (.cells #[vi 100, vi 280, vi 300, .slice (some ⟨wd.heap.size + 1, 0, none⟩) 2 2, vi 260, vi 450, vi 450, .slice (some ⟨wh.heap.size + 1, 0, none⟩) 2 2] 63)).cell (j := 0) rfl
  have q3 := (((Q2.alloc (.cells #[vi 1, vi 1, vi 400, vi 50] 118)).alloc (.cells #[vi 12, vi 0, vi 1, .slice (some ⟨wg.heap.size, 0, none⟩) 2 2, vi 13, vi 2, vi 4, .slice (some ⟨wh.heap.size, 0, none⟩) 1 1] 68)).alloc (.cells #[vi 100, vi 280, vi 300, .slice (some ⟨wd.heap.size + 1, 0, none⟩) 2 2, vi 260, vi 450, vi 450, .slice (some ⟨wh.heap.size + 1, 0, none⟩) 2 2] 63)).cell (j := 1) rfl
  refine bodyPost_ret (v := .agg #[vi 3, .slice (some ⟨wh.heap.size + 1 + 1, 0, none⟩) 2 2]) (by simp [results, Tryz.results49, go_sem, q2, q3, q0, q1]) rfl ?_
  have HS : ∀ {b : Nat} {t : TypeId} {cs : List Value}, CellsBox wh b t cs → b ≠ w.heap.size → CellsBox ((((((wh.setCell ⟨w.heap.size, 0, none⟩ (vi 3)).setCell ⟨w.heap.size, 1, none⟩ (.slice (some ⟨wh.heap.size + 1 + 1, 0, none⟩) 2 2)).alloc (.cells #[vi 1, vi 1, vi 400, vi 50] 118)).alloc (.cells #[vi 12, vi 0, vi 1, .slice (some ⟨wg.heap.size, 0, none⟩) 2 2, vi 13, vi 2, vi 4, .slice (some ⟨wh.heap.size, 0, none⟩) 1 1] 68)).alloc (.cells #[vi 100, vi 280, vi 300, .slice (some ⟨wd.heap.size + 1, 0, none⟩) 2 2, vi 260, vi 450, vi 450, .slice (some ⟨wh.heap.size + 1, 0, none⟩) 2 2] 63))) b t cs :=
    fun h hne => (((((h.set ⟨w.heap.size, 0, none⟩ _ hne).set ⟨w.heap.size, 1, none⟩ _ hne).alloc _).alloc _).alloc _)
  have G17 := ((CellsBox.new ((wh.setCell ⟨w.heap.size, 0, none⟩ (vi 3)).setCell ⟨w.heap.size, 1, none⟩ (.slice (some ⟨wh.heap.size + 1 + 1, 0, none⟩) 2 2)) 118 [vi 1, vi 1, vi 400, vi 50]).alloc (.cells #[vi 12, vi 0, vi 1, .slice (some ⟨wg.heap.size, 0, none⟩) 2 2, vi 13, vi 2, vi 4, .slice (some ⟨wh.heap.size, 0, none⟩) 1 1] 68)).alloc (.cells #[vi 100, vi 280, vi 300, .slice (some ⟨wd.heap.size + 1, 0, none⟩) 2 2, vi 260, vi 450, vi 450, .slice (some ⟨wh.heap.size + 1, 0, none⟩) 2 2] 63)
  have G19 := (CellsBox.new (((wh.setCell ⟨w.heap.size, 0, none⟩ (vi 3)).setCell ⟨w.heap.size, 1, none⟩ (.slice (some ⟨wh.heap.size + 1 + 1, 0, none⟩) 2 2)).alloc (.cells #[vi 1, vi 1, vi 400, vi 50] 118)) 68 [vi 12, vi 0, vi 1, .slice (some ⟨wg.heap.size, 0, none⟩) 2 2, vi 13, vi 2, vi 4, .slice (some ⟨wh.heap.size, 0, none⟩) 1 1]).alloc (.cells #[vi 100, vi 280, vi 300, .slice (some ⟨wd.heap.size + 1, 0, none⟩) 2 2, vi 260, vi 450, vi 450, .slice (some ⟨wh.heap.size + 1, 0, none⟩) 2 2] 63)
  have G21 := CellsBox.new ((((wh.setCell ⟨w.heap.size, 0, none⟩ (vi 3)).setCell ⟨w.heap.size, 1, none⟩ (.slice (some ⟨wh.heap.size + 1 + 1, 0, none⟩) 2 2)).alloc (.cells #[vi 1, vi 1, vi 400, vi 50] 118)).alloc (.cells #[vi 12, vi 0, vi 1, .slice (some ⟨wg.heap.size, 0, none⟩) 2 2, vi 13, vi 2, vi 4, .slice (some ⟨wh.heap.size, 0, none⟩) 1 1] 68)) 63 [vi 100, vi 280, vi 300, .slice (some ⟨wd.heap.size + 1, 0, none⟩) 2 2, vi 260, vi 450, vi 450, .slice (some ⟨wh.heap.size + 1, 0, none⟩) 2 2]
  simp only [World.size_alloc, World.size_setCell] at G17 G19 G21
  have HFIN : Below w.heap.size w (((((wh.setCell ⟨w.heap.size, 0, none⟩ (vi 3)).setCell ⟨w.heap.size, 1, none⟩ (.slice (some ⟨wh.heap.size + 1 + 1, 0, none⟩) 2 2)).alloc (.cells #[vi 1, vi 1, vi 400, vi 50] 118)).alloc (.cells #[vi 12, vi 0, vi 1, .slice (some ⟨wg.heap.size, 0, none⟩) 2 2, vi 13, vi 2, vi 4, .slice (some ⟨wh.heap.size, 0, none⟩) 1 1] 68)).alloc (.cells #[vi 100, vi 280, vi 300, .slice (some ⟨wd.heap.size + 1, 0, none⟩) 2 2, vi 260, vi 450, vi 450, .slice (some ⟨wh.heap.size + 1, 0, none⟩) 2 2] 63)) := by (repeat (first | exact Below.refl _ _ | refine Below.setCell ?_ (by first | omega | (simp; omega) | (simp; done)) _ | refine Below.alloc ?_ (by first | omega | (simp; omega) | (simp; done)) _ | refine Below.drew ?_ | refine below_drewN ?_ _ | refine Below.trans ?_ (Below.mono (by assumption) (by first | omega | (simp; omega) | (simp; done)))))
  have G4 := HS H4 (by omega)
  have G7 := HS H7 (by omega)
  have G9 := HS H9 (by omega)
  have G14 := HS H14 (by omega)
  refine ⟨some ⟨wc.heap.size, 0, none⟩, some ⟨wd.heap.size, 0, none⟩, some ⟨wg.heap.size, 0, none⟩, some ⟨wh.heap.size, 0, none⟩, some ⟨wd.heap.size + 1, 0, none⟩, some ⟨wh.heap.size + 1, 0, none⟩, some ⟨wh.heap.size + 1 + 1, 0, none⟩, rfl, ?_, HFIN⟩
  generalize (((((wh.setCell ⟨w.heap.size, 0, none⟩ (vi 3)).setCell ⟨w.heap.size, 1, none⟩ (.slice (some ⟨wh.heap.size + 1 + 1, 0, none⟩) 2 2)).alloc (.cells #[vi 1, vi 1, vi 400, vi 50] 118)).alloc (.cells #[vi 12, vi 0, vi 1, .slice (some ⟨wg.heap.size, 0, none⟩) 2 2, vi 13, vi 2, vi 4, .slice (some ⟨wh.heap.size, 0, none⟩) 1 1] 68)).alloc (.cells #[vi 100, vi 280, vi 300, .slice (some ⟨wd.heap.size + 1, 0, none⟩) 2 2, vi 260, vi 450, vi 450, .slice (some ⟨wh.heap.size + 1, 0, none⟩) 2 2] 63)) = F at *
  refine ⟨Nat.le_refl _, by first | (simp [chap]; done) | (simp; done), by first | (simp [chap]; done) | (simp; done), row_of_box (t := 63) G21 (by intro r hr; obtain ⟨p, _, rfl⟩ := List.mem_map.1 hr; rfl), fun x hx => ?_⟩
  simp only [chap, List.mem_cons, List.not_mem_nil, or_false] at hx
  rcases hx with rfl | rfl
  · refine ⟨Nat.le_refl _, by first | (simp [chap]; done) | (simp; done), row_of_box (t := 68) G9 (by intro r hr; obtain ⟨p, _, rfl⟩ := List.mem_map.1 hr; rfl), fun y hy => ?_⟩
    simp only [List.mem_cons, List.not_mem_nil, or_false] at hy
    rcases hy with rfl | rfl
    · exact ⟨Nat.le_refl _, by first | (simp [chap]; done) | (simp; done), row_of_box (t := 118) G4 (by intro r hr; obtain ⟨p, _, rfl⟩ := List.mem_map.1 hr; rfl)⟩
    · exact ⟨Nat.le_refl _, by first | (simp [chap]; done) | (simp; done), row_of_box (t := 118) G7 (by intro r hr; obtain ⟨p, _, rfl⟩ := List.mem_map.1 hr; rfl)⟩
  · refine ⟨Nat.le_refl _, by first | (simp [chap]; done) | (simp; done), row_of_box (t := 68) G19 (by intro r hr; obtain ⟨p, _, rfl⟩ := List.mem_map.1 hr; rfl), fun y hy => ?_⟩
    simp only [List.mem_cons, List.not_mem_nil, or_false] at hy
    rcases hy with rfl | rfl
    · exact ⟨Nat.le_refl _, by first | (simp [chap]; done) | (simp; done), row_of_box (t := 118) G14 (by intro r hr; obtain ⟨p, _, rfl⟩ := List.mem_map.1 hr; rfl)⟩
    · exact ⟨Nat.le_refl _, by first | (simp [chap]; done) | (simp; done), row_of_box (t := 118) G17 (by intro r hr; obtain ⟨p, _, rfl⟩ := List.mem_map.1 hr; rfl)⟩
end Go.Proofs.YtpcajmkmmkmekaaGreatDoor

/- What the chapter's functions answer of the chapter's rack: plain calculation. -/
namespace Go.Proofs.YtpcajmkmmkmekaaGreatDoor
open Go Go.RowKit
theorem sorted_up {l : List Int} (h : l.Pairwise fun a b => a ≤ b) : sorted l = l := List.mergeSort_of_pairwise (by simpa using h)
section
variable (f1 f2 f3 f4 e1 e2 i1 : Option Addr)
theorem ch_valid : validB (chap f1 f2 f3 f4 e1 e2 i1) = true := by kernel_rfl
theorem ch_means : meansL (chap f1 f2 f3 f4 e1 e2 i1) 270 270 12 = [(0, 1), (1, 0)] ∧ meansErr (chap f1 f2 f3 f4 e1 e2 i1) 270 270 12 = 0 := ⟨by kernel_rfl, by kernel_rfl⟩
theorem ch_number : numV (chap f1 f2 f3 f4 e1 e2 i1) 0 11 1 = 12 ∧ numErr (chap f1 f2 f3 f4 e1 e2 i1) 0 11 1 = 0 := ⟨by kernel_rfl, by kernel_rfl⟩
theorem ch_price : priceV (chap f1 f2 f3 f4 e1 e2 i1) 290 ⟨0, 40, 0⟩ = 900 ∧ priceErr (chap f1 f2 f3 f4 e1 e2 i1) 290 ⟨0, 40, 0⟩ = 0 := ⟨by kernel_rfl, by kernel_rfl⟩
theorem ch_prices : pricesL (chap f1 f2 f3 f4 e1 e2 i1) 250 350 ⟨0, 40, 0⟩ = [900, 980] ∧ pricesErr (chap f1 f2 f3 f4 e1 e2 i1) 250 350 ⟨0, 40, 0⟩ = 0 := by
  refine ⟨?_, by kernel_rfl⟩
  have h1 : pricesL (chap f1 f2 f3 f4 e1 e2 i1) 250 350 ⟨0, 40, 0⟩ = sorted [900, 980] := by kernel_rfl
  rw [h1]
  exact sorted_up (by decide)
theorem ch_twins : twinsL (chap f1 f2 f3 f4 e1 e2 i1) 270 = [12] ∧ twinsErr (chap f1 f2 f3 f4 e1 e2 i1) 270 = 0 := by
  refine ⟨?_, by kernel_rfl⟩
  have h1 : twinsL (chap f1 f2 f3 f4 e1 e2 i1) 270 = Lib.compact (sorted [12, 12]) := by kernel_rfl
  have h2 : Lib.compact [12, 12] = [(12 : Int)] := by kernel_rfl
  rw [h1, sorted_up (l := [12, 12]) (by decide)]
  exact h2
theorem ch_last : lastV (chap f1 f2 f3 f4 e1 e2 i1) ⟨1, 7, 0⟩ = 300 ∧ lastErr (chap f1 f2 f3 f4 e1 e2 i1) ⟨1, 7, 0⟩ = 0 := ⟨by kernel_rfl, by kernel_rfl⟩
theorem ch_fits : lookL (fitsP 255 257) (chap f1 f2 f3 f4 e1 e2 i1) 0 11 255 257 = [40, 41] ∧ lookErr (chap f1 f2 f3 f4 e1 e2 i1) 0 11 255 257 = 0 := ⟨by kernel_rfl, by kernel_rfl⟩
theorem ch_sure : sureV (chap f1 f2 f3 f4 e1 e2 i1) 0 11 252 258 = 40 ∧ sureErr (chap f1 f2 f3 f4 e1 e2 i1) 0 11 252 258 = 0 := ⟨by kernel_rfl, by kernel_rfl⟩
theorem ch_sum : sumV (chap f1 f2 f3 f4 e1 e2 i1) 270 orderL = 10900 ∧ sumErr (chap f1 f2 f3 f4 e1 e2 i1) 270 orderL = 0 := ⟨by kernel_rfl, by kernel_rfl⟩
theorem ch_cheap : cheapD (chap f1 f2 f3 f4 e1 e2 i1) 250 350 orderL = 260 ∧ cheapN (chap f1 f2 f3 f4 e1 e2 i1) 250 350 orderL = 10900 ∧ cheapErr (chap f1 f2 f3 f4 e1 e2 i1) 250 350 orderL = 0 := ⟨by kernel_rfl, by kernel_rfl, by kernel_rfl⟩
end
end Go.Proofs.YtpcajmkmmkmekaaGreatDoor

/- Contract of works: the chapter's examples. -/
namespace Go.Proofs.YtpcajmkmmkmekaaGreatDoor
open Go Go.RowKit
set_option maxHeartbeats 8000000
set_option maxRecDepth 100000 in
theorem works_any (w : World) (hl : Lim w) :
    Calls Tryz.prog 16 #[] w fun e w' => e = .returned (.bool true) ∧ Below w.heap.size w w' := by
  go_enter Tryz.func16, Tryz.ntmps16
  go_wp2_with fail
  refine (rack_any _).mono ?_
  rintro e w1 ⟨f1, f2, f3, f4, e1, e2, i1, rfl, hR, hb1⟩
  have HB1 := hb1
  go_wp2_with fail
  refine (to_any _ _ _).mono ?_
  rintro e w2 ⟨rfl, hb2⟩
  have HB2 := HB1.trans (hb2.mono HB1.size)
  replace hR := hR.to hb2
  go_wp2_with fail
  refine (means_ (chap f1 f2 f3 f4 e1 e2 i1) 270 270 12 _ (hl.next HB2) hR).mono ?_
  rintro e w3 ⟨v, rfl, hm⟩
  rw [(ch_means f1 f2 f3 f4 e1 e2 i1).2]
  rw [(ch_means f1 f2 f3 f4 e1 e2 i1).1] at hm
  obtain ⟨⟨lA, lc, rfl, lm1, lm2, lm3, _⟩, hb3⟩ := hm
  have HB3 := HB2.trans (hb3.mono HB2.size)
  replace hR := hR.to hb3
  clear hR
  have hl1 : RowsAt w3 w3.heap.size 2 lA lc ([((0 : Int), (1 : Int)), (1, 0)].map meantC) := ⟨lm1, lm2, lm3⟩
  clear lm1 lm2 lm3
  go_wp2_with fail
  refine (rack_any _).mono ?_
  rintro e w4 ⟨f1, f2, f3, f4, e1, e2, i1, rfl, hR, hb4⟩
  have HB4 := HB3.trans (hb4.mono HB3.size)
  replace hl1 := hl1.to hb4
  go_wp2_with fail
  refine (number_any (chap f1 f2 f3 f4 e1 e2 i1) 0 11 1 _ (hl.next HB4) hR).mono ?_
  rintro e w5 ⟨rfl, hb5⟩
  rw [(ch_number f1 f2 f3 f4 e1 e2 i1).1, (ch_number f1 f2 f3 f4 e1 e2 i1).2]
  have HB5 := HB4.trans (hb5.mono HB4.size)
  replace hl1 := hl1.to hb5
  replace hR := hR.to hb5
  clear hR
  go_wp2_with fail
  refine (rack_any _).mono ?_
  rintro e w6 ⟨f1, f2, f3, f4, e1, e2, i1, rfl, hR, hb6⟩
  have HB6 := HB5.trans (hb6.mono HB5.size)
  replace hl1 := hl1.to hb6
  go_wp2_with fail
  refine (Twins_any (chap f1 f2 f3 f4 e1 e2 i1) 270 _ (hl.next HB6) hR).mono ?_
  rintro e w7 ⟨v, rfl, hm⟩
  rw [(ch_twins f1 f2 f3 f4 e1 e2 i1).2]
  rw [(ch_twins f1 f2 f3 f4 e1 e2 i1).1] at hm
  obtain ⟨⟨tA, tc, rfl, ht1⟩, hb7⟩ := hm
  have HB7 := HB6.trans (hb7.mono HB6.size)
  replace hl1 := hl1.to hb7
  replace hR := hR.to hb7
  clear hR
  go_wp2_with fail
  refine (rack_any _).mono ?_
  rintro e w8 ⟨f1, f2, f3, f4, e1, e2, i1, rfl, hR, hb8⟩
  have HB8 := HB7.trans (hb8.mono HB7.size)
  replace hl1 := hl1.to hb8
  replace ht1 := ht1.to hb8
  go_wp2_with fail
  refine (thing_any _ _ _ _).mono ?_
  rintro e w9 ⟨rfl, hb9⟩
  have HB9 := HB8.trans (hb9.mono HB8.size)
  replace hl1 := hl1.to hb9
  replace ht1 := ht1.to hb9
  replace hR := hR.to hb9
  go_wp2_with fail
  refine (Price_any (chap f1 f2 f3 f4 e1 e2 i1) 290 ⟨0, 40, 0⟩ _ (hl.next HB9) hR).mono ?_
  rintro e w10 ⟨rfl, hb10⟩
  rw [(ch_price f1 f2 f3 f4 e1 e2 i1).1, (ch_price f1 f2 f3 f4 e1 e2 i1).2]
  have HB10 := HB9.trans (hb10.mono HB9.size)
  replace hl1 := hl1.to hb10
  replace ht1 := ht1.to hb10
  replace hR := hR.to hb10
  clear hR
  go_wp2_with fail
  have hb11 : Below w10.heap.size w10 (w10.alloc (.cells #[vi 0, vi 1, vi 1, vi 0] 70)) := (Below.refl _ _).alloc (Nat.le_refl _) _
  have HB11 := HB10.trans (hb11.mono HB10.size)
  replace hl1 := hl1.to hb11
  replace ht1 := ht1.to hb11
  have hn1 : RowsAt (w10.alloc (.cells #[vi 0, vi 1, vi 1, vi 0] 70)) (w10.alloc (.cells #[vi 0, vi 1, vi 1, vi 0] 70)).heap.size 2 (some ⟨w10.heap.size, 0, none⟩) 2 ([((0 : Int), (1 : Int)), (1, 0)].map meantC) := ⟨by decide, by decide, row_of_box (CellsBox.new w10 70 [vi 0, vi 1, vi 1, vi 0]) (by decide)⟩
  refine (sameMeant_any lA (some ⟨w10.heap.size, 0, none⟩) lc 2 [((0 : Int), (1 : Int)), (1, 0)] [((0 : Int), (1 : Int)), (1, 0)] _ hl1 hn1).mono ?_
  rintro e w12 ⟨rfl, hb12⟩
  rw [show decide ([((0 : Int), (1 : Int)), (1, 0)] = [((0 : Int), (1 : Int)), (1, 0)]) = true by decide]
  have HB12 := HB11.trans (hb12.mono HB11.size)
  replace hl1 := hl1.to hb12
  replace ht1 := ht1.to hb12
  clear hl1 hn1
  go_wp2_with fail
  have hb13 : Below w12.heap.size w12 (w12.alloc (.cells #[vi 12] 3)) := (Below.refl _ _).alloc (Nat.le_refl _) _
  have HB13 := HB12.trans (hb13.mono HB12.size)
  replace ht1 := ht1.to hb13
  have hn1 : IntsAt (w12.alloc (.cells #[vi 12] 3)) (w12.alloc (.cells #[vi 12] 3)).heap.size (some ⟨w12.heap.size, 0, none⟩) 1 [(12 : Int)] := ⟨by decide, by decide, row_of_box (m := [(12 : Int)].map fun n => [vi n]) (CellsBox.new w12 3 [vi 12]) (by decide)⟩
  refine (match_any tA (some ⟨w12.heap.size, 0, none⟩) tc 1 [(12 : Int)] [(12 : Int)] _ ht1 hn1).mono ?_
  rintro e w14 ⟨rfl, hb14⟩
  rw [show decide ([(12 : Int)] = [(12 : Int)]) = true by decide]
  have HB14 := HB13.trans (hb14.mono HB13.size)
  replace ht1 := ht1.to hb14
  clear ht1
  clear hn1
  go_wp2_with fail
  refine (rack_any _).mono ?_
  rintro e w15 ⟨f1, f2, f3, f4, e1, e2, i1, rfl, hR, hb15⟩
  have HB15 := HB14.trans (hb15.mono HB14.size)
  go_wp2_with fail
  refine (to_any _ _ _).mono ?_
  rintro e w16 ⟨rfl, hb16⟩
  have HB16 := HB15.trans (hb16.mono HB15.size)
  replace hR := hR.to hb16
  go_wp2_with fail
  refine (thing_any _ _ _ _).mono ?_
  rintro e w17 ⟨rfl, hb17⟩
  have HB17 := HB16.trans (hb17.mono HB16.size)
  replace hR := hR.to hb17
  go_wp2_with fail
  refine (Prices_any (chap f1 f2 f3 f4 e1 e2 i1) 250 350 ⟨0, 40, 0⟩ _ (hl.next HB17) hR).mono ?_
  rintro e w18 ⟨v, rfl, hm⟩
  rw [(ch_prices f1 f2 f3 f4 e1 e2 i1).2]
  rw [(ch_prices f1 f2 f3 f4 e1 e2 i1).1] at hm
  obtain ⟨⟨qA, qc, rfl, hq1⟩, hb18⟩ := hm
  have HB18 := HB17.trans (hb18.mono HB17.size)
  replace hR := hR.to hb18
  clear hR
  go_wp2_with fail
  refine (rack_any _).mono ?_
  rintro e w19 ⟨f1, f2, f3, f4, e1, e2, i1, rfl, hR, hb19⟩
  have HB19 := HB18.trans (hb19.mono HB18.size)
  replace hq1 := hq1.to hb19
  go_wp2_with fail
  refine (thing_any _ _ _ _).mono ?_
  rintro e w20 ⟨rfl, hb20⟩
  have HB20 := HB19.trans (hb20.mono HB19.size)
  replace hq1 := hq1.to hb20
  replace hR := hR.to hb20
  go_wp2_with fail
  refine (Last_any (chap f1 f2 f3 f4 e1 e2 i1) ⟨1, 7, 0⟩ _ (hl.next HB20) hR).mono ?_
  rintro e w21 ⟨rfl, hb21⟩
  rw [(ch_last f1 f2 f3 f4 e1 e2 i1).1, (ch_last f1 f2 f3 f4 e1 e2 i1).2]
  have HB21 := HB20.trans (hb21.mono HB20.size)
  replace hq1 := hq1.to hb21
  replace hR := hR.to hb21
  clear hR
  go_wp2_with fail
  refine (rack_any _).mono ?_
  rintro e w22 ⟨f1, f2, f3, f4, e1, e2, i1, rfl, hR, hb22⟩
  have HB22 := HB21.trans (hb22.mono HB21.size)
  replace hq1 := hq1.to hb22
  go_wp2_with fail
  refine (to_any _ _ _).mono ?_
  rintro e w23 ⟨rfl, hb23⟩
  have HB23 := HB22.trans (hb23.mono HB22.size)
  replace hq1 := hq1.to hb23
  replace hR := hR.to hb23
  go_wp2_with fail
  refine (order_any _).mono ?_
  rintro e w24 ⟨oA, oc, rfl, ho1, hb24⟩
  have HB24 := HB23.trans (hb24.mono HB23.size)
  replace hq1 := hq1.to hb24
  replace hR := hR.to hb24
  go_wp2_with fail
  refine (Cheapest_any (chap f1 f2 f3 f4 e1 e2 i1) 250 350 oA oc orderL _ (hl.next HB24) hR ho1).mono ?_
  rintro e w25 ⟨rfl, hb25⟩
  rw [(ch_cheap f1 f2 f3 f4 e1 e2 i1).1, (ch_cheap f1 f2 f3 f4 e1 e2 i1).2.1, (ch_cheap f1 f2 f3 f4 e1 e2 i1).2.2]
  have HB25 := HB24.trans (hb25.mono HB24.size)
  replace hq1 := hq1.to hb25
  replace hR := hR.to hb25
  replace ho1 := ho1.to hb25
  clear hR
  clear ho1
  go_wp2_with fail
  refine (rack_any _).mono ?_
  rintro e w26 ⟨f1, f2, f3, f4, e1, e2, i1, rfl, hR, hb26⟩
  have HB26 := HB25.trans (hb26.mono HB25.size)
  replace hq1 := hq1.to hb26
  go_wp2_with fail
  refine (to_any _ _ _).mono ?_
  rintro e w27 ⟨rfl, hb27⟩
  have HB27 := HB26.trans (hb27.mono HB26.size)
  replace hq1 := hq1.to hb27
  replace hR := hR.to hb27
  go_wp2_with fail
  refine (fits_any (chap f1 f2 f3 f4 e1 e2 i1) 0 11 255 257 _ (hl.next HB27) hR).mono ?_
  rintro e w28 ⟨v, rfl, hm⟩
  rw [(ch_fits f1 f2 f3 f4 e1 e2 i1).2]
  rw [(ch_fits f1 f2 f3 f4 e1 e2 i1).1] at hm
  obtain ⟨⟨sA, sc, rfl, hs1⟩, hb28⟩ := hm
  have HB28 := HB27.trans (hb28.mono HB27.size)
  replace hq1 := hq1.to hb28
  replace hR := hR.to hb28
  clear hR
  go_wp2_with fail
  refine (rack_any _).mono ?_
  rintro e w29 ⟨f1, f2, f3, f4, e1, e2, i1, rfl, hR, hb29⟩
  have HB29 := HB28.trans (hb29.mono HB28.size)
  replace hq1 := hq1.to hb29
  replace hs1 := hs1.to hb29
  go_wp2_with fail
  refine (to_any _ _ _).mono ?_
  rintro e w30 ⟨rfl, hb30⟩
  have HB30 := HB29.trans (hb30.mono HB29.size)
  replace hq1 := hq1.to hb30
  replace hs1 := hs1.to hb30
  replace hR := hR.to hb30
  go_wp2_with fail
  refine (sure_any (chap f1 f2 f3 f4 e1 e2 i1) 0 11 252 258 _ (hl.next HB30) hR).mono ?_
  rintro e w31 ⟨rfl, hb31⟩
  rw [(ch_sure f1 f2 f3 f4 e1 e2 i1).1, (ch_sure f1 f2 f3 f4 e1 e2 i1).2]
  have HB31 := HB30.trans (hb31.mono HB30.size)
  replace hq1 := hq1.to hb31
  replace hs1 := hs1.to hb31
  replace hR := hR.to hb31
  clear hR
  go_wp2_with fail
  refine (rack_any _).mono ?_
  rintro e w32 ⟨f1, f2, f3, f4, e1, e2, i1, rfl, hR, hb32⟩
  have HB32 := HB31.trans (hb32.mono HB31.size)
  replace hq1 := hq1.to hb32
  replace hs1 := hs1.to hb32
  go_wp2_with fail
  refine (order_any _).mono ?_
  rintro e w33 ⟨oA, oc, rfl, ho1, hb33⟩
  have HB33 := HB32.trans (hb33.mono HB32.size)
  replace hq1 := hq1.to hb33
  replace hs1 := hs1.to hb33
  replace hR := hR.to hb33
  go_wp2_with fail
  refine (Sum_any (chap f1 f2 f3 f4 e1 e2 i1) 270 oA oc orderL _ (hl.next HB33) hR ho1).mono ?_
  rintro e w34 ⟨rfl, hb34⟩
  rw [(ch_sum f1 f2 f3 f4 e1 e2 i1).1, (ch_sum f1 f2 f3 f4 e1 e2 i1).2]
  have HB34 := HB33.trans (hb34.mono HB33.size)
  replace hq1 := hq1.to hb34
  replace hs1 := hs1.to hb34
  replace hR := hR.to hb34
  replace ho1 := ho1.to hb34
  clear hR
  clear ho1
  go_wp2_with fail
  have hb35 : Below w34.heap.size w34 (w34.alloc (.cells #[vi 900, vi 980] 3)) := (Below.refl _ _).alloc (Nat.le_refl _) _
  have HB35 := HB34.trans (hb35.mono HB34.size)
  replace hq1 := hq1.to hb35
  replace hs1 := hs1.to hb35
  have hn1 : IntsAt (w34.alloc (.cells #[vi 900, vi 980] 3)) (w34.alloc (.cells #[vi 900, vi 980] 3)).heap.size (some ⟨w34.heap.size, 0, none⟩) 2 [(900 : Int), 980] := ⟨by decide, by decide, row_of_box (m := [(900 : Int), 980].map fun n => [vi n]) (CellsBox.new w34 3 [vi 900, vi 980]) (by decide)⟩
  refine (match_any qA (some ⟨w34.heap.size, 0, none⟩) qc 2 [(900 : Int), 980] [(900 : Int), 980] _ hq1 hn1).mono ?_
  rintro e w36 ⟨rfl, hb36⟩
  rw [show decide ([(900 : Int), 980] = [(900 : Int), 980]) = true by decide]
  have HB36 := HB35.trans (hb36.mono HB35.size)
  replace hq1 := hq1.to hb36
  replace hs1 := hs1.to hb36
  clear hq1
  clear hn1
  go_wp2_with fail
  have hb37 : Below w36.heap.size w36 (w36.alloc (.cells #[vi 40, vi 41] 3)) := (Below.refl _ _).alloc (Nat.le_refl _) _
  have HB37 := HB36.trans (hb37.mono HB36.size)
  replace hs1 := hs1.to hb37
  have hn1 : IntsAt (w36.alloc (.cells #[vi 40, vi 41] 3)) (w36.alloc (.cells #[vi 40, vi 41] 3)).heap.size (some ⟨w36.heap.size, 0, none⟩) 2 [(40 : Int), 41] := ⟨by decide, by decide, row_of_box (m := [(40 : Int), 41].map fun n => [vi n]) (CellsBox.new w36 3 [vi 40, vi 41]) (by decide)⟩
  refine (match_any sA (some ⟨w36.heap.size, 0, none⟩) sc 2 [(40 : Int), 41] [(40 : Int), 41] _ hs1 hn1).mono ?_
  rintro e w38 ⟨rfl, hb38⟩
  rw [show decide ([(40 : Int), 41] = [(40 : Int), 41]) = true by decide]
  have HB38 := HB37.trans (hb38.mono HB37.size)
  replace hs1 := hs1.to hb38
  clear hs1
  clear hn1
  go_wp2_with fail
  go_ret
  exact ⟨rfl, HB38⟩
end Go.Proofs.YtpcajmkmmkmekaaGreatDoor

