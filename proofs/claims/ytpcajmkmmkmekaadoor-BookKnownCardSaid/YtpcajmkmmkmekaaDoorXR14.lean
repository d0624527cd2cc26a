/- Contract of the chapter's rack, block by block. -/
import Derived.Test.YtpcajmkmmkmekaaDoorGp
set_option linter.unusedVariables false
set_option linter.unusedSimpArgs false
namespace Go.Proofs.YtpcajmkmmkmekaaDoor
open Go Go.RowKit
set_option maxHeartbeats 4000000
structure Ns where
  n4 : Nat
  n7 : Nat
  n9 : Nat
  n14 : Nat
  n17 : Nat
  n19 : Nat
  n21 : Nat
abbrev sl (n k : Nat) : Value := .slice (some ⟨n, 0, none⟩) k k
/-- the chapter's rack, its blocks in their order from lo on, ahead of hi -/
def ChapIn (lo hi : Nat) (w : World) (n : Ns) : Prop := (lo ≤ n.n4 ∧ n.n4 < n.n7 ∧ n.n7 < n.n9 ∧ n.n9 < n.n14 ∧ n.n14 < n.n17 ∧ n.n17 < n.n19 ∧ n.n19 < n.n21 ∧ n.n21 < hi) ∧
  CellsBox w n.n4 86 [vi 40, vi 250, vi 258, vi 900, vi 41, vi 256, vi 264, vi 950] ∧ CellsBox w n.n7 86 [vi 7, vi 1, vi 400, vi 300] ∧
  CellsBox w n.n9 50 [vi 11, vi 0, vi 3, sl n.n4 2, vi 12, vi 1, vi 1, sl n.n7 1] ∧ CellsBox w n.n14 86 [vi 40, vi 250, vi 258, vi 980, vi 42, vi 262, vi 270, vi 990] ∧
  CellsBox w n.n17 86 [vi 1, vi 1, vi 400, vi 50] ∧ CellsBox w n.n19 50 [vi 12, vi 0, vi 1, sl n.n14 2, vi 13, vi 2, vi 4, sl n.n17 1] ∧
  CellsBox w n.n21 47 [vi 100, vi 280, vi 300, sl n.n9 2, vi 260, vi 450, vi 450, sl n.n19 2]
theorem CellsBox.keep {w w' : World} {b : Nat} {t : TypeId} {cs : List Value} (h : CellsBox w b t cs) (hk : w'.heap[b]? = w.heap[b]?) : CellsBox w' b t cs := hk.trans h
theorem ChapIn.keep {lo hi : Nat} {w w' : World} {n : Ns} (h : ChapIn lo hi w n) (hk : ∀ b, lo ≤ b → b < hi → w'.heap[b]? = w.heap[b]?) : ChapIn lo hi w' n := by
  obtain ⟨r, h1, h2, h3, h4, h5, h6, h7⟩ := h
  exact ⟨r, h1.keep (hk _ (by omega) (by omega)), h2.keep (hk _ (by omega) (by omega)), h3.keep (hk _ (by omega) (by omega)), h4.keep (hk _ (by omega) (by omega)), h5.keep (hk _ (by omega) (by omega)), h6.keep (hk _ (by omega) (by omega)), h7.keep (hk _ (by omega) (by omega))⟩
/-- a rack in blocks of its own, from lo on, ahead of hi -/
def BoxRack (lo hi : Nat) (w : World) (r : Rack) : Prop := (r.issues.length ≤ r.cap ∧ r.cap ≤ 100 ∧ ∃ n, r.ad = some ⟨n, 0, none⟩ ∧ lo ≤ n ∧ n < hi ∧ CellsBox w n 47 (r.issues.map Issue.cells).flatten) ∧
  ∀ x ∈ r.issues, (x.entries.length ≤ x.cap ∧ x.cap ≤ 100 ∧ ∃ n, x.ad = some ⟨n, 0, none⟩ ∧ lo ≤ n ∧ n < hi ∧ CellsBox w n 50 (x.entries.map Entry.cells).flatten) ∧
    ∀ e ∈ x.entries, e.sizes.length ≤ e.cap ∧ e.cap ≤ 100 ∧ (e.sizes = [] ∨ ∃ n, e.ad = some ⟨n, 0, none⟩ ∧ lo ≤ n ∧ n < hi ∧ CellsBox w n 86 (e.sizes.map Fit.cells).flatten)
theorem BoxRack.keep {lo hi : Nat} {w w' : World} {r : Rack} (h : BoxRack lo hi w r) (hk : ∀ b, lo ≤ b → b < hi → w'.heap[b]? = w.heap[b]?) : BoxRack lo hi w' r := by
  obtain ⟨⟨a1, a2, n, a3, a4, a5, a6⟩, h2⟩ := h
  refine ⟨⟨a1, a2, n, a3, a4, a5, a6.keep (hk _ a4 a5)⟩, fun x hx => ?_⟩
  obtain ⟨⟨b1, b2, m, b3, b4, b5, b6⟩, h3⟩ := h2 x hx
  refine ⟨⟨b1, b2, m, b3, b4, b5, b6.keep (hk _ b4 b5)⟩, fun e he => ?_⟩
  obtain ⟨c1, c2, c3⟩ := h3 e he
  refine ⟨c1, c2, ?_⟩
  rcases c3 with c3 | ⟨k, c3, c4, c5, c6⟩
  · exact .inl c3
  · exact .inr ⟨k, c3, c4, c5, c6.keep (hk _ c4 c5)⟩
theorem row_at {w : World} {B : Nat} {t : TypeId} {sz : Nat} {m : List (List Value)} (h : CellsBox w B t m.flatten) (hsz : ∀ r ∈ m, r.length = sz) : RowAt w w.heap.size sz (some ⟨B, 0, none⟩) m := row_of_box h hsz
theorem BoxRack.at {lo hi : Nat} {w : World} {r : Rack} (h : BoxRack lo hi w r) : RackAt w w.heap.size r := by
  obtain ⟨⟨a1, a2, n, a3, a4, a5, a6⟩, h2⟩ := h
  refine ⟨a1, by omega, by omega, ?_, fun x hx => ?_⟩
  · rw [a3]; exact row_at (t := 47) a6 (by intro r hr; obtain ⟨p, _, rfl⟩ := List.mem_map.1 hr; rfl)
  obtain ⟨⟨b1, b2, m, b3, b4, b5, b6⟩, h3⟩ := h2 x hx
  refine ⟨b1, by omega, ?_, fun e he => ?_⟩
  · rw [b3]; exact row_at (t := 50) b6 (by intro r hr; obtain ⟨p, _, rfl⟩ := List.mem_map.1 hr; rfl)
  obtain ⟨c1, c2, c3⟩ := h3 e he
  refine ⟨c1, by omega, ?_⟩
  rcases c3 with c3 | ⟨k, c3, c4, c5, c6⟩
  · rw [c3]; exact fun hl => absurd hl (by simp)
  · rw [c3]; exact row_at (t := 86) c6 (by intro r hr; obtain ⟨p, _, rfl⟩ := List.mem_map.1 hr; rfl)
set_option maxRecDepth 100000 in
theorem rack_box (w : World) :
    Calls Tryd.prog 40 #[] w fun e w' => ∃ n : Ns, e = .returned (.agg #[vi 3, .slice (some ⟨n.n21, 0, none⟩) 2 2]) ∧ ChapIn w.heap.size w'.heap.size w' n ∧ Below w.heap.size w w' := by
  go_enter Tryd.func40, Tryd.ntmps40
  go_wp2_with fail
  refine (to_any _ _ _).mono ?_
  rintro e wa ⟨rfl, hba⟩
  go_wp2_with fail
  refine (fit_any _ _ _ _ _).mono ?_
  rintro e wb ⟨rfl, hbb⟩
  go_wp2_with fail
  refine (fit_any _ _ _ _ _).mono ?_
  rintro e wc ⟨rfl, hbc⟩
  go_wp2_with fail
  refine (fit_any _ _ _ _ _).mono ?_
  rintro e wd ⟨rfl, hbd⟩
  go_wp2_with fail
  refine (to_any _ _ _).mono ?_
  rintro e we ⟨rfl, hbe⟩
  go_wp2_with fail
  refine (fit_any _ _ _ _ _).mono ?_
  rintro e wf ⟨rfl, hbf⟩
  go_wp2_with fail
  refine (fit_any _ _ _ _ _).mono ?_
  rintro e wg ⟨rfl, hbg⟩
  go_wp2_with fail
  refine (fit_any _ _ _ _ _).mono ?_
  rintro e wh ⟨rfl, hbh⟩
  have sa := hba.size
  have sb := hbb.size
  have sc := hbc.size
  have sd := hbd.size
  have se := hbe.size
  have sf := hbf.size
  have sg := hbg.size
  have sh := hbh.size
  simp only [World.size_alloc] at sa sb sc sd se sf sg sh
  have z0 : w.heap.size < wh.heap.size := by omega
  have z1 : w.heap.size < wh.heap.size + 1 := by omega
  have z2 : w.heap.size < wh.heap.size + 1 + 1 := by omega
  have HR : CellsBox wh w.heap.size 24 [vi 0, .slice none 0 0] := (CellsBox.new w 24 [vi 0, .slice none 0 0]).below (B := w.heap.size + 1) (by (repeat (first | exact Below.refl _ _ | refine Below.setCell ?_ (by first | omega | (simp; omega) | (simp; done)) _ | refine Below.alloc ?_ (by first | omega | (simp; omega) | (simp; done)) _ | refine Below.drew ?_ | refine below_drewN ?_ _ | refine Below.trans ?_ (Below.mono (by assumption) (by first | omega | (simp; omega) | (simp; done)))))) (by omega)
  have H4 : CellsBox wh wc.heap.size 86 [vi 40, vi 250, vi 258, vi 900, vi 41, vi 256, vi 264, vi 950] := (CellsBox.new wc 86 [vi 40, vi 250, vi 258, vi 900, vi 41, vi 256, vi 264, vi 950]).below (B := wc.heap.size + 1) (by (repeat (first | exact Below.refl _ _ | refine Below.setCell ?_ (by first | omega | (simp; omega) | (simp; done)) _ | refine Below.alloc ?_ (by first | omega | (simp; omega) | (simp; done)) _ | refine Below.drew ?_ | refine below_drewN ?_ _ | refine Below.trans ?_ (Below.mono (by assumption) (by first | omega | (simp; omega) | (simp; done)))))) (by omega)
  have H7 : CellsBox wh wd.heap.size 86 [vi 7, vi 1, vi 400, vi 300] := (CellsBox.new wd 86 [vi 7, vi 1, vi 400, vi 300]).below (B := wd.heap.size + 1) (by (repeat (first | exact Below.refl _ _ | refine Below.setCell ?_ (by first | omega | (simp; omega) | (simp; done)) _ | refine Below.alloc ?_ (by first | omega | (simp; omega) | (simp; done)) _ | refine Below.drew ?_ | refine below_drewN ?_ _ | refine Below.trans ?_ (Below.mono (by assumption) (by first | omega | (simp; omega) | (simp; done)))))) (by omega)
  have H9 : CellsBox wh (wd.heap.size + 1) 50 [vi 11, vi 0, vi 3, .slice (some ⟨wc.heap.size, 0, none⟩) 2 2, vi 12, vi 1, vi 1, .slice (some ⟨wd.heap.size, 0, none⟩) 1 1] := by
    have := CellsBox.new (wd.alloc (.cells #[vi 7, vi 1, vi 400, vi 300] 86)) 50 [vi 11, vi 0, vi 3, .slice (some ⟨wc.heap.size, 0, none⟩) 2 2, vi 12, vi 1, vi 1, .slice (some ⟨wd.heap.size, 0, none⟩) 1 1]
    simp only [World.size_alloc] at this
    exact this.below (B := wd.heap.size + 1 + 1) (by (repeat (first | exact Below.refl _ _ | refine Below.setCell ?_ (by first | omega | (simp; omega) | (simp; done)) _ | refine Below.alloc ?_ (by first | omega | (simp; omega) | (simp; done)) _ | refine Below.drew ?_ | refine below_drewN ?_ _ | refine Below.trans ?_ (Below.mono (by assumption) (by first | omega | (simp; omega) | (simp; done)))))) (by omega)
  have H14 : CellsBox wh wg.heap.size 86 [vi 40, vi 250, vi 258, vi 980, vi 42, vi 262, vi 270, vi 990] := (CellsBox.new wg 86 [vi 40, vi 250, vi 258, vi 980, vi 42, vi 262, vi 270, vi 990]).below (B := wg.heap.size + 1) (by (repeat (first | exact Below.refl _ _ | refine Below.setCell ?_ (by first | omega | (simp; omega) | (simp; done)) _ | refine Below.alloc ?_ (by first | omega | (simp; omega) | (simp; done)) _ | refine Below.drew ?_ | refine below_drewN ?_ _ | refine Below.trans ?_ (Below.mono (by assumption) (by first | omega | (simp; omega) | (simp; done)))))) (by omega)
  have HBh : Below w.heap.size w wh := by (repeat (first | exact Below.refl _ _ | refine Below.setCell ?_ (by first | omega | (simp; omega) | (simp; done)) _ | refine Below.alloc ?_ (by first | omega | (simp; omega) | (simp; done)) _ | refine Below.drew ?_ | refine below_drewN ?_ _ | refine Below.trans ?_ (Below.mono (by assumption) (by first | omega | (simp; omega) | (simp; done)))))
  have k0 := HR.cell (j := 0) rfl
  have k1 := HR.cell (j := 1) rfl
  have f0 := HR.frozen 0
  have f1 := HR.frozen 1
  clear hba hbb hbc hbd hbe hbf hbg hbh
  go_wp2
  have Q1 : CellsBox (wh.setCell ⟨w.heap.size, 0, none⟩ (vi 3)) w.heap.size 24 [vi 3, .slice none 0 0] := heap_setCell_same wh w.heap.size 0 #[vi 0, .slice none 0 0] 24 (vi 3) HR
  have Q2 : CellsBox ((wh.setCell ⟨w.heap.size, 0, none⟩ (vi 3)).setCell ⟨w.heap.size, 1, none⟩ (.slice (some ⟨wh.heap.size + 1 + 1, 0, none⟩) 2 2)) w.heap.size 24 [vi 3, .slice (some ⟨wh.heap.size + 1 + 1, 0, none⟩) 2 2] := heap_setCell_same _ w.heap.size 1 #[vi 3, .slice none 0 0] 24 (.slice (some ⟨wh.heap.size + 1 + 1, 0, none⟩) 2 2) Q1
  have n0 : ¬ w.heap.size = wh.heap.size := by omega
  have n1 : ¬ w.heap.size = wh.heap.size + 1 := by omega
  have n2 : ¬ w.heap.size = wh.heap.size + 1 + 1 := by omega
  have q0 := Q2.cell (j := 0) rfl
  have q1 := Q2.cell (j := 1) rfl
  have q2 := (((Q2.alloc (.cells #[vi 1, vi 1, vi 400, vi 50] 86)).alloc (.cells #[vi 12, vi 0, vi 1, .slice (some ⟨wg.heap.size, 0, none⟩) 2 2, vi 13, vi 2, vi 4, .slice (some ⟨wh.heap.size, 0, none⟩) 1 1] 50)).alloc (.cells #[vi 100, vi 280, vi 300, .slice (some ⟨wd.heap.size + 1, 0, none⟩) 2 2, vi 260, vi 450, vi 450, .slice (some ⟨wh.heap.size + 1, 0, none⟩) 2 2] 47)).cell (j := 0) rfl
  have q3 := (((Q2.alloc (.cells #[vi 1, vi 1, vi 400, vi 50] 86)).alloc (.cells #[vi 12, vi 0, vi 1, .slice (some ⟨wg.heap.size, 0, none⟩) 2 2, vi 13, vi 2, vi 4, .slice (some ⟨wh.heap.size, 0, none⟩) 1 1] 50)).alloc (.cells #[vi 100, vi 280, vi 300, .slice (some ⟨wd.heap.size + 1, 0, none⟩) 2 2, vi 260, vi 450, vi 450, .slice (some ⟨wh.heap.size + 1, 0, none⟩) 2 2] 47)).cell (j := 1) rfl
  refine bodyPost_ret (v := .agg #[vi 3, .slice (some ⟨wh.heap.size + 1 + 1, 0, none⟩) 2 2]) (by simp [results, Tryd.results40, go_sem, q2, q3, q0, q1]) rfl ?_
  have HS : ∀ {b : Nat} {t : TypeId} {cs : List Value}, CellsBox wh b t cs → b ≠ w.heap.size → CellsBox ((((((wh.setCell ⟨w.heap.size, 0, none⟩ (vi 3)).setCell ⟨w.heap.size, 1, none⟩ (.slice (some ⟨wh.heap.size + 1 + 1, 0, none⟩) 2 2)).alloc (.cells #[vi 1, vi 1, vi 400, vi 50] 86)).alloc (.cells #[vi 12, vi 0, vi 1, .slice (some ⟨wg.heap.size, 0, none⟩) 2 2, vi 13, vi 2, vi 4, .slice (some ⟨wh.heap.size, 0, none⟩) 1 1] 50)).alloc (.cells #[vi 100, vi 280, vi 300, .slice (some ⟨wd.heap.size + 1, 0, none⟩) 2 2, vi 260, vi 450, vi 450, .slice (some ⟨wh.heap.size + 1, 0, none⟩) 2 2] 47))) b t cs :=
    fun h hne => (((((h.set ⟨w.heap.size, 0, none⟩ _ hne).set ⟨w.heap.size, 1, none⟩ _ hne).alloc _).alloc _).alloc _)
  have G17 := ((CellsBox.new ((wh.setCell ⟨w.heap.size, 0, none⟩ (vi 3)).setCell ⟨w.heap.size, 1, none⟩ (.slice (some ⟨wh.heap.size + 1 + 1, 0, none⟩) 2 2)) 86 [vi 1, vi 1, vi 400, vi 50]).alloc (.cells #[vi 12, vi 0, vi 1, .slice (some ⟨wg.heap.size, 0, none⟩) 2 2, vi 13, vi 2, vi 4, .slice (some ⟨wh.heap.size, 0, none⟩) 1 1] 50)).alloc (.cells #[vi 100, vi 280, vi 300, .slice (some ⟨wd.heap.size + 1, 0, none⟩) 2 2, vi 260, vi 450, vi 450, .slice (some ⟨wh.heap.size + 1, 0, none⟩) 2 2] 47)
  have G19 := (CellsBox.new (((wh.setCell ⟨w.heap.size, 0, none⟩ (vi 3)).setCell ⟨w.heap.size, 1, none⟩ (.slice (some ⟨wh.heap.size + 1 + 1, 0, none⟩) 2 2)).alloc (.cells #[vi 1, vi 1, vi 400, vi 50] 86)) 50 [vi 12, vi 0, vi 1, .slice (some ⟨wg.heap.size, 0, none⟩) 2 2, vi 13, vi 2, vi 4, .slice (some ⟨wh.heap.size, 0, none⟩) 1 1]).alloc (.cells #[vi 100, vi 280, vi 300, .slice (some ⟨wd.heap.size + 1, 0, none⟩) 2 2, vi 260, vi 450, vi 450, .slice (some ⟨wh.heap.size + 1, 0, none⟩) 2 2] 47)
  have G21 := CellsBox.new ((((wh.setCell ⟨w.heap.size, 0, none⟩ (vi 3)).setCell ⟨w.heap.size, 1, none⟩ (.slice (some ⟨wh.heap.size + 1 + 1, 0, none⟩) 2 2)).alloc (.cells #[vi 1, vi 1, vi 400, vi 50] 86)).alloc (.cells #[vi 12, vi 0, vi 1, .slice (some ⟨wg.heap.size, 0, none⟩) 2 2, vi 13, vi 2, vi 4, .slice (some ⟨wh.heap.size, 0, none⟩) 1 1] 50)) 47 [vi 100, vi 280, vi 300, .slice (some ⟨wd.heap.size + 1, 0, none⟩) 2 2, vi 260, vi 450, vi 450, .slice (some ⟨wh.heap.size + 1, 0, none⟩) 2 2]
  simp only [World.size_alloc, World.size_setCell] at G17 G19 G21
  have HFIN : Below w.heap.size w (((((wh.setCell ⟨w.heap.size, 0, none⟩ (vi 3)).setCell ⟨w.heap.size, 1, none⟩ (.slice (some ⟨wh.heap.size + 1 + 1, 0, none⟩) 2 2)).alloc (.cells #[vi 1, vi 1, vi 400, vi 50] 86)).alloc (.cells #[vi 12, vi 0, vi 1, .slice (some ⟨wg.heap.size, 0, none⟩) 2 2, vi 13, vi 2, vi 4, .slice (some ⟨wh.heap.size, 0, none⟩) 1 1] 50)).alloc (.cells #[vi 100, vi 280, vi 300, .slice (some ⟨wd.heap.size + 1, 0, none⟩) 2 2, vi 260, vi 450, vi 450, .slice (some ⟨wh.heap.size + 1, 0, none⟩) 2 2] 47)) := by (repeat (first | exact Below.refl _ _ | refine Below.setCell ?_ (by first | omega | (simp; omega) | (simp; done)) _ | refine Below.alloc ?_ (by first | omega | (simp; omega) | (simp; done)) _ | refine Below.drew ?_ | refine below_drewN ?_ _ | refine Below.trans ?_ (Below.mono (by assumption) (by first | omega | (simp; omega) | (simp; done)))))
  have G4 := HS H4 (by omega)
  have G7 := HS H7 (by omega)
  have G9 := HS H9 (by omega)
  have G14 := HS H14 (by omega)
  refine ⟨⟨wc.heap.size, wd.heap.size, wd.heap.size + 1, wg.heap.size, wh.heap.size, wh.heap.size + 1, wh.heap.size + 1 + 1⟩, rfl, ?_, HFIN⟩
  exact ⟨⟨by simp only; omega, by simp only; omega, by simp only; omega, by simp only; omega, by simp only; omega, by simp only; omega, by simp only; omega, by simp⟩, G4, G7, G9, G14, G17, G19, G21⟩
end Go.Proofs.YtpcajmkmmkmekaaDoor
