/- Contract of BookMore: it answers true. -/
import Derived.Test.YtpcajmkmmkmekaaDoorXK17
import Derived.Test.YtpcajmkmmkmekaaDoorXK13
import Derived.Test.YtpcajmkmmkmekaaDoorXB8
import Derived.Test.YtpcajmkmmkmekaaDoorXB11
import Derived.Test.YtpcajmkmmkmekaaDoorXAp
import Derived.Test.YtpcajmkmmkmekaaDoorGf
import Derived.Deep.CutRange
set_option linter.unusedVariables false
set_option linter.unusedSimpArgs false
namespace Go.Proofs.YtpcajmkmmkmekaaDoor
open Go Go.RowKit
set_option maxHeartbeats 8000000
theorem info_issue : (Tryd.prog.info? 47).map (fun i => (i.zero, i.size, i.bytes)) = some (some (.agg #[vi 0, vi 0, vi 0, .slice none 0 0]), 4, 48) := by kernel_rfl
theorem empty_one (w : World) (base : Nat) (t : TypeId) (sz : Nat) (hb : base ≤ w.heap.size) : ∃ V, V = w.alloc (.cells #[] t) ∧ Below w.heap.size w V ∧ V.ownsRow base t sz (.slice (some ⟨w.heap.size, 0, none⟩) 0 0) 0 [] ∧ w.heap.size < V.heap.size :=
  ⟨_, rfl, (Below.refl _ _).alloc (Nat.le_refl _) _, World.ownsRow_made w #[] 0 hb (by simp [maxLen]) (by simp), by simp⟩
theorem alloc_issue (w : World) (x : Issue) (t : TypeId) : ∃ V, V = w.alloc (.cells #[vi x.lo, vi x.hi, vi x.held, x.slice] t) ∧ Below w.heap.size w V ∧ ∀ (j : Nat) (u : Value), x.cells[j]? = some u → V.cell? ⟨w.heap.size, j, none⟩ = some u :=
  ⟨_, rfl, (Below.refl _ _).alloc (Nat.le_refl _) _, fun j u hj => by
    rcases j with _ | _ | _ | _ | j
    all_goals simp [Issue.cells] at hj
    all_goals subst hj
    all_goals simp [go_sem]⟩
theorem issue_news {w : World} {b : Nat} {x : Issue} (h : ∀ (j : Nat) (u : Value), x.cells[j]? = some u → w.cell? ⟨b, j, none⟩ = some u) : ∀ j u, x.cells[j]? = some u → w.cell? ((⟨b, 0, none⟩ : Addr).add j) = some u := fun j u hj => by
  have hadd : (⟨b, 0, none⟩ : Addr).add j = ⟨b, j, none⟩ := by unfold Addr.add; split <;> simp_all
  rw [hadd]
  exact h j u hj
theorem set_grown (w : World) (p : Addr) (v : Value) : w.grownBy (w.setCell p v) (some p.block) :=
  ⟨by first | rfl | simp, by first | rfl | simp, by first | rfl | simp, by simp, fun k hk hne => heap_setCell_other w p k v (fun h => hne (by rw [h]))⟩
theorem cls_grown {b : Nat} {W3 w w' : World} {row : Option Nat} {u : Value} (h : Below b W3 w ∧ (∃ v, w.cell? ⟨b, 1, none⟩ = some v) ∧ w.frozen? ⟨b, 1, none⟩ = false ∧ w.cell? ⟨b, 0, none⟩ = some u) (hg : w.grownBy w' row) (hb : b < w.heap.size) (hr : ∀ g, row = some g → b < g) :
    Below b W3 w' ∧ (∃ v, w'.cell? ⟨b, 1, none⟩ = some v) ∧ w'.frozen? ⟨b, 1, none⟩ = false ∧ w'.cell? ⟨b, 0, none⟩ = some u := by
  obtain ⟨h1, ⟨v, h2⟩, h3, h4⟩ := h
  have hne : some b ≠ row := fun e => by have := hr b e.symm; omega
  exact ⟨Below.grown h1 hg (by omega) (fun j e => by have := hr j e; omega), ⟨v, (hg.cell_far ⟨b, 1, none⟩ hb hne).trans h2⟩, (hg.frozen_far ⟨b, 1, none⟩ hb hne).trans h3, (hg.cell_far ⟨b, 0, none⟩ hb hne).trans h4⟩
/-- what is known behind the line that puts a book more into a rack -/
def MorePost (rg : Int) (ri : List Issue) (mx : Issue) (b : Nat) (W3 wx : World) : Prop := ∃ (A : Option Addr) (cap : Nat), wx.cell? ⟨b, 0, none⟩ = some (vi rg) ∧ wx.cell? ⟨b, 1, none⟩ = some (.slice A (ri.length + 1) cap) ∧ RackAt wx wx.heap.size ⟨rg, A, cap, ri ++ [mx]⟩ ∧ Below b W3 wx
set_option maxRecDepth 100000 in
theorem more_no (r : Rack) (mx : Issue) (n0 n1 n2 n3 on : Int) (w : World) (hl : Lim w) (hr : RackAt w w.heap.size r) (hv : validB r = false) :
    Calls Tryd.prog 8 #[r.val, mx.val, .agg #[vi n0, vi n1, vi n2, vi n3], vi on] w fun e w' => e = .returned (.bool true) ∧ Below w.heap.size w w' := by
  go_enter Tryd.func8, Tryd.ntmps8
  go_wp2_with (first | (go_at_call 20; refine (sound_no r _ (by repeat (first | assumption | refine Lim.alloc ?_ _ | refine Lim.setCell ?_ (by first | (simp; done) | (simp; omega) | omega) _ | refine Lim.drew ?_)) (hr.to (by (repeat (first | exact Below.refl _ _ | refine Below.setCell ?_ (by first | omega | (simp; omega) | (simp; done)) _ | refine Below.alloc ?_ (by first | omega | (simp; omega) | (simp; done)) _ | refine Below.drew ?_ | refine below_drewN ?_ _ | refine Below.trans ?_ (Below.mono (by assumption) (by first | omega | (simp; omega) | (simp; done))))))) hv).mono ?_; rintro e w1 ⟨rfl, hb1⟩; obtain ⟨⟨hc1, hf1, hs1⟩, hz1⟩ := after hb1; (try simp only [World.size_alloc, World.size_setCell, World.size_drew] at hz1); have hl1 : Lim w1 := Lim.next (by repeat (first | assumption | refine Lim.alloc ?_ _ | refine Lim.setCell ?_ (by first | (simp; done) | (simp; omega) | omega) _ | refine Lim.drew ?_)) hb1) | (go_at_call 19; refine (works_any _ (by repeat (first | assumption | refine Lim.alloc ?_ _ | refine Lim.setCell ?_ (by first | (simp; done) | (simp; omega) | omega) _ | refine Lim.drew ?_))).mono ?_; rintro e w1 ⟨rfl, hb1⟩; obtain ⟨⟨hc1, hf1, hs1⟩, hz1⟩ := after hb1; (try simp only [World.size_alloc, World.size_setCell, World.size_drew] at hz1); have hl1 : Lim w1 := Lim.next (by repeat (first | assumption | refine Lim.alloc ?_ _ | refine Lim.setCell ?_ (by first | (simp; done) | (simp; omega) | omega) _ | refine Lim.drew ?_)) hb1))
  go_ret
  refine ⟨rfl, ?_⟩
  (repeat (first | exact Below.refl _ _ | refine Below.setCell ?_ (by first | omega | (simp; omega) | (simp; done)) _ | refine Below.alloc ?_ (by first | omega | (simp; omega) | (simp; done)) _ | refine Below.drew ?_ | refine below_drewN ?_ _ | refine Below.trans ?_ (Below.mono (by assumption) (by first | omega | (simp; omega) | (simp; done)))))
set_option maxRecDepth 100000 in
theorem more_yes (r : Rack) (mx : Issue) (n0 n1 n2 n3 on : Int) (w : World) (hl : Lim w) (hr : RackAt w w.heap.size r) (hv : validB r = true) (hmx : IssueAt w w.heap.size mx)
    (a0 : -9223372036854775808 ≤ n0) (a1 : n0 ≤ 9223372036854775807) (b0 : -9223372036854775808 ≤ n1) (b1 : n1 ≤ 9223372036854775807)
    (d0 : -9223372036854775808 ≤ n2) (d1 : n2 ≤ 9223372036854775807) (e0 : -9223372036854775808 ≤ n3) (e1 : n3 ≤ 9223372036854775807)
    (f0 : -9223372036854775808 ≤ on) (f1 : on ≤ 9223372036854775807) :
    Calls Tryd.prog 8 #[r.val, mx.val, .agg #[vi n0, vi n1, vi n2, vi n3], vi on] w fun e w' => e = .returned (.bool true) ∧ Below w.heap.size w w' := by
  have hok := rack_ok hv
  have hn1 := hok.n1
  have hn2 := hok.n2
  obtain ⟨k, x, g1, g2, g3, g4⟩ := some_at hok n0
  have hxo := hok.issues x (List.mem_of_getElem? g4)
  have hxd1 := hxo.d1
  have hxh1 := hxo.h1
  have hxh2 := hxo.h2
  obtain ⟨t0, t1⟩ := lot_range (n := on) hxh1
  obtain ⟨dd, hdd⟩ : ∃ dd, dd = lotI x.lo x.held on := ⟨_, rfl⟩
  rw [← hdd] at t0 t1
  obtain ⟨s0, s1⟩ := spin_range on 30 (by omega)
  obtain ⟨sp, hsp⟩ : ∃ sp, sp = spinI on 30 := ⟨_, rfl⟩
  rw [← hsp] at s0 s1
  obtain ⟨nn, hnn⟩ : ∃ nn, nn = 1 + sp := ⟨_, rfl⟩
  obtain ⟨IT, hIT⟩ : ∃ IT, IT = someT r n0 n1 n2 n3 := ⟨_, rfl⟩
  have SA : ∀ W : World, RackAt W W.heap.size r → Calls Tryd.prog 29 #[r.val, .agg #[vi n0, vi n1, vi n2, vi n3]] W fun e w' => e = .returned (.tuple #[IT.val, vi (k : Nat)]) ∧ Below W.heap.size W w' := fun W h => by
    have := some_any r n0 n1 n2 n3 W h hok a0 a1 b0 b1 d0 d1 e0 e1
    rwa [← hIT, g2] at this
  have hio := someT_ok hok n0 n1 n2 n3
  rw [← hIT] at hio
  have HM := Lib.hid (fun (X : Rack) hg hx => more_ask (x := X) (m := mx) hv hg hx (d := dd) (n := nn) (by omega) (by omega) (by omega) (by omega) hio)
  have HMS := Lib.hid (means_span hv (a := dd) (b := dd) (n := nn) (by omega) (by omega) (Int.le_refl _) (by omega) (by omega))
  have HPA := Lib.hid (price_ask hv (d := dd) (by omega) (by omega) hio)
  have HDD := Lib.hid hdd.symm
  have HSP := Lib.hid hsp.symm
  have HNN := Lib.hid hnn
  have HS := Lib.hid SA
  have HG4 := Lib.hid g4
  clear hok hIT SA hio hdd hsp hxo g1 g2 g4 hnn
  obtain ⟨xlo, xhi, xhd, xA', xc', xl⟩ := x
  simp only at hxd1 hxh1 hxh2 HDD t0 t1
  obtain ⟨rg, rA, rcap, ri⟩ := r
  obtain ⟨ig, is, ic⟩ := IT
  have hri : IssuesAt w w.heap.size rA rcap ri := hr
  have rc1 := hri.cap
  have rc2 := hri.len
  have rf1 := hri.few
  simp only at hn1 hn2 HM HMS g3
  have HG : Hid (ri[k]? = some ⟨xlo, xhi, xhd, xA', xc', xl⟩) := HG4.out
  obtain ⟨bb, off, hrA, hbb⟩ : ∃ bb off, rA = some ⟨bb, off, none⟩ ∧ bb < w.heap.size := by
    obtain ⟨b, o, e, h, _⟩ := hri.row (by rw [List.length_map]; omega)
    exact ⟨b, o, e, h⟩
  subst hrA
  obtain ⟨mlo, mhi, mhd, mA, mcap, ml⟩ := mx
  by_cases h4 : ri.length = 4
  · have HQ := Lib.hid h4
    clear h4
    show Calls Tryd.prog 8 #[.agg #[vi rg, .slice (some ⟨bb, off, none⟩) ri.length rcap], .agg #[vi mlo, vi mhi, vi mhd, .slice mA ml.length mcap], .agg #[vi n0, vi n1, vi n2, vi n3], vi on] w _
    go_enter Tryd.func8, Tryd.ntmps8
    go_wp2_with fail
    refine (sound_yes ⟨rg, some ⟨bb, off, none⟩, rcap, ri⟩ _ (by repeat (first | assumption | refine Lim.alloc ?_ _ | refine Lim.setCell ?_ (by first | (simp; done) | (simp; omega) | omega) _ | refine Lim.drew ?_)) (hr.to (by (repeat (first | exact Below.refl _ _ | refine Below.setCell ?_ (by first | omega | (simp; omega) | (simp; done)) _ | refine Below.alloc ?_ (by first | omega | (simp; omega) | (simp; done)) _ | refine Below.drew ?_ | refine below_drewN ?_ _ | refine Below.trans ?_ (Below.mono (by assumption) (by first | omega | (simp; omega) | (simp; done))))))) hv).mono ?_
    rintro e W ⟨rfl, hb⟩
    have HB0 : Below w.heap.size w W := by (repeat (first | exact Below.refl _ _ | refine Below.setCell ?_ (by first | omega | (simp; omega) | (simp; done)) _ | refine Below.alloc ?_ (by first | omega | (simp; omega) | (simp; done)) _ | refine Below.drew ?_ | refine below_drewN ?_ _ | refine Below.trans ?_ (Below.mono (by assumption) (by first | omega | (simp; omega) | (simp; done)))))
    have c0 : W.cell? ⟨w.heap.size, 0, none⟩ = some (vi rg) := cell_keep hb (by simp [go_sem])
    have c1 : W.cell? ⟨w.heap.size, 1, none⟩ = some (.slice (some ⟨bb, off, none⟩) ri.length rcap) := cell_keep hb (by simp [go_sem])
    have hq : ((ri.length : Int) == 4) = true := by have := HQ.out; simp; omega
    clear hb
    go_wp2_with (go_at_call 19; refine (works_any _ (hl.next HB0)).mono ?_; rintro e w9 ⟨rfl, hb10⟩)
    go_ret
    exact ⟨rfl, HB0.trans (hb10.mono HB0.size)⟩
  have hq0 : ((ri.length : Int) == 4) = false := by simp; omega
  have HQ := Lib.hid hq0
  have hn3 : ri.length ≤ 3 := by omega
  clear h4 hq0
  obtain ⟨i0, hi, hy0, hy1, hy2⟩ := info_parts info_issue
  show Calls Tryd.prog 8 #[.agg #[vi rg, .slice (some ⟨bb, off, none⟩) ri.length rcap], .agg #[vi mlo, vi mhi, vi mhd, .slice mA ml.length mcap], .agg #[vi n0, vi n1, vi n2, vi n3], vi on] w _
  go_enter Tryd.func8, Tryd.ntmps8
  go_wp2_with fail
  refine (sound_yes ⟨rg, some ⟨bb, off, none⟩, rcap, ri⟩ _ (by repeat (first | assumption | refine Lim.alloc ?_ _ | refine Lim.setCell ?_ (by first | (simp; done) | (simp; omega) | omega) _ | refine Lim.drew ?_)) (hr.to (by (repeat (first | exact Below.refl _ _ | refine Below.setCell ?_ (by first | omega | (simp; omega) | (simp; done)) _ | refine Below.alloc ?_ (by first | omega | (simp; omega) | (simp; done)) _ | refine Below.drew ?_ | refine below_drewN ?_ _ | refine Below.trans ?_ (Below.mono (by assumption) (by first | omega | (simp; omega) | (simp; done))))))) hv).mono ?_
  rintro e W ⟨rfl, hb⟩
  have HB0 : Below w.heap.size w W := by (repeat (first | exact Below.refl _ _ | refine Below.setCell ?_ (by first | omega | (simp; omega) | (simp; done)) _ | refine Below.alloc ?_ (by first | omega | (simp; omega) | (simp; done)) _ | refine Below.drew ?_ | refine below_drewN ?_ _ | refine Below.trans ?_ (Below.mono (by assumption) (by first | omega | (simp; omega) | (simp; done)))))
  have c0 : W.cell? ⟨w.heap.size, 0, none⟩ = some (vi rg) := cell_keep hb (by simp [go_sem])
  have c1 : W.cell? ⟨w.heap.size, 1, none⟩ = some (.slice (some ⟨bb, off, none⟩) ri.length rcap) := cell_keep hb (by simp [go_sem])
  have x0 : W.cell? ⟨w.heap.size + 1, 0, none⟩ = some (vi mlo) := cell_keep hb (by simp [go_sem])
  have x1 : W.cell? ⟨w.heap.size + 1, 1, none⟩ = some (vi mhi) := cell_keep hb (by simp [go_sem])
  have x2 : W.cell? ⟨w.heap.size + 1, 2, none⟩ = some (vi mhd) := cell_keep hb (by simp [go_sem])
  have x3 : W.cell? ⟨w.heap.size + 1, 3, none⟩ = some (.slice mA ml.length mcap) := cell_keep hb (by simp [go_sem])
  have m0 : W.cell? ⟨w.heap.size + 1 + 1, 0, none⟩ = some (vi n0) := cell_keep hb (by simp [go_sem])
  have m1 : W.cell? ⟨w.heap.size + 1 + 1, 1, none⟩ = some (vi n1) := cell_keep hb (by simp [go_sem])
  have m2 : W.cell? ⟨w.heap.size + 1 + 1, 2, none⟩ = some (vi n2) := cell_keep hb (by simp [go_sem])
  have m3 : W.cell? ⟨w.heap.size + 1 + 1, 3, none⟩ = some (vi n3) := cell_keep hb (by simp [go_sem])
  have z0 : w.heap.size + 1 + 1 < W.heap.size := cell_lt m0
  clear hb
  have hq := HQ.out
  go_upto_region 4 with fail
  clear hq
  obtain ⟨W3, hW3⟩ : ∃ W3, W3 = W.alloc (.cells #[vi rg, .slice (some ⟨bb, off, none⟩) ri.length rcap] 24) := ⟨_, rfl⟩
  have hb3 : Below W.heap.size W W3 := by rw [hW3]; exact (Below.refl _ _).alloc (Nat.le_refl _) _
  have X0 : W3.cell? ⟨W.heap.size, 0, none⟩ = some (vi rg) := by rw [hW3]; simp [go_sem]
  have X1 : W3.cell? ⟨W.heap.size, 1, none⟩ = some (.slice (some ⟨bb, off, none⟩) ri.length rcap) := by rw [hW3]; simp [go_sem]
  have XF : W3.frozen? ⟨W.heap.size, 1, none⟩ = false := by rw [hW3]; simp [go_sem]
  have zW3 : W.heap.size < W3.heap.size := cell_lt X0
  rw [← hW3]
  clear hW3
  have HB3 : Below w.heap.size w W3 := HB0.trans (hb3.mono HB0.size)
  have c03 := cell_keep hb3 c0
  have c13 := cell_keep hb3 c1
  have x03 := cell_keep hb3 x0
  have x13 := cell_keep hb3 x1
  have x23 := cell_keep hb3 x2
  have x33 := cell_keep hb3 x3
  go_cut [38] from 32 to 39 (fun s38 wx => MorePost rg ri ⟨mlo, mhi, mhd, mA, mcap, ml⟩ W.heap.size W3 wx)
  case first =>
    have FIN : Hid (∀ (g6 c6 : Nat) (Wf : World), Below W.heap.size W3 Wf → Wf.cell? ⟨W.heap.size, 0, none⟩ = some (vi rg) → Wf.cell? ⟨W.heap.size, 1, none⟩ = some (.slice (some ⟨g6, 0, none⟩) (ri.length + 1) c6) → Wf.ownsRow W3.heap.size 47 4 (.slice (some ⟨g6, 0, none⟩) (ri.length + 1) c6) (ri.length + 1) ((ri.map Issue.cells).flatten ++ (Issue.cells ⟨mlo, mhi, mhd, mA, mcap, ml⟩)) → MorePost rg ri ⟨mlo, mhi, mhd, mA, mcap, ml⟩ W.heap.size W3 Wf) := by
      intro g6 c6 Wf h1 h2 h3 h4
      refine ⟨some ⟨g6, 0, none⟩, c6, h2, h3, ?_, h1⟩
      have HBf : Below w.heap.size w Wf := HB3.trans (h1.mono (by omega))
      obtain ⟨A', c', e', l1, l2⟩ := own_form h4
      simp only [Value.slice.injEq] at e'
      obtain ⟨-, -, rfl⟩ := e'
      have hmx63 : maxLen = 9223372036854775807 := by decide
      refine ⟨by simpa using l1, Nat.le_trans l2 (Nat.le_of_eq hmx63), by simp; omega, ?_, ?_⟩
      · refine row_of_own (e := 47) (base := W3.heap.size) (n := ri.length + 1) (cap := c6) (by intro r hr; obtain ⟨p, _, rfl⟩ := List.mem_map.1 hr; rfl) ?_
        simpa using h4
      · intro y hy
        rcases List.mem_append.1 hy with hy | hy
        · exact (hri.to HBf).each y hy
        · rw [List.mem_singleton] at hy
          subst hy
          exact EntriesAt.to hmx HBf
    have hst : Stays (fun w' => Below W.heap.size W3 w' ∧ (∃ v, w'.cell? ⟨W.heap.size, 1, none⟩ = some v) ∧ w'.frozen? ⟨W.heap.size, 1, none⟩ = false ∧ w'.cell? ⟨W.heap.size, 0, none⟩ = some (vi rg)) := fun x y hx hxy => by
      obtain ⟨h1, ⟨v, h2⟩, h3, h4⟩ := hx
      exact ⟨h1.trans (hxy.mono (by have := h1.size; omega)), ⟨v, cell_keep hxy h2⟩, soft_keep hxy (cell_lt h2) h3, cell_keep hxy h4⟩
    refine' wp_region_box (fun w' => Below W.heap.size W3 w' ∧ (∃ v, w'.cell? ⟨W.heap.size, 1, none⟩ = some v) ∧ w'.frozen? ⟨W.heap.size, 1, none⟩ = false ∧ w'.cell? ⟨W.heap.size, 0, none⟩ = some (vi rg)) hst [1, 2, 4] 6 152 (by kernel_rfl) (by kernel_rfl) rfl (by kernel_rfl) (by kernel_rfl) rfl (by kernel_rfl) ?hl4 ⟨Below.refl _ _, ⟨_, X1⟩, XF, X0⟩ ?hq4 ?hr4
    case hl4 =>
      simp only [List.map_cons, List.map_nil, List.getD_cons_zero, List.getD_cons_succ]
      exact rfl
    case hq4 =>
      rintro w0 ⟨hw0, -, -, u9⟩
      have u0 : w0.cell? ⟨w.heap.size, 0, none⟩ = some (vi rg) := (hw0.cell (by simp only; omega)).trans c03
      have u1 : w0.cell? ⟨w.heap.size, 1, none⟩ = some (.slice (some ⟨bb, off, none⟩) ri.length rcap) := (hw0.cell (by simp only; omega)).trans c13
      have u2 : w0.cell? ⟨w.heap.size + 1, 0, none⟩ = some (vi mlo) := (hw0.cell (by simp only; omega)).trans x03
      have u3 : w0.cell? ⟨w.heap.size + 1, 1, none⟩ = some (vi mhi) := (hw0.cell (by simp only; omega)).trans x13
      have u4 : w0.cell? ⟨w.heap.size + 1, 2, none⟩ = some (vi mhd) := (hw0.cell (by simp only; omega)).trans x23
      have u5 : w0.cell? ⟨w.heap.size + 1, 3, none⟩ = some (.slice mA ml.length mcap) := (hw0.cell (by simp only; omega)).trans x33
      have v1 : w.heap.size < w0.heap.size := cell_lt u0
      have v2 : w.heap.size + 1 < w0.heap.size := cell_lt u2
      have v3 : W.heap.size < w0.heap.size := cell_lt u9
      (repeat (go_big_quiet_step (fail)))
      exact wpQuiet_nil rfl
    refine wpUp_two (i := 0) (j := 5) (by kernel_rfl) rfl rfl rfl rfl (fun w1 h1 h2 K hK => ?_) (fun w1 h1 h2 K hK => ?_)
    · skip
      go_simp
      obtain ⟨V0, hV0, hbV0, own0, hl0⟩ := empty_one w1 W3.heap.size 47 4 (h1).size
      rw [← hV0]
      clear hV0
      have own0lt : ∀ g, (Value.slice (some ⟨w1.heap.size, 0, none⟩) 0 0).ownBlock = some g → W3.heap.size ≤ g := fun g a => by simp only [Value.ownBlock, Option.some.injEq] at a; have := (h1).size; omega
      have GV0 : Below W3.heap.size W3 V0 := gr_trans (h1) hbV0
      refine hK _ _ (hst _ _ h2 hbV0) ?_
      refine wpUp_two (i := 3) (j := 5) (by kernel_rfl) rfl rfl rfl rfl (fun w3 h3 h4 K3 hK3 => ?_) (fun w3 h3 h4 K3 hK3 => ?_)
      · skip
        have GW := gr_trans GV0 h3
        refine wp_append_lies w3 _ _ _ (by rfl) W3.heap.size 47 i0 _ 4 48 Tryd.underlying22 hi hy0 hy1 hy2 rfl (by omega) _ 0 [] (by rfl) (own_keep own0 h3) ⟨bb, off, none⟩ ri.length rcap (ri.map Issue.cells).flatten (by rfl) (issues_len ri) (row_news (hri.below (HB3.trans (GW.mono (by omega)))).row (by intro r hr; obtain ⟨p, _, rfl⟩ := List.mem_map.1 hr; rfl)) (issues_one ri) (by omega) (by unfold maxLen; omega) (by omega) (GW).size _ rfl ?_
        intro g3 c3 w4 own4 hg4 hat4 hl4
        simp only [Act.put, List.setIfInBounds_toArray, List.set_cons_zero, List.set_cons_succ, Nat.zero_add, List.nil_append] at own4 ⊢
        have zb4 : W.heap.size < w3.heap.size := by have := (GW).size; omega
        have C4 : Below W.heap.size W3 w4 ∧ (∃ v, w4.cell? ⟨W.heap.size, 1, none⟩ = some v) ∧ w4.frozen? ⟨W.heap.size, 1, none⟩ = false ∧ w4.cell? ⟨W.heap.size, 0, none⟩ = some (vi rg) := cls_grown h4 hg4 zb4 (fun g a => by have := own0lt g a; omega)
        refine hK3 _ _ C4 ?_
        have hg3 : W3.heap.size ≤ g3 := by
          rcases hat4 with q | q
          · exact own0lt _ q
          · have := (GW).size; omega
        have own4lt : W3.heap.size ≤ w4.heap.size := by have := (GW).size; have := hg4.size; omega
        refine wpUp_one (i := 5) (by kernel_rfl) rfl rfl (fun w5 h5 h6 K5 hK5 => ?_)
        go_simp
        obtain ⟨V5, hV5, hbV5, NC⟩ := alloc_issue w5 ⟨mlo, mhi, mhd, mA, mcap, ml⟩ 47
        rw [← hV5]
        clear hV5
        refine hK5 _ _ (hst _ _ h6 hbV5) ?_
        refine wpUp_one (i := 6) (by kernel_rfl) rfl rfl (fun w7 h7 h8 K7 hK7 => ?_)
        have G47 := gr_trans (gr_trans h5 hbV5) h7
        refine wp_append_lies w7 _ _ _ (by rfl) W3.heap.size 47 i0 _ 4 48 Tryd.underlying22 hi hy0 hy1 hy2 rfl (by omega) (.slice (some ⟨g3, 0, none⟩) ri.length c3) ri.length _ (by rfl) (own_keep own4 (G47)) ⟨w5.heap.size, 0, none⟩ 1 1 (Issue.cells ⟨mlo, mhi, mhd, mA, mcap, ml⟩) (by rfl) (by rfl) (issue_news (fun j u hj => cell_keep h7 (NC j u hj))) (by intro u hu; simp only [Issue.cells, List.mem_cons, List.not_mem_nil, or_false] at hu; rcases hu with rfl | rfl | rfl | rfl <;> rfl) (by omega) (by unfold maxLen; omega) (by omega) (by have := own4lt; have := (G47).size; omega) _ rfl ?_
        intro g6 c6 w6 own6 hg6 hat6 hl6
        simp only [Act.put, List.setIfInBounds_toArray, List.set_cons_zero, List.set_cons_succ]
        have zb6 : W.heap.size < w7.heap.size := by have := own4lt; have := (G47).size; omega
        have C6 : Below W.heap.size W3 w6 ∧ (∃ v, w6.cell? ⟨W.heap.size, 1, none⟩ = some v) ∧ w6.frozen? ⟨W.heap.size, 1, none⟩ = false ∧ w6.cell? ⟨W.heap.size, 0, none⟩ = some (vi rg) := cls_grown h8 hg6 zb6 (fun g a => by simp only [Value.ownBlock, Option.some.injEq] at a; have := hg3; omega)
        refine hK7 _ _ C6 ?_
        refine wpUp_one (i := 7) (by kernel_rfl) rfl rfl (fun w9 h91 h92 K9 hK9 => ?_)
        go_simp
        refine hK9 _ _ h92 ?_
        refine wpUp_one (i := 8) (by kernel_rfl) rfl rfl (fun w8 h80 h82 K8 hK8 => ?_)
        have h81 := gr_trans h91 h80
        obtain ⟨C80, ⟨xv, C81⟩, C82, C83⟩ := h82
        go_simp
        have zb8 : W.heap.size < w8.heap.size := cell_lt C83
        have g6ne : ∀ g, some W.heap.size = some g → (Value.slice (some ⟨g6, 0, none⟩) (ri.length + 1) c6).ownBlock = some g → False := fun g a b => by
          simp only [Value.ownBlock, Option.some.injEq] at a b
          rcases hat6 with q | q
          · simp only [Value.ownBlock, Option.some.injEq] at q; have := hg3; omega
          · omega
        have own8 := own_far (own_keep own6 h81) (set_grown w8 ⟨W.heap.size, 1, none⟩ (.slice (some ⟨g6, 0, none⟩) (ri.length + 1) c6)) g6ne
        obtain ⟨Y, hY⟩ : ∃ Y, Y = w8.setCell ⟨W.heap.size, 1, none⟩ (.slice (some ⟨g6, 0, none⟩) (ri.length + 1) c6) := ⟨_, rfl⟩
        have Y0 : Y.cell? ⟨W.heap.size, 0, none⟩ = some (vi rg) := by rw [hY]; simp [go_sem, C83]
        have Y1 : Y.cell? ⟨W.heap.size, 1, none⟩ = some (.slice (some ⟨g6, 0, none⟩) (ri.length + 1) c6) := by rw [hY]; simp [go_sem, C81]
        have YB : Below W.heap.size W3 Y := by rw [hY]; exact C80.setCell (Nat.le_refl _) _
        have YF : Y.frozen? ⟨W.heap.size, 1, none⟩ = false := by rw [hY]; simp [go_sem, C82]
        rw [← hY] at own8 ⊢
        clear hY
        refine hK8 _ _ ⟨YB, ⟨_, Y1⟩, YF, Y0⟩ (wpUp_done (by kernel_rfl) (fun Wf a5 a6 => NoPanic.normal ?_))
        go_wp2_with fail
        go_meet
        exact FIN.out g6 c6 Wf (YB.trans (a5.mono (by have := YB.size; omega))) (cell_keep a5 Y0) (cell_keep a5 Y1) (own_keep own8 a5)
      · skip
        go_simp
        obtain ⟨V5, hV5, hbV5, NC⟩ := alloc_issue w3 ⟨mlo, mhi, mhd, mA, mcap, ml⟩ 47
        rw [← hV5]
        clear hV5
        have GV5 : Below W3.heap.size W3 V5 := gr_trans (gr_trans GV0 h3) hbV5
        refine hK3 _ _ (hst _ _ h4 hbV5) ?_
        refine wpUp_one (i := 3) (by kernel_rfl) rfl rfl (fun w5 h5 h6 K5 hK5 => ?_)
        have GW := gr_trans GV5 h5
        refine wp_append_lies w5 _ _ _ (by rfl) W3.heap.size 47 i0 _ 4 48 Tryd.underlying22 hi hy0 hy1 hy2 rfl (by omega) _ 0 [] (by rfl) (own_keep own0 (gr_trans (gr_trans h3 hbV5) h5)) ⟨bb, off, none⟩ ri.length rcap (ri.map Issue.cells).flatten (by rfl) (issues_len ri) (row_news (hri.below (HB3.trans (GW.mono (by omega)))).row (by intro r hr; obtain ⟨p, _, rfl⟩ := List.mem_map.1 hr; rfl)) (issues_one ri) (by omega) (by unfold maxLen; omega) (by omega) (GW).size _ rfl ?_
        intro g3 c3 w4 own4 hg4 hat4 hl4
        simp only [Act.put, List.setIfInBounds_toArray, List.set_cons_zero, List.set_cons_succ, Nat.zero_add, List.nil_append] at own4 ⊢
        have zb4 : W.heap.size < w5.heap.size := by have := (GW).size; omega
        have C4 : Below W.heap.size W3 w4 ∧ (∃ v, w4.cell? ⟨W.heap.size, 1, none⟩ = some v) ∧ w4.frozen? ⟨W.heap.size, 1, none⟩ = false ∧ w4.cell? ⟨W.heap.size, 0, none⟩ = some (vi rg) := cls_grown h6 hg4 zb4 (fun g a => by have := own0lt g a; omega)
        refine hK5 _ _ C4 ?_
        have hg3 : W3.heap.size ≤ g3 := by
          rcases hat4 with q | q
          · exact own0lt _ q
          · have := (GW).size; omega
        have own4lt : W3.heap.size ≤ w4.heap.size := by have := (GW).size; have := hg4.size; omega
        refine wpUp_one (i := 6) (by kernel_rfl) rfl rfl (fun w7 h7 h8 K7 hK7 => ?_)
        refine wp_append_lies w7 _ _ _ (by rfl) W3.heap.size 47 i0 _ 4 48 Tryd.underlying22 hi hy0 hy1 hy2 rfl (by omega) (.slice (some ⟨g3, 0, none⟩) ri.length c3) ri.length _ (by rfl) (own_keep own4 (h7)) ⟨w3.heap.size, 0, none⟩ 1 1 (Issue.cells ⟨mlo, mhi, mhd, mA, mcap, ml⟩) (by rfl) (by rfl) (issue_news (fun j u hj => cell_keep h7 ((hg4.cell_far _ (cell_lt (cell_keep h5 (NC j u hj))) (fun he => by simp only [Value.ownBlock, Option.some.injEq] at he; have := h3.size; omega)).trans (cell_keep h5 (NC j u hj))))) (by intro u hu; simp only [Issue.cells, List.mem_cons, List.not_mem_nil, or_false] at hu; rcases hu with rfl | rfl | rfl | rfl <;> rfl) (by omega) (by unfold maxLen; omega) (by omega) (by have := own4lt; have := (h7).size; omega) _ rfl ?_
        intro g6 c6 w6 own6 hg6 hat6 hl6
        simp only [Act.put, List.setIfInBounds_toArray, List.set_cons_zero, List.set_cons_succ]
        have zb6 : W.heap.size < w7.heap.size := by have := own4lt; have := (h7).size; omega
        have C6 : Below W.heap.size W3 w6 ∧ (∃ v, w6.cell? ⟨W.heap.size, 1, none⟩ = some v) ∧ w6.frozen? ⟨W.heap.size, 1, none⟩ = false ∧ w6.cell? ⟨W.heap.size, 0, none⟩ = some (vi rg) := cls_grown h8 hg6 zb6 (fun g a => by simp only [Value.ownBlock, Option.some.injEq] at a; have := hg3; omega)
        refine hK7 _ _ C6 ?_
        refine wpUp_one (i := 7) (by kernel_rfl) rfl rfl (fun w9 h91 h92 K9 hK9 => ?_)
        go_simp
        refine hK9 _ _ h92 ?_
        refine wpUp_one (i := 8) (by kernel_rfl) rfl rfl (fun w8 h80 h82 K8 hK8 => ?_)
        have h81 := gr_trans h91 h80
        obtain ⟨C80, ⟨xv, C81⟩, C82, C83⟩ := h82
        go_simp
        have zb8 : W.heap.size < w8.heap.size := cell_lt C83
        have g6ne : ∀ g, some W.heap.size = some g → (Value.slice (some ⟨g6, 0, none⟩) (ri.length + 1) c6).ownBlock = some g → False := fun g a b => by
          simp only [Value.ownBlock, Option.some.injEq] at a b
          rcases hat6 with q | q
          · simp only [Value.ownBlock, Option.some.injEq] at q; have := hg3; omega
          · omega
        have own8 := own_far (own_keep own6 h81) (set_grown w8 ⟨W.heap.size, 1, none⟩ (.slice (some ⟨g6, 0, none⟩) (ri.length + 1) c6)) g6ne
        obtain ⟨Y, hY⟩ : ∃ Y, Y = w8.setCell ⟨W.heap.size, 1, none⟩ (.slice (some ⟨g6, 0, none⟩) (ri.length + 1) c6) := ⟨_, rfl⟩
        have Y0 : Y.cell? ⟨W.heap.size, 0, none⟩ = some (vi rg) := by rw [hY]; simp [go_sem, C83]
        have Y1 : Y.cell? ⟨W.heap.size, 1, none⟩ = some (.slice (some ⟨g6, 0, none⟩) (ri.length + 1) c6) := by rw [hY]; simp [go_sem, C81]
        have YB : Below W.heap.size W3 Y := by rw [hY]; exact C80.setCell (Nat.le_refl _) _
        have YF : Y.frozen? ⟨W.heap.size, 1, none⟩ = false := by rw [hY]; simp [go_sem, C82]
        rw [← hY] at own8 ⊢
        clear hY
        refine hK8 _ _ ⟨YB, ⟨_, Y1⟩, YF, Y0⟩ (wpUp_done (by kernel_rfl) (fun Wf a5 a6 => NoPanic.normal ?_))
        go_wp2_with fail
        go_meet
        exact FIN.out g6 c6 Wf (YB.trans (a5.mono (by have := YB.size; omega))) (cell_keep a5 Y0) (cell_keep a5 Y1) (own_keep own8 a5)
    · skip
      go_simp
      obtain ⟨V5, hV5, hbV5, NC⟩ := alloc_issue w1 ⟨mlo, mhi, mhd, mA, mcap, ml⟩ 47
      rw [← hV5]
      clear hV5
      have GV5 : Below W3.heap.size W3 V5 := gr_trans (h1) hbV5
      refine hK _ _ (hst _ _ h2 hbV5) ?_
      refine wpUp_one (i := 0) (by kernel_rfl) rfl rfl (fun w3 h3 h4 K3 hK3 => ?_)
      go_simp
      obtain ⟨V0, hV0, hbV0, own0, hl0⟩ := empty_one w3 W3.heap.size 47 4 (gr_trans GV5 h3).size
      rw [← hV0]
      clear hV0
      have own0lt : ∀ g, (Value.slice (some ⟨w3.heap.size, 0, none⟩) 0 0).ownBlock = some g → W3.heap.size ≤ g := fun g a => by simp only [Value.ownBlock, Option.some.injEq] at a; have := (gr_trans GV5 h3).size; omega
      have GV0 : Below W3.heap.size W3 V0 := gr_trans (gr_trans GV5 h3) hbV0
      refine hK3 _ _ (hst _ _ h4 hbV0) ?_
      refine wpUp_one (i := 3) (by kernel_rfl) rfl rfl (fun w5 h5 h6 K5 hK5 => ?_)
      have GW := gr_trans GV0 h5
      refine wp_append_lies w5 _ _ _ (by rfl) W3.heap.size 47 i0 _ 4 48 Tryd.underlying22 hi hy0 hy1 hy2 rfl (by omega) _ 0 [] (by rfl) (own_keep own0 h5) ⟨bb, off, none⟩ ri.length rcap (ri.map Issue.cells).flatten (by rfl) (issues_len ri) (row_news (hri.below (HB3.trans (GW.mono (by omega)))).row (by intro r hr; obtain ⟨p, _, rfl⟩ := List.mem_map.1 hr; rfl)) (issues_one ri) (by omega) (by unfold maxLen; omega) (by omega) (GW).size _ rfl ?_
      intro g3 c3 w4 own4 hg4 hat4 hl4
      simp only [Act.put, List.setIfInBounds_toArray, List.set_cons_zero, List.set_cons_succ, Nat.zero_add, List.nil_append] at own4 ⊢
      have zb4 : W.heap.size < w5.heap.size := by have := (GW).size; omega
      have C4 : Below W.heap.size W3 w4 ∧ (∃ v, w4.cell? ⟨W.heap.size, 1, none⟩ = some v) ∧ w4.frozen? ⟨W.heap.size, 1, none⟩ = false ∧ w4.cell? ⟨W.heap.size, 0, none⟩ = some (vi rg) := cls_grown h6 hg4 zb4 (fun g a => by have := own0lt g a; omega)
      refine hK5 _ _ C4 ?_
      have hg3 : W3.heap.size ≤ g3 := by
        rcases hat4 with q | q
        · exact own0lt _ q
        · have := (GW).size; omega
      have own4lt : W3.heap.size ≤ w4.heap.size := by have := (GW).size; have := hg4.size; omega
      refine wpUp_one (i := 6) (by kernel_rfl) rfl rfl (fun w7 h7 h8 K7 hK7 => ?_)
      refine wp_append_lies w7 _ _ _ (by rfl) W3.heap.size 47 i0 _ 4 48 Tryd.underlying22 hi hy0 hy1 hy2 rfl (by omega) (.slice (some ⟨g3, 0, none⟩) ri.length c3) ri.length _ (by rfl) (own_keep own4 (h7)) ⟨w1.heap.size, 0, none⟩ 1 1 (Issue.cells ⟨mlo, mhi, mhd, mA, mcap, ml⟩) (by rfl) (by rfl) (issue_news (fun j u hj => cell_keep h7 ((hg4.cell_far _ (cell_lt (cell_keep (gr_trans (gr_trans h3 hbV0) h5) (NC j u hj))) (fun he => by simp only [Value.ownBlock, Option.some.injEq] at he; have := cell_lt (cell_keep h3 (NC 0 _ rfl)); simp only at this; omega)).trans (cell_keep (gr_trans (gr_trans h3 hbV0) h5) (NC j u hj))))) (by intro u hu; simp only [Issue.cells, List.mem_cons, List.not_mem_nil, or_false] at hu; rcases hu with rfl | rfl | rfl | rfl <;> rfl) (by omega) (by unfold maxLen; omega) (by omega) (by have := own4lt; have := (h7).size; omega) _ rfl ?_
      intro g6 c6 w6 own6 hg6 hat6 hl6
      simp only [Act.put, List.setIfInBounds_toArray, List.set_cons_zero, List.set_cons_succ]
      have zb6 : W.heap.size < w7.heap.size := by have := own4lt; have := (h7).size; omega
      have C6 : Below W.heap.size W3 w6 ∧ (∃ v, w6.cell? ⟨W.heap.size, 1, none⟩ = some v) ∧ w6.frozen? ⟨W.heap.size, 1, none⟩ = false ∧ w6.cell? ⟨W.heap.size, 0, none⟩ = some (vi rg) := cls_grown h8 hg6 zb6 (fun g a => by simp only [Value.ownBlock, Option.some.injEq] at a; have := hg3; omega)
      refine hK7 _ _ C6 ?_
      refine wpUp_one (i := 7) (by kernel_rfl) rfl rfl (fun w9 h91 h92 K9 hK9 => ?_)
      go_simp
      refine hK9 _ _ h92 ?_
      refine wpUp_one (i := 8) (by kernel_rfl) rfl rfl (fun w8 h80 h82 K8 hK8 => ?_)
      have h81 := gr_trans h91 h80
      obtain ⟨C80, ⟨xv, C81⟩, C82, C83⟩ := h82
      go_simp
      have zb8 : W.heap.size < w8.heap.size := cell_lt C83
      have g6ne : ∀ g, some W.heap.size = some g → (Value.slice (some ⟨g6, 0, none⟩) (ri.length + 1) c6).ownBlock = some g → False := fun g a b => by
        simp only [Value.ownBlock, Option.some.injEq] at a b
        rcases hat6 with q | q
        · simp only [Value.ownBlock, Option.some.injEq] at q; have := hg3; omega
        · omega
      have own8 := own_far (own_keep own6 h81) (set_grown w8 ⟨W.heap.size, 1, none⟩ (.slice (some ⟨g6, 0, none⟩) (ri.length + 1) c6)) g6ne
      obtain ⟨Y, hY⟩ : ∃ Y, Y = w8.setCell ⟨W.heap.size, 1, none⟩ (.slice (some ⟨g6, 0, none⟩) (ri.length + 1) c6) := ⟨_, rfl⟩
      have Y0 : Y.cell? ⟨W.heap.size, 0, none⟩ = some (vi rg) := by rw [hY]; simp [go_sem, C83]
      have Y1 : Y.cell? ⟨W.heap.size, 1, none⟩ = some (.slice (some ⟨g6, 0, none⟩) (ri.length + 1) c6) := by rw [hY]; simp [go_sem, C81]
      have YB : Below W.heap.size W3 Y := by rw [hY]; exact C80.setCell (Nat.le_refl _) _
      have YF : Y.frozen? ⟨W.heap.size, 1, none⟩ = false := by rw [hY]; simp [go_sem, C82]
      rw [← hY] at own8 ⊢
      clear hY
      refine hK8 _ _ ⟨YB, ⟨_, Y1⟩, YF, Y0⟩ (wpUp_done (by kernel_rfl) (fun Wf a5 a6 => NoPanic.normal ?_))
      go_wp2_with fail
      go_meet
      exact FIN.out g6 c6 Wf (YB.trans (a5.mono (by have := YB.size; omega))) (cell_keep a5 Y0) (cell_keep a5 Y1) (own_keep own8 a5)
  obtain ⟨xA, xcap, X0', X1', hXr, hbX⟩ := hcut
  obtain ⟨X, rfl⟩ : ∃ X, X = wc := ⟨_, rfl⟩
  have HBX : Below w.heap.size w X := HB3.trans (hbX.mono (by omega))
  have c04 : X.cell? ⟨w.heap.size, 0, none⟩ = some (vi rg) := (hbX.cell (by simp only; omega)).trans c03
  have c14 : X.cell? ⟨w.heap.size, 1, none⟩ = some (.slice (some ⟨bb, off, none⟩) ri.length rcap) := (hbX.cell (by simp only; omega)).trans c13
  have m04 : X.cell? ⟨w.heap.size + 1 + 1, 0, none⟩ = some (vi n0) := (hbX.cell (by simp only; omega)).trans (cell_keep hb3 m0)
  have m14 : X.cell? ⟨w.heap.size + 1 + 1, 1, none⟩ = some (vi n1) := (hbX.cell (by simp only; omega)).trans (cell_keep hb3 m1)
  have m24 : X.cell? ⟨w.heap.size + 1 + 1, 2, none⟩ = some (vi n2) := (hbX.cell (by simp only; omega)).trans (cell_keep hb3 m2)
  have m34 : X.cell? ⟨w.heap.size + 1 + 1, 3, none⟩ = some (vi n3) := (hbX.cell (by simp only; omega)).trans (cell_keep hb3 m3)
  obtain ⟨RX, hRX⟩ : ∃ RX : Rack, RX = ⟨rg, xA, xcap, ri ++ [⟨mlo, mhi, mhd, mA, mcap, ml⟩]⟩ := ⟨_, rfl⟩
  have hval : RX.val = .agg #[vi rg, .slice xA (ri.length + 1) xcap] := by rw [hRX]; simp [Rack.val, Rack.slice]
  rw [← hRX] at hXr
  have HMX := Lib.hid (HM.out RX (by rw [hRX]) (by rw [hRX]))
  have HP2 : Hid (∀ W' : World, Lim W' → RackAt W' W'.heap.size RX → Calls Tryd.prog 30 #[.agg #[vi rg, .slice xA (ri.length + 1) xcap], vi dd, .agg #[vi ig, vi is, vi ic]] W' fun e w' => e = .returned (.tuple #[vi (priceV RX dd ⟨ig, is, ic⟩), vi (priceErr RX dd ⟨ig, is, ic⟩)]) ∧ Below W'.heap.size W' w') := fun W' h1 h2 => by
    have := Price_any RX dd ⟨ig, is, ic⟩ W' h1 h2
    rwa [hval] at this
  have HM2 : Hid (∀ W' : World, Lim W' → RackAt W' W'.heap.size RX → Calls Tryd.prog 24 #[.agg #[vi rg, .slice xA (ri.length + 1) xcap], .agg #[vi dd, vi dd], vi nn] W' fun e w' => ∃ v, e = .returned (.tuple #[v, vi (meansErr RX dd dd nn)]) ∧ RowsOut 2 ((meansL RX dd dd nn).map meantC) W' v w') := fun W' h1 h2 => by
    have := means_ RX dd dd nn W' h1 h2
    rwa [hval] at this
  have HM1 : Hid (∀ W' : World, Lim W' → RackAt W' W'.heap.size ⟨rg, some ⟨bb, off, none⟩, rcap, ri⟩ → Calls Tryd.prog 24 #[.agg #[vi rg, .slice (some ⟨bb, off, none⟩) ri.length rcap], .agg #[vi dd, vi dd], vi nn] W' fun e w' => ∃ v, e = .returned (.tuple #[v, vi (meansErr ⟨rg, some ⟨bb, off, none⟩, rcap, ri⟩ dd dd nn)]) ∧ RowsOut 2 ((meansL ⟨rg, some ⟨bb, off, none⟩, rcap, ri⟩ dd dd nn).map meantC) W' v w') := fun W' h1 h2 => means_ ⟨rg, some ⟨bb, off, none⟩, rcap, ri⟩ dd dd nn W' h1 h2
  obtain ⟨PE, hPE⟩ : ∃ PE, PE = priceErr ⟨rg, some ⟨bb, off, none⟩, rcap, ri⟩ dd ⟨ig, is, ic⟩ := ⟨_, rfl⟩
  obtain ⟨PA, hPA⟩ : ∃ PA, PA = priceV ⟨rg, some ⟨bb, off, none⟩, rcap, ri⟩ dd ⟨ig, is, ic⟩ := ⟨_, rfl⟩
  obtain ⟨QE, hQE⟩ : ∃ QE, QE = priceErr RX dd ⟨ig, is, ic⟩ := ⟨_, rfl⟩
  obtain ⟨QA, hQA⟩ : ∃ QA, QA = priceV RX dd ⟨ig, is, ic⟩ := ⟨_, rfl⟩
  obtain ⟨KE, hKE⟩ : ∃ KE, KE = meansErr RX dd dd nn := ⟨_, rfl⟩
  obtain ⟨KL, hKL⟩ : ∃ KL, KL = meansL RX dd dd nn := ⟨_, rfl⟩
  obtain ⟨ML, hML⟩ : ∃ ML, ML = meansL ⟨rg, some ⟨bb, off, none⟩, rcap, ri⟩ dd dd nn := ⟨_, rfl⟩
  have HP1 : Hid (∀ W' : World, Lim W' → RackAt W' W'.heap.size ⟨rg, some ⟨bb, off, none⟩, rcap, ri⟩ → Calls Tryd.prog 30 #[.agg #[vi rg, .slice (some ⟨bb, off, none⟩) ri.length rcap], vi dd, .agg #[vi ig, vi is, vi ic]] W' fun e w' => e = .returned (.tuple #[vi PA, vi PE]) ∧ Below W'.heap.size W' w') := fun W' h1 h2 => by
    rw [hPA, hPE]
    exact Price_any ⟨rg, some ⟨bb, off, none⟩, rcap, ri⟩ dd ⟨ig, is, ic⟩ W' h1 h2
  rw [← hQE, ← hQA] at HP2
  rw [← hKE, ← hKL] at HM2
  rw [HMS.out.1, ← hML] at HM1
  rw [← hPE, ← hPA, ← hQE, ← hQA, ← hKE, ← hKL, ← hML] at HMX
  obtain ⟨ll, hll⟩ : ∃ ll, ML.length = ll := ⟨_, rfl⟩
  obtain ⟨kk, hkk⟩ : ∃ kk, KL.length = kk := ⟨_, rfl⟩
  have HLL := Lib.hid hll
  have HKK := Lib.hid hkk
  obtain ⟨bx, box, exA, hbbx, y0, y1, y2, y3⟩ := row4 (hri.to HBX).row HG.out rfl
  simp only [Option.some.injEq, Addr.mk.injEq, and_true] at exA
  obtain ⟨rfl, rfl⟩ := exA
  have h0k : (0 : Int) ≤ k := by omega
  have hkI : (k : Int) < ri.length := by omega
  have z4 : w.heap.size + 1 + 1 < X.heap.size := cell_lt m04
  have zW4 : W.heap.size < X.heap.size := cell_lt X0'
  clear hRX hval HM HMS HPA hPE hPA hQE hQA hKE hKL hML hll hkk hbX hb3 c0 c1 x0 x1 x2 x3 m0 m1 m2 m3 X0 X1 XF zW3 c03 c13 x03 x13 x23 x33 z0 HB0 HB3 HG HG4
  go_wp2_with fail
  refine (HS.out _ (hr.to HBX)).mono ?_
  rintro e X5 ⟨rfl, hb5⟩
  have HB5 : Below w.heap.size w X5 := HBX.trans (hb5.mono HBX.size)
  have hXr5 := hXr.to hb5
  have c05 := cell_keep hb5 c04
  have c15 := cell_keep hb5 c14
  have w05 := cell_keep hb5 X0'
  have w15 := cell_keep hb5 X1'
  have q05 := cell_keep hb5 y0
  have q25 := cell_keep hb5 y2
  clear hb5 c04 c14 m04 m14 m24 m34 X0' X1' y0 y1 y2 y3 hXr z4 zW4 HS
  go_upto_region 6 with fail
  obtain ⟨X6, hX6⟩ : ∃ X6, X6 = X5.alloc (.cells #[vi ig, vi is, vi ic] 63) := ⟨_, rfl⟩
  have hb6 : Below X5.heap.size X5 X6 := by rw [hX6]; exact (Below.refl _ _).alloc (Nat.le_refl _) _
  have i06 : X6.cell? ⟨X5.heap.size, 0, none⟩ = some (vi ig) := by rw [hX6]; simp [go_sem]
  have i16 : X6.cell? ⟨X5.heap.size, 1, none⟩ = some (vi is) := by rw [hX6]; simp [go_sem]
  have i26 : X6.cell? ⟨X5.heap.size, 2, none⟩ = some (vi ic) := by rw [hX6]; simp [go_sem]
  rw [← hX6]
  clear hX6
  have HB6 : Below w.heap.size w X6 := HB5.trans (hb6.mono HB5.size)
  have hXr6 := hXr5.to hb6
  have c06 := cell_keep hb6 c05
  have c16 := cell_keep hb6 c15
  have w06 := cell_keep hb6 w05
  have w16 := cell_keep hb6 w15
  have q06 := cell_keep hb6 q05
  have q26 := cell_keep hb6 q25
  have z61 : w.heap.size < X6.heap.size := cell_lt c06
  have z62 : bb < X6.heap.size := cell_lt q06
  clear hb6 c05 c15 w05 w15 q05 q25 hXr5
  (refine wp_region_grow_lit (by kernel_rfl) (by kernel_rfl) ?_; (repeat (go_big_quiet_step (first | (go_at_call 22; go_loud (refine Calls.grow_of (to_any _ _ _))) | (go_at_call 23; go_loud (refine Calls.grow_of (lot_is HDD.out _ (by omega) (by omega) (by omega) (by omega) (by omega) (by omega) (by omega))))))); refine wpQuiet_nil ?_; intro w1 hw1; have hb1 := below_of_plus hw1; clear hw1; obtain ⟨⟨hc1, hf1, hs1⟩, hz1⟩ := after hb1; (try simp only [World.size_alloc, World.size_setCell, World.size_drew] at hz1))
  obtain ⟨X7, rfl⟩ : ∃ X7, X7 = w1 := ⟨_, rfl⟩
  have HB7 : Below w.heap.size w X7 := HB6.trans (hb1.mono HB6.size)
  have hXr7 := hXr6.to hb1
  have c07 := cell_keep hb1 c06
  have c17 := cell_keep hb1 c16
  have w07 := cell_keep hb1 w06
  have w17 := cell_keep hb1 w16
  have i07 := cell_keep hb1 i06
  have i17 := cell_keep hb1 i16
  have i27 := cell_keep hb1 i26
  clear hc1 hf1 hs1 hz1 hb1 c06 c16 w06 w16 i06 i16 i26 q06 q26 z61 z62 hXr6
  go_wp2_with fail
  refine (HP1.out _ (hl.next HB7) (hr.to HB7)).mono ?_
  rintro e X8 ⟨rfl, hb8⟩
  have HB8 : Below w.heap.size w X8 := HB7.trans (hb8.mono HB7.size)
  have hXr8 := hXr7.to hb8
  have c08 := cell_keep hb8 c07
  have c18 := cell_keep hb8 c17
  have w08 := cell_keep hb8 w07
  have w18 := cell_keep hb8 w17
  have i08 := cell_keep hb8 i07
  have i18 := cell_keep hb8 i17
  have i28 := cell_keep hb8 i27
  clear hb8 c07 c17 w07 w17 i07 i17 i27 hXr7 HP1
  go_wp2_with fail
  refine (HP2.out _ (hl.next HB8) hXr8).mono ?_
  rintro e X9 ⟨rfl, hb9⟩
  have HB9 : Below w.heap.size w X9 := HB8.trans (hb9.mono HB8.size)
  have hXr9 := hXr8.to hb9
  have c09 := cell_keep hb9 c08
  have c19 := cell_keep hb9 c18
  have w09 := cell_keep hb9 w08
  have w19 := cell_keep hb9 w18
  have z9 : w.heap.size < X9.heap.size := cell_lt c09
  have zW9 : W.heap.size < X9.heap.size := cell_lt w09
  clear hb9 c08 c18 w08 w18 i08 i18 i28 hXr8 HP2
  go_upto_region 9 with fail
  have E9 : IntKind.i64.wrap (1 + sp) = nn := by rw [HNN.out]; exact IntWalk.i64_in _ ⟨by omega, by omega⟩
  refine' wp_region_box (fun w' => Below X9.heap.size X9 w') (stays_below _) [0, 1, 2, 3, 4, 5, 6] 6 152 (by kernel_rfl) (by kernel_rfl) rfl (by kernel_rfl) (by kernel_rfl) rfl (by kernel_rfl) ?hl9 (Below.refl _ _) ?hq9 ?hr9
  case hl9 =>
    simp only [List.map_cons, List.map_nil, List.getD_cons_zero, List.getD_cons_succ]
    exact rfl
  case hq9 =>
    intro w0 hw0
    have u0 := cell_keep hw0 c09
    have u1 := cell_keep hw0 c19
    have v1 : w.heap.size < w0.heap.size := cell_lt u0
    (repeat (go_big_quiet_step (first | (go_at_call 22; refine Calls.grow_of (to_any _ _ _)) | (go_at_call 21; refine Calls.grow_same (spin_is HSP.out _ (by omega) (by omega) (by omega))))))
    exact wpQuiet_nil rfl
  refine wpUp_one (i := 7) (by kernel_rfl) rfl rfl (fun w1 h1 h2 K hK => ?_)
  go_simp
  have HBa : Below w.heap.size w w1 := HB9.trans (h2.mono HB9.size)
  refine (HM1.out _ (hl.next HBa) (hr.to HBa)).mono ?_
  rintro e w2 ⟨lv, rfl, ⟨lA, lc, rfl, n1, n2, n3, -⟩, hb2⟩
  have hla : RowsAt w2 w2.heap.size 2 lA lc (ML.map meantC) := ⟨n1, n2, n3⟩
  have nl1 : ML.length ≤ lc := by simpa using n1
  simp only [Act.put, List.setIfInBounds_toArray, List.set_cons_zero, List.set_cons_succ, List.length_map]
  rw [HLL.out] at nl1 ⊢
  refine hK _ _ (gr_trans h2 hb2) ?_
  refine' wpUp_more (stays_below _) [8, 9, 10, 11, 12] 0 152 (by kernel_rfl) (by kernel_rfl) (by kernel_rfl) rfl (by kernel_rfl) rfl ?hl9b (Below.refl _ _) ?hq9b ?hr9b
  case hl9b =>
    simp only [List.map_cons, List.map_nil, List.getD_cons_zero, List.getD_cons_succ]
    exact rfl
  case hq9b =>
    intro w0 hw0
    (repeat (go_big_quiet_step (fail)))
    exact wpQuiet_nil rfl
  refine wpUp_done (by kernel_rfl) (fun Y1 h7 h8 => NoPanic.normal ?_)
  have HBY : Below w.heap.size w Y1 := HB9.trans (h8.mono HB9.size)
  have hla1 := hla.to h7
  have hXrY := hXr9.to h8
  have w0Y := cell_keep h8 w09
  have w1Y := cell_keep h8 w19
  have zWY : W.heap.size < Y1.heap.size := cell_lt w0Y
  clear h1 h2 h7 h8 hK K hb2 n1 n3 hla HBa c09 c19 w09 w19 hXr9 z9 zW9 E9 HM1
  go_upto_region 10 with fail
  have E9 : IntKind.i64.wrap (1 + sp) = nn := by rw [HNN.out]; exact IntWalk.i64_in _ ⟨by omega, by omega⟩
  refine' wp_region_box (fun w' => Below Y1.heap.size Y1 w') (stays_below _) [0, 1, 2, 3, 4, 5, 6] 6 152 (by kernel_rfl) (by kernel_rfl) rfl (by kernel_rfl) (by kernel_rfl) rfl (by kernel_rfl) ?hla (Below.refl _ _) ?hqa ?hra
  case hla =>
    simp only [List.map_cons, List.map_nil, List.getD_cons_zero, List.getD_cons_succ]
    exact rfl
  case hqa =>
    intro w0 hw0
    have u0 := cell_keep hw0 w0Y
    have u1 := cell_keep hw0 w1Y
    have v1 : W.heap.size < w0.heap.size := cell_lt u0
    (repeat (go_big_quiet_step (first | (go_at_call 22; refine Calls.grow_of (to_any _ _ _)) | (go_at_call 21; refine Calls.grow_same (spin_is HSP.out _ (by omega) (by omega) (by omega))))))
    exact wpQuiet_nil rfl
  refine wpUp_one (i := 7) (by kernel_rfl) rfl rfl (fun w1 h1 h2 K hK => ?_)
  go_simp
  have HBa : Below w.heap.size w w1 := HBY.trans (h2.mono HBY.size)
  refine (HM2.out _ (hl.next HBa) (hXrY.to h2)).mono ?_
  rintro e w2 ⟨lv, rfl, ⟨kA, kc, rfl, k1, k2, k3, -⟩, hb2⟩
  have hka : RowsAt w2 w2.heap.size 2 kA kc (KL.map meantC) := ⟨k1, k2, k3⟩
  have nk1 : KL.length ≤ kc := by simpa using k1
  simp only [Act.put, List.setIfInBounds_toArray, List.set_cons_zero, List.set_cons_succ, List.length_map]
  rw [HKK.out] at nk1 ⊢
  refine hK _ _ (gr_trans h2 hb2) ?_
  refine' wpUp_more (stays_below _) [8, 9, 10, 11, 12] 0 152 (by kernel_rfl) (by kernel_rfl) (by kernel_rfl) rfl (by kernel_rfl) rfl ?hlab (Below.refl _ _) ?hqab ?hrab
  case hlab =>
    simp only [List.map_cons, List.map_nil, List.getD_cons_zero, List.getD_cons_succ]
    exact rfl
  case hqab =>
    intro w0 hw0
    (repeat (go_big_quiet_step (fail)))
    exact wpQuiet_nil rfl
  refine wpUp_done (by kernel_rfl) (fun Y2 h7 h8 => NoPanic.normal ?_)
  have HBZ : Below w.heap.size w Y2 := HBY.trans (h8.mono HBY.size)
  have hka2 := hka.to h7
  have hla2 := hla1.to h8
  have kcb : kc ≤ 17592186044416 := k2
  have lcb : lc ≤ 17592186044416 := n2
  clear h1 h2 h7 h8 hK K hb2 k1 k3 hka HBa w0Y w1Y hXrY zWY E9 HM2 hla1 HBY HBX HB5 HB6 HB7 HB8 HB9
  rcases HMX.out with ⟨rfl, rfl, rfl, hK0⟩ | ⟨hQE, rfl, ⟨t, hKt, ht⟩, hPQ⟩
  · obtain rfl : kk = 0 := by rw [← HKK.out, hK0]; rfl
    clear hK0 HMX
    go_wp2_with (go_at_call 19; refine (works_any _ (hl.next HBZ)).mono ?_; rintro e w9 ⟨rfl, hb10⟩)
    go_ret
    exact ⟨rfl, HBZ.trans (hb10.mono HBZ.size)⟩
  · have hlk : ll ≤ kk := by rw [← HLL.out, ← HKK.out, hKt]; simp
    have hkt : RowsAt Y2 Y2.heap.size 2 kA kc (ML.map meantC) := by
      refine ⟨by rw [List.length_map]; have := HLL.out; omega, kcb, ?_⟩
      have := hka2.row.take ML.length
      rw [hKt, List.map_append, List.take_left' (by simp)] at this
      exact this
    have hSM := sameMeant_any lA kA lc kc ML ML Y2 hla2 hkt
    rw [HLL.out, decide_eq_true rfl] at hSM
    have HSM := Lib.hid hSM
    have hlkI : (ll : Int) ≤ kk := by omega
    have hkcI : (kk : Int) ≤ kc := by omega
    have hlcI : (ll : Int) ≤ kc := by omega
    clear hKt ht hka2 hla2 hkt hSM HMX
    rcases hPQ with rfl | ⟨rfl, rfl, hle⟩
    · rcases hQE with rfl | rfl
      all_goals
        go_wp2_with (first | (go_at_call 33; refine HSM.out.mono ?_; rintro e w8 ⟨rfl, hb8⟩) | (go_at_call 19; refine (works_any _ (hl.next (HBZ.trans (hb8.mono HBZ.size)))).mono ?_; rintro e w9 ⟨rfl, hb10⟩))
        go_ret
        exact ⟨rfl, (HBZ.trans (hb8.mono HBZ.size)).trans (hb10.mono (HBZ.trans (hb8.mono HBZ.size)).size)⟩
    · have hg : decide (QA ≤ PA) = true := by simpa using hle
      clear hQE
      go_wp2_with (first | (go_at_call 33; refine HSM.out.mono ?_; rintro e w8 ⟨rfl, hb8⟩) | (go_at_call 19; refine (works_any _ (hl.next (HBZ.trans (hb8.mono HBZ.size)))).mono ?_; rintro e w9 ⟨rfl, hb10⟩))
      go_ret
      exact ⟨rfl, (HBZ.trans (hb8.mono HBZ.size)).trans (hb10.mono (HBZ.trans (hb8.mono HBZ.size)).size)⟩
end Go.Proofs.YtpcajmkmmkmekaaDoor
