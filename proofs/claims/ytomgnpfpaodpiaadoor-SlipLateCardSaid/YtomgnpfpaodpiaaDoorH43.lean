/- Contract of the specification's Walk. -/
import Derived.Test.YtomgnpfpaodpiaaDoorH42
set_option linter.unusedVariables false
set_option linter.unusedSimpArgs false
namespace Go.Proofs.YtomgnpfpaodpiaaDoor
open Go Go.RowKit
set_option maxHeartbeats 4000000
def lastShelf (l : List SLine) : Int := match l[l.length - 1]? with | some x => x.shelf | none => 0
def goesF (f : Floor) (t : STour) : Int := 2 * (f.far[(lastShelf t.lines).toNat]?).getD 0
def walkF (f : Floor) (ts : List STour) : Int := (ts.map (goesF f)).sum
def walkK (f : Floor) (ts : List STour) (k : Nat) : Int := walkF f (ts.take k)
theorem walkK_succ {f : Floor} {ts : List STour} {k : Nat} {t : STour} (h : ts[k]? = some t) : walkK f ts (k + 1) = walkK f ts k + goesF f t := by
  obtain ⟨hk, rfl⟩ := List.getElem?_eq_some_iff.1 h
  unfold walkK walkF
  rw [List.take_succ_eq_append_getElem hk, List.map_append, List.sum_append]
  simp
set_option maxRecDepth 100000 in
theorem Walk_any (f : Floor) (hv : validB f = true) (A : Option Addr) (cap : Nat) (ts : List STour) (hok : ∀ t ∈ ts, 1 ≤ t.lines.length ∧ ∀ x ∈ t.lines, 0 ≤ x.shelf ∧ x.shelf < f.far.length) (w : World) (h : FloorAt w w.heap.size f) (ht : ToursAt w w.heap.size A cap ts) :
    Calls Tryd.prog 24 #[f.val, .slice A ts.length cap] w fun e w' => e = .returned (vi (walkF f ts)) ∧ Below w.heap.size w w' := by
  have hf := fine hv
  have HF := Lib.hid h.far
  have htl := ht.rows.lens
  have hfl := h.far.lens
  have HT := Lib.hid ht
  have HS : Hid (∀ (k : Nat) (t : STour), ts[k]? = some t → ∃ (x : SLine) (d : Int), t.lines[t.lines.length - 1]? = some x ∧ 1 ≤ t.lines.length ∧ 0 ≤ x.shelf ∧ x.shelf < f.far.length ∧ f.far[x.shelf.toNat]? = some d ∧ 0 ≤ d ∧ d ≤ 500 ∧ walkK f ts (k + 1) = walkK f ts k + 2 * d) := fun k t hk => by
    obtain ⟨h1, h2⟩ := hok t (List.mem_of_getElem? hk)
    have hlt : t.lines.length - 1 < t.lines.length := by omega
    have hx : t.lines[t.lines.length - 1]? = some t.lines[t.lines.length - 1] := List.getElem?_eq_getElem hlt
    obtain ⟨h3, h4⟩ := h2 _ (List.getElem_mem hlt)
    have hlt2 : (t.lines[t.lines.length - 1].shelf).toNat < f.far.length := by omega
    have hd := List.getElem?_eq_getElem hlt2
    have hd2 := hf.fars _ (List.getElem_mem hlt2)
    refine ⟨_, _, hx, h1, h3, h4, hd, hd2.1, hd2.2, ?_⟩
    rw [walkK_succ hk, goesF, lastShelf, hx]
    simp only
    rw [hd]
    rfl
  obtain ⟨T, hT⟩ : ∃ T, T = walkK f ts := ⟨_, rfl⟩
  have T0 : Hid (T 0 = 0) := by unfold Hid; rw [hT]; rfl
  have TE : Hid (walkF f ts = T ts.length) := by unfold Hid; rw [hT, walkK, List.take_length]
  rw [← hT] at HS
  obtain ⟨an, han⟩ : ∃ an, an = walkF f ts := ⟨_, rfl⟩
  rw [← han] at TE ⊢
  clear hT han hok h ht hf hv
  obtain ⟨fA, fC, ff, slo, shi, pA, pC, fp, fc, sA, sC, fs⟩ := f
  simp only at HF hfl HS
  show Calls Tryd.prog 24 #[.agg #[.slice fA ff.length fC, vi slo, vi shi, .slice pA fp.length pC, vi fc, .slice sA fs.length sC], .slice A ts.length cap] w _
  have hb0 := below1 w (.cells #[.slice fA ff.length fC, vi slo, vi shi, .slice pA fp.length pC, vi fc, .slice sA fs.length sC] 28)
  have X0 := CellsBox.new w 28 [.slice fA ff.length fC, vi slo, vi shi, .slice pA fp.length pC, vi fc, .slice sA fs.length sC]
  go_enter Tryd.func24, Tryd.ntmps24
  go_wp2_with fail
  obtain ⟨W, hW⟩ : ∃ W, W = w.alloc (.cells #[.slice fA ff.length fC, vi slo, vi shi, .slice pA fp.length pC, vi fc, .slice sA fs.length sC] 28) := ⟨_, rfl⟩
  rw [← hW] at hb0 ⊢
  have HX : Hid (CellsBox W w.heap.size 28 [.slice fA ff.length fC, vi slo, vi shi, .slice pA fp.length pC, vi fc, .slice sA fs.length sC]) := by rw [hW]; exact X0
  clear hW X0
  go_loopw [5, 6] (fun v i wr => ∃ (k : Nat) (p : Int), k ≤ ts.length ∧ i = .int .i64 k ∧ v = vi p ∧ Below W.heap.size W wr ∧ Hid (T k = p) ∧ 0 ≤ p ∧ p ≤ 1000 * k) (fun _ i _ => ts.length - (intOf i).toNat)
  case atStart => exact ⟨0, 0, Nat.zero_le _, rfl, rfl, Below.refl _ _, T0.out, by omega, by omega⟩
  obtain ⟨k, p, hk, rfl, rfl, hB, hTk, hp0, hp1⟩ := hrel
  have HTK := Lib.hid hTk.out
  clear hTk
  have HBr : Below w.heap.size w wr := hb0.trans (hB.mono hb0.size)
  by_cases hlt : k < ts.length
  · obtain ⟨t, htk⟩ : ∃ t, ts[k]? = some t := ⟨_, List.getElem?_eq_getElem hlt⟩
    obtain ⟨x, d, hx, hl1, hx0, hx1, hd, hd0, hd1, hTn⟩ := HS.out k t htk
    have HTN : Hid (T (k + 1) = p + 2 * d) := by unfold Hid; rw [hTn, HTK.out]
    have hte := (HT.out.to HBr).each t (List.mem_of_getElem? htk)
    obtain ⟨tb, tf, rfl, htb, t0⟩ := row1 (HT.out.to HBr).rows.row htk rfl
    obtain ⟨tA, tc, tl⟩ := t
    simp only at hx hl1 hte
    replace t0 : wr.cell? ⟨tb, tf + k, none⟩ = some (.slice tA tl.length tc) := t0
    obtain ⟨i, hi⟩ : ∃ i, i = tl.length - 1 := ⟨_, rfl⟩
    rw [← hi] at hx
    have htc := hte.lens
    obtain ⟨lb, lf, rfl, hlb, l0, l1⟩ := row2 hte.row hx rfl
    obtain ⟨xs, xm⟩ := x
    simp only at hx0 hx1 hd l0 l1
    obtain ⟨j, rfl⟩ : ∃ j : Nat, xs = j := ⟨xs.toNat, by omega⟩
    rw [Int.toNat_natCast] at hd
    obtain ⟨fb, fo, rfl, hfb, f0⟩ := ints_at (HF.out.to HBr) hd
    have hw1 : IntKind.wrap .i64 ((tl.length : Int) - 1) = i := by rw [wrapI (by omega) (by omega)]; omega
    have hiI : (i : Int) < tl.length := by omega
    have hi0 : (0 : Int) ≤ i := by omega
    have hkI : (k : Int) < ts.length := by omega
    have hk0 : (0 : Int) ≤ k := by omega
    have hj0 : (0 : Int) ≤ j := by omega
    have hwa : IntKind.wrap .i64 (2 * d) = 2 * d := wrapI (by omega) (by omega)
    have hwb : IntKind.wrap .i64 (p + 2 * d) = p + 2 * d := wrapI (by omega) (by omega)
    have a0 := (HX.out.keep hB).cell (j := 0) rfl
    have za := (HX.out.keep hB).lt
    clear htk hx hd hTn hte hi
    go_wp2_with fail
    (refine wp_region_grow_lit (by kernel_rfl) (by kernel_rfl) ?_; (repeat (go_big_quiet_step (fail))); refine wpQuiet_nil ?_; intro w1 hw1; have hb1 := below_of_plus hw1; clear hw1; obtain ⟨⟨hc1, hf1, hs1⟩, hz1⟩ := after hb1; (try simp only [World.size_alloc, World.size_setCell, World.size_drew] at hz1))
    go_wp2_with fail
    go_roundw
    case rel => exact ⟨k + 1, p + 2 * d, by omega, by go_num, rfl, gr_trans hB hb1, HTN.out, by omega, by omega⟩
    case measure => simp [intOf]; omega
  · obtain rfl : k = ts.length := by omega
    have E : Hid (an = p) := by unfold Hid; rw [TE.out, HTK.out]
    go_wp2_with fail
    go_ret
    exact ⟨retI E.out.symm, HBr⟩
end Go.Proofs.YtomgnpfpaodpiaaDoor

