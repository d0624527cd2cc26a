/- Contract of the specification's IsTours: the pieces of the slip are counted. -/
import Derived.Test.YtomgnpfpaodpiaaDoorJ12
import Derived.Test.YtomgnpfpaodpiaaDoorJ03
import Derived.Test.YtomgnpfpaodpiaaDoorJ05
import Derived.Test.YtomgnpfpaodpiaaDoorJ10
set_option linter.unusedVariables false
set_option linter.unusedSimpArgs false
namespace Go.Proofs.YtomgnpfpaodpiaaDoor
open Go Go.RowKit
set_option maxHeartbeats 4000000
/-- how many pieces of each shelf are to be fetched, when some are added -/
def addL (sg : Int) (p : List Int) (l : List SLine) : List Int := l.foldl (fun p x => p.set x.shelf.toNat (p[x.shelf.toNat]?.getD 0 + sg * x.many)) p
def addLK (sg : Int) (p : List Int) (l : List SLine) (k : Nat) : List Int := addL sg p (l.take k)
theorem addLK_succ {sg : Int} {p : List Int} {l : List SLine} {k : Nat} {x : SLine} (h : l[k]? = some x) : addLK sg p l (k + 1) = (addLK sg p l k).set x.shelf.toNat ((addLK sg p l k)[x.shelf.toNat]?.getD 0 + sg * x.many) := by
  obtain ⟨hk, rfl⟩ := List.getElem?_eq_some_iff.1 h
  unfold addLK addL
  rw [List.take_succ_eq_append_getElem hk, List.foldl_append]
  rfl
theorem addL_len (sg : Int) : ∀ (l : List SLine) (p : List Int), (addL sg p l).length = p.length
  | [], _ => rfl
  | x :: l, p => by
    have := addL_len sg l (p.set x.shelf.toNat (p[x.shelf.toNat]?.getD 0 + sg * x.many))
    rw [List.length_set] at this
    exact this
theorem addL_range (sg B : Int) (hs : sg = 1 ∨ sg = -1) : ∀ (l : List SLine) (p : List Int), (∀ x ∈ l, 0 ≤ x.many ∧ x.many ≤ 20) → (∀ n ∈ p, -B ≤ n ∧ n ≤ B) → 0 ≤ B → ∀ n ∈ addL sg p l, -(B + 20 * l.length) ≤ n ∧ n ≤ B + 20 * l.length
  | [], p, _, h, _, n, hn => by have := h n hn; simpa using this
  | x :: l, p, hx, h, hB, n, hn => by
    have hm := hx x (by simp)
    have h1 : ∀ n ∈ p.set x.shelf.toNat (p[x.shelf.toNat]?.getD 0 + sg * x.many), -(B + 20) ≤ n ∧ n ≤ B + 20 := fun n hn => by
      have hg : -B ≤ p[x.shelf.toNat]?.getD 0 ∧ p[x.shelf.toNat]?.getD 0 ≤ B := by
        cases hp : p[x.shelf.toNat]? with
        | none => simp; omega
        | some y => exact h y (List.mem_of_getElem? hp)
      rcases List.mem_or_eq_of_mem_set hn with hn | rfl
      · have := h n hn; omega
      · rcases hs with rfl | rfl <;> omega
    have := addL_range sg (B + 20) hs l _ (fun y hy => hx y (by simp [hy])) h1 (by omega) n hn
    simp only [List.length_cons]
    omega
/-- may a tour be one, as the specification asks it -/
def goodR (f : Floor) (t : STour) : Bool := (!(t.lines.length == 0) && linesR f.far.length t.lines) && decide (togetherF t.lines ≤ f.carry)
def leftR (p : List Int) (ts : List STour) : List Int := ts.foldl (fun p t => addL (-1) p t.lines) p
def leftRK (p : List Int) (ts : List STour) (k : Nat) : List Int := leftR p (ts.take k)
theorem leftRK_succ {p : List Int} {ts : List STour} {k : Nat} {t : STour} (h : ts[k]? = some t) : leftRK p ts (k + 1) = addL (-1) (leftRK p ts k) t.lines := by
  obtain ⟨hk, rfl⟩ := List.getElem?_eq_some_iff.1 h
  unfold leftRK leftR
  rw [List.take_succ_eq_append_getElem hk, List.foldl_append]
  rfl
def isToursR (f : Floor) (s : SSlip) (ts : List STour) : Bool := (List.range ts.length).all (fun k => match ts[k]? with | some t => goodR f t | none => true) && (leftR (addL 1 (List.replicate f.far.length 0) s.lines) ts).all (· == 0)
theorem linesR_at {n : Int} {l : List SLine} (h : linesR n l = true) : ∀ (k : Nat) (x : SLine), l[k]? = some x → ((k : Int) ≤ x.shelf ∧ x.shelf < n) ∧ 1 ≤ x.many ∧ x.many ≤ 20 := by
  have hg : ∀ (k : Nat) (x : SLine), l[k]? = some x → hasB (nextF l k) (n - 1) x.shelf = true ∧ hasB 1 20 x.many = true := fun k x hx => by
    have hk := (List.getElem?_eq_some_iff.1 hx).1
    unfold linesR at h
    rw [List.all_eq_true] at h
    have := h k (List.mem_range.2 hk)
    rwa [goodLine_ref hx, Bool.and_eq_true] at this
  have hn : ∀ k : Nat, k ≤ l.length → (k : Int) ≤ nextF l k := by
    intro k
    induction k with
    | zero => intro _; exact Int.le_refl _
    | succ k ih =>
      intro hk
      obtain ⟨x, hx⟩ : ∃ x, l[k]? = some x := ⟨_, List.getElem?_eq_getElem (by omega)⟩
      have h1 := hasB_iff.1 (hg k x hx).1
      have h2 := ih (by omega)
      rw [nextF_succ hx]
      omega
  intro k x hx
  have hk := (List.getElem?_eq_some_iff.1 hx).1
  obtain ⟨h1, h2⟩ := hg k x hx
  have h1 := hasB_iff.1 h1
  have h2 := hasB_iff.1 h2
  have h3 := hn k (by omega)
  exact ⟨⟨by omega, by omega⟩, h2⟩
theorem linesR_len {n : Nat} {l : List SLine} (h : linesR n l = true) : l.length ≤ n := by
  by_cases h0 : l.length = 0
  · omega
  · obtain ⟨x, hx⟩ : ∃ x, l[l.length - 1]? = some x := ⟨_, List.getElem?_eq_getElem (by omega)⟩
    have := (linesR_at h _ x hx).1
    omega
theorem ints_box_at {w : World} {B : Nat} {l : List Int} (h : CellsBox w B 3 (l.map vi)) {k : Nat} {x : Int} (hx : l[k]? = some x) : w.cell? ⟨B, k, none⟩ = some (vi x) := h.cell (by rw [List.getElem?_map, hx]; rfl)
theorem gr_trans_w {w W W' : World} (h : Below w.heap.size w W) (h' : Below W.heap.size W W') : Below w.heap.size w W' := h.trans (h'.mono h.size)
set_option maxRecDepth 100000 in
theorem rIsTours_ok (f : Floor) (hv : validB f = true) (n : Nat) (s : SSlip) (hs : f.slips[n]? = some s) (A : Option Addr) (cap : Nat) (ts : List STour) (w : World) (h : FloorAt w w.heap.size f) (ht : ToursAt w w.heap.size A cap ts) :
    Calls Tryd.prog 15 #[f.val, vi n, .slice A ts.length cap] w fun e w' => e = .returned (.tuple #[.bool (isToursR f s ts), vi 0]) ∧ Below w.heap.size w w' := by
  have hf := fine hv
  have HF := Lib.hid h
  have HT := Lib.hid ht
  obtain ⟨an, han⟩ : ∃ an, an = isToursR f s ts := ⟨_, rfl⟩
  obtain ⟨G, hG⟩ : ∃ G : Nat → Bool, G = fun k => match ts[k]? with | some t => goodR f t | none => true := ⟨_, rfl⟩
  have HAN : Hid (an = ((List.range ts.length).all G && (leftR (addL 1 (List.replicate f.far.length 0) s.lines) ts).all (· == 0))) := by unfold Hid; rw [han, hG]; rfl
  have HGT : Hid (∀ (k : Nat) (t : STour), ts[k]? = some t → G k = ((!(t.lines.length == 0) && linesR f.far.length t.lines) && decide (togetherF t.lines ≤ f.carry))) := fun k t hk => by rw [hG]; simp only [hk]; rfl
  have RL := Lib.hid (fun (l : List SLine) (v : Bool) (hv : linesR f.far.length l = v) (A : Option Addr) (cap : Nat) (W : World) hW => rlines_is hv A cap h.far.lens.2 W hW)
  rw [← han]
  clear hG han
  have h3l := h.slips.lens
  have hfl := h.far.lens
  have htl := ht.rows.lens
  have hnlt : n < f.slips.length := (List.getElem?_eq_some_iff.1 hs).1
  have hsb : slipB f n = true := by unfold slipB; simp; omega
  have IS := Lib.hid (fun (W : World) => isSlip_is hsb W h3l.2)
  have h0 : checkSlipV f n = 0 := by unfold checkSlipV; rw [hv, hsb]; rfl
  have AS := Lib.hid (fun (W : World) hW => asked_is (f := f) (b := true) (e := 0) (by rw [← hsb, asked_slip, h0]) W hW)
  obtain ⟨hl1, hl2, _⟩ := linesB_ok (hf.slips s (List.mem_of_getElem? hs)).2.2
  have LA := Lib.hid (fun (i : Nat) (x : SLine) (hx : s.lines[i]? = some x) => line_at hv hs hx)
  have hn9 := hf.slips9
  have hf12 := hf.far12
  have hf1 := hf.far1
  have hc1 := hf.carry1
  have hc2 := hf.carry20
  have hnI : (n : Int) < f.slips.length := by omega
  have hn0 : (0 : Int) ≤ n := by omega
  have hse := h.each s (List.mem_of_getElem? hs)
  obtain ⟨bb, off, hsA, hbb, x0, x1⟩ := row2 h.slips.row hs rfl
  obtain ⟨sa, sc, sl, st⟩ := s
  simp only at hl1 hl2 LA hse x0 x1
  replace x0 : w.cell? ⟨bb, off + n * 2, none⟩ = some (.slice sa sl.length sc) := x0
  have hslc := hse.lens
  have HSE := Lib.hid hse
  clear h0 hsb hs hse h ht hf
  obtain ⟨fA, fC, ff, slo, shi, pA, pC, fp, fc, sA, sC, fs⟩ := f
  simp only at hsA hnI hn9 hf12 hf1 hc1 hc2 hnlt h3l hfl LA HAN HGT RL
  subst hsA
  show Calls Tryd.prog 15 #[.agg #[.slice fA ff.length fC, vi slo, vi shi, .slice pA fp.length pC, vi fc, .slice (some ⟨bb, off, none⟩) fs.length sC], vi n, .slice A ts.length cap] w _
  have hb0 := below1 w (.cells #[.slice fA ff.length fC, vi slo, vi shi, .slice pA fp.length pC, vi fc, .slice (some ⟨bb, off, none⟩) fs.length sC] 28)
  have X0 := CellsBox.new w 28 [.slice fA ff.length fC, vi slo, vi shi, .slice pA fp.length pC, vi fc, .slice (some ⟨bb, off, none⟩) fs.length sC]
  go_enter Tryd.func15, Tryd.ntmps15
  go_wp2_with fail
  obtain ⟨W, hW⟩ : ∃ W, W = w.alloc (.cells #[.slice fA ff.length fC, vi slo, vi shi, .slice pA fp.length pC, vi fc, .slice (some ⟨bb, off, none⟩) fs.length sC] 28) := ⟨_, rfl⟩
  rw [← hW] at hb0 ⊢
  have HX : CellsBox W w.heap.size 28 [.slice fA ff.length fC, vi slo, vi shi, .slice pA fp.length pC, vi fc, .slice (some ⟨bb, off, none⟩) fs.length sC] := by rw [hW]; exact X0
  have HFW := Lib.hid (HF.out.to hb0)
  have a0 := HX.cell (j := 0) rfl
  have a1 := HX.cell (j := 1) rfl
  have a2 := HX.cell (j := 2) rfl
  have a3 := HX.cell (j := 3) rfl
  have a4 := HX.cell (j := 4) rfl
  have a5 := HX.cell (j := 5) rfl
  have za := HX.lt
  have HXX := Lib.hid HX
  clear hW X0 HX
  (refine wp_region_grow_lit (by kernel_rfl) (by kernel_rfl) ?_; (repeat (go_big_quiet_step (first | (go_at_call 55; refine Calls.grow_of (IS.out _)) | (go_at_call 54; refine Calls.grow_of (AS.out _ (HFW.out.to (plus_below _ _))))))); refine wpQuiet_nil ?_; intro w1 hw1; have hb1 := below_of_plus hw1; clear hw1; obtain ⟨⟨hc1, hf1, hs1⟩, hz1⟩ := after hb1; (try simp only [World.size_alloc, World.size_setCell, World.size_drew] at hz1))
  have HB1 : Below w.heap.size w w1 := hb0.trans (hb1.mono hb0.size)
  have HX1 := Lib.hid (HXX.out.keep hb1)
  clear a0 a1 a2 a3 a4 a5 za hb1 hc1 hf1 hs1 hz1
  obtain ⟨wl, rfl⟩ : ∃ wl : World, wl = w1 := ⟨_, rfl⟩
  have a0 := HX1.out.cell (j := 0) rfl
  have a5 := HX1.out.cell (j := 5) rfl
  have za := HX1.out.lt
  have y0 : wl.cell? ⟨bb, off + n * 2, none⟩ = some (.slice sa sl.length sc) := (HB1.cell hbb).trans x0
  have zb : bb < wl.heap.size := cell_lt y0
  have mkI := mkInts ff.length (by omega)
  go_wp2_with fail
  obtain ⟨V, hV⟩ : ∃ V, V = wl.alloc (.cells (Array.replicate ff.length (vi 0)) 3) := ⟨_, rfl⟩
  have hbV : Below wl.heap.size wl V := by rw [hV]; exact below1 _ _
  have XL : Hid (CellsBox V wl.heap.size 3 ((addLK 1 (List.replicate ff.length 0) sl 0).map vi)) := by
    unfold Hid
    rw [hV, show addLK 1 (List.replicate ff.length 0) sl 0 = List.replicate ff.length 0 from by simp [addLK, addL], List.map_replicate]
    have := CellsBox.new wl 3 (List.replicate ff.length (vi 0))
    simpa using this
  have HBV : Below w.heap.size w V := HB1.trans (hbV.mono HB1.size)
  have HXV := Lib.hid (HX1.out.keep hbV)
  have zW := HX1.out.lt
  have HWL : Hid (w.heap.size < wl.heap.size) := zW
  have HSC : Hid (∀ (k : Nat) (x : SLine), sl[k]? = some x → addLK 1 (List.replicate ff.length 0) sl (k + 1) = (addLK 1 (List.replicate ff.length 0) sl k).set x.shelf.toNat ((addLK 1 (List.replicate ff.length 0) sl k)[x.shelf.toNat]?.getD 0 + 1 * x.many)) := fun k x hx => addLK_succ hx
  have HRG : Hid (∀ k : Nat, k ≤ sl.length → (addLK 1 (List.replicate ff.length 0) sl k).length = ff.length ∧ ∀ m ∈ addLK 1 (List.replicate ff.length 0) sl k, -240 ≤ m ∧ m ≤ 240) := fun k hk => by
    refine ⟨by unfold addLK; rw [addL_len, List.length_replicate], fun m hm => ?_⟩
    have := addL_range 1 0 (.inl rfl) (sl.take k) (List.replicate ff.length 0) (fun x hx => by
      obtain ⟨i, hi, rfl⟩ := List.mem_iff_getElem.1 (List.mem_of_mem_take hx)
      have := LA.out i _ (List.getElem?_eq_getElem hi)
      omega) (fun m hm => by rw [List.mem_replicate] at hm; omega) (by omega) m hm
    rw [List.length_take] at this
    omega
  obtain ⟨T, hT⟩ : ∃ T, T = addLK 1 (List.replicate ff.length 0) sl := ⟨_, rfl⟩
  have TE : Hid (T sl.length = addL 1 (List.replicate ff.length 0) sl) := by unfold Hid; rw [hT, addLK, List.take_length]
  rw [← hT] at XL HSC HRG
  rw [← hV]
  clear hV hT hbV a0 a5 za y0 zb mkI x0 x1
  go_loopw [11] (fun i wr => ∃ k : Nat, k ≤ sl.length ∧ i = .int .i64 k ∧ Below w.heap.size w wr ∧ V.heap.size ≤ wr.heap.size ∧ Hid (CellsBox wr w.heap.size 28 [.slice fA ff.length fC, vi slo, vi shi, .slice pA fp.length pC, vi fc, .slice (some ⟨bb, off, none⟩) fs.length sC] ∧ CellsBox wr wl.heap.size 3 ((T k).map vi))) (fun i _ => sl.length - (intOf i).toNat)
  case atStart => exact ⟨0, Nat.zero_le _, rfl, HBV, Nat.le_refl _, ⟨HXV.out, XL.out⟩⟩
  obtain ⟨k, hk, rfl, hB, hsz, HXR⟩ := hrel
  have zL := HXR.out.2.lt
  by_cases hlt : k < sl.length
  · obtain ⟨x, hx⟩ : ∃ x, sl[k]? = some x := ⟨_, List.getElem?_eq_getElem hlt⟩
    obtain ⟨⟨hx1, hx2⟩, ⟨hx3, hx4⟩, _⟩ := LA.out k x hx
    have HS1 := Lib.hid (HSC.out k x hx)
    obtain ⟨hr1, hr2⟩ := HRG.out k hk
    obtain ⟨lb, lo, rfl, hlb, l0, l1⟩ := row2 (HSE.out.to hB).row hx rfl
    obtain ⟨xs, xm⟩ := x
    simp only at hx1 hx2 hx3 hx4 l0 l1 HS1
    obtain ⟨j, rfl⟩ : ∃ j : Nat, xs = j := ⟨xs.toNat, by omega⟩
    rw [Int.toNat_natCast] at HS1
    have hjl : j < (T k).length := by omega
    obtain ⟨y, hy⟩ : ∃ y, (T k)[j]? = some y := ⟨_, List.getElem?_eq_getElem hjl⟩
    have hyr := hr2 y (List.mem_of_getElem? hy)
    rw [hy, Option.getD_some, Int.one_mul] at HS1
    have hyc := ints_box_at HXR.out.2 hy
    have hyf := HXR.out.2.frozen j
    have hkI : (k : Int) < sl.length := by omega
    have hk0 : (0 : Int) ≤ k := by omega
    have hj0 : (0 : Int) ≤ j := by omega
    have hwr : IntKind.wrap .i64 (y + xm) = y + xm := wrapI (by omega) (by omega)
    have zlb : lb < wr.heap.size := hlb
    clear hx hy hr1 hr2
    go_wp2_with fail
    go_region_with fail
    all_goals go_wp2_with fail
    all_goals go_roundw
    all_goals first
      | (simp [intOf]; omega)
      | (refine ⟨k + 1, by omega, by go_num, by (repeat (first | exact Below.refl _ _ | refine Below.setCell ?_ (by first | omega | (simp; omega) | (simp; done)) _ | refine Below.alloc ?_ (by first | omega | (simp; omega) | (simp; done)) _ | refine Below.drew ?_ | refine below_drewN ?_ _ | refine Below.trans ?_ (Below.mono (by assumption) (by first | omega | (simp; omega) | (simp; done))))), by simp; omega, ?_, ?_⟩
         · first | exact HXR.out.1.apart ⟨wl.heap.size, j, none⟩ (vi (y + xm)) (by simp only; omega) | exact HXR.out.1
         · rw [HS1.out, List.map_set]
           exact HXR.out.2.store j (vi (y + xm)))
  · obtain rfl : k = sl.length := by omega
    have XL := HXR.out.2
    rw [TE.out] at XL
    obtain ⟨P, hP⟩ : ∃ P, P = addL 1 (List.replicate ff.length 0) sl := ⟨_, rfl⟩
    rw [← hP] at XL TE
    go_wp2_with fail
    obtain ⟨wo, rfl⟩ : ∃ wo : World, wo = wr := ⟨_, rfl⟩
    have HPR : Hid (P.length = ff.length ∧ ∀ m ∈ P, -240 ≤ m ∧ m ≤ 240) := by unfold Hid; rw [← TE.out]; exact HRG.out _ (Nat.le_refl _)
    rw [← hP] at HAN
    have BAD : Hid (∀ k, k < ts.length → G k = false → an = false) := fun k hk hg => by
      have := all_no (b := true) hk hg
      rw [Bool.true_and] at this
      rw [HAN.out, this]; rfl
    have HXo := Lib.hid HXR.out.1
    have HLo := Lib.hid XL
    have hBo := hB
    have L0 : Hid (leftRK P ts 0 = P) := by unfold Hid leftRK leftR; simp
    have LE : Hid (leftRK P ts ts.length = leftR P ts) := by unfold Hid leftRK; rw [List.take_length]
    have LS : Hid (∀ (k : Nat) (t : STour), ts[k]? = some t → leftRK P ts (k + 1) = addL (-1) (leftRK P ts k) t.lines) := fun k t hk => leftRK_succ hk
    obtain ⟨S, hS⟩ : ∃ S, S = leftRK P ts := ⟨_, rfl⟩
    rw [← hS] at L0 LE LS
    clear hS hP XL HXR hB hlt hk TE HSC HRG
    go_loopw [12] (fun i wr => ∃ k : Nat, k ≤ ts.length ∧ i = .int .i64 k ∧ Below w.heap.size w wr ∧ wo.heap.size ≤ wr.heap.size ∧ Hid (CellsBox wr w.heap.size 28 [.slice fA ff.length fC, vi slo, vi shi, .slice pA fp.length pC, vi fc, .slice (some ⟨bb, off, none⟩) fs.length sC] ∧ CellsBox wr wl.heap.size 3 ((S k).map vi)) ∧ Hid ((S k).length = ff.length ∧ (∀ m ∈ S k, -(240 + 240 * (k : Int)) ≤ m ∧ m ≤ 240 + 240 * k) ∧ ∀ j, j < k → G j = true)) (fun i _ => ts.length - (intOf i).toNat)
    case atStart => exact ⟨0, Nat.zero_le _, rfl, hBo, Nat.le_refl _, ⟨HXo.out, by rw [L0.out]; exact HLo.out⟩, ⟨by rw [L0.out]; exact HPR.out.1, by rw [L0.out]; intro m hm; have := HPR.out.2 m hm; omega, fun j hj => absurd hj (by omega)⟩⟩
    obtain ⟨k, hk, rfl, hB, hszo, HXR, HSR⟩ := hrel
    by_cases hlt : k < ts.length
    · obtain ⟨t, htk⟩ : ∃ t, ts[k]? = some t := ⟨_, List.getElem?_eq_getElem hlt⟩
      have HGK := Lib.hid (HGT.out k t htk)
      have HSN := Lib.hid (LS.out k t htk)
      have hte := (HT.out.to hB).each t (List.mem_of_getElem? htk)
      have htw := HT.out.each t (List.mem_of_getElem? htk)
      obtain ⟨tb, tf, rfl, htb, t0⟩ := row1 HT.out.rows.row htk rfl
      have zwl0 : w.heap.size < wl.heap.size := HWL.out
      obtain ⟨tA, tc, tl⟩ := t
      simp only at hte HGK HSN htw
      replace t0 : w.cell? ⟨tb, tf + k, none⟩ = some (.slice tA tl.length tc) := t0
      have HT0 := Lib.hid t0
      have HTW := Lib.hid htw
      replace t0 : wr.cell? ⟨tb, tf + k, none⟩ = some (.slice tA tl.length tc) := (hB.cell htb).trans t0
      have ztb0 : tb < wr.heap.size := cell_lt t0
      have htc := hte.lens
      have HTE : Hid (SLinesAt wr wr.heap.size tA tl.length tl) := RowsAt.short hte
      have HTF := Lib.hid hte
      have hkI : (k : Int) < ts.length := by omega
      have hk0 : (0 : Int) ≤ k := by omega
      clear htk hte htw
      have a0 := HXR.out.1.cell (j := 0) rfl
      have a1 := HXR.out.1.cell (j := 1) rfl
      have a2 := HXR.out.1.cell (j := 2) rfl
      have a3 := HXR.out.1.cell (j := 3) rfl
      have a4 := HXR.out.1.cell (j := 4) rfl
      have a5 := HXR.out.1.cell (j := 5) rfl
      have za := HXR.out.1.lt
      by_cases hl0 : tl.length = 0
      · have hle : ((tl.length : Int) == 0) = true := by simp [hl0]
        have E : Hid (an = false) := BAD.out k hlt (by rw [HGK.out]; simp [hl0])
        have HL0 := Lib.hid hl0
        clear hl0
        go_wp2_with fail
        (refine wp_region_grow_lit (by kernel_rfl) (by kernel_rfl) ?_; (repeat (go_big_quiet_step (fail))); refine wpQuiet_nil ?_; intro w1 hw1; have hb1 := below_of_plus hw1; clear hw1; obtain ⟨⟨hc1, hf1, hs1⟩, hz1⟩ := after hb1; (try simp only [World.size_alloc, World.size_setCell, World.size_drew] at hz1))
        go_wp2_with fail
        go_ret2
        exact ⟨by rw [E.out]; rfl, gr_trans_w hB hb1⟩
      · have hle : ((tl.length : Int) == 0) = false := by rw [beq_eq_false_iff_ne]; omega
        obtain ⟨lv, hlv⟩ : ∃ lv, linesR ff.length tl = lv := ⟨_, rfl⟩
        have RLL := Lib.hid (RL.out tl lv hlv tA tc)
        have hle2 : (tl.length == 0) = false := by rw [beq_eq_false_iff_ne]; omega
        rw [hlv, hle2] at HGK
        rcases lv with _ | _
        · have E : Hid (an = false) := BAD.out k hlt (by rw [HGK.out]; rfl)
          clear hlv hle2
          go_wp2_with fail
          (refine wp_region_grow_lit (by kernel_rfl) (by kernel_rfl) ?_; (repeat (go_big_quiet_step ((go_at_call 56; refine Calls.grow_of (RLL.out _ (HTE.out.to (plus_below _ _))))))); refine wpQuiet_nil ?_; intro w1 hw1; have hb1 := below_of_plus hw1; clear hw1; obtain ⟨⟨hc1, hf1, hs1⟩, hz1⟩ := after hb1; (try simp only [World.size_alloc, World.size_setCell, World.size_drew] at hz1))
          go_wp2_with fail
          go_ret2
          exact ⟨by rw [E.out]; rfl, gr_trans_w hB hb1⟩
        · have hlr := linesR_at hlv
          have hln := linesR_len hlv
          have HLR := Lib.hid hlr
          clear hlv hle2 hlr
          go_wp2_with fail
          (refine wp_region_grow_lit (by kernel_rfl) (by kernel_rfl) ?_; (repeat (go_big_quiet_step ((go_at_call 56; refine Calls.grow_of (RLL.out _ (HTE.out.to (plus_below _ _))))))); refine wpQuiet_nil ?_; intro w1 hw1; have hb1 := below_of_plus hw1; clear hw1; obtain ⟨⟨hc1, hf1, hs1⟩, hz1⟩ := after hb1; (try simp only [World.size_alloc, World.size_setCell, World.size_drew] at hz1))
          obtain ⟨wt, rfl⟩ : ∃ wt : World, wt = w1 := ⟨_, rfl⟩
          have HB1 := gr_trans_w hB hb1
          have HXt := Lib.hid (HXR.out.1.keep hb1)
          have HLt := Lib.hid (HXR.out.2.keep hb1)
          have HTt := Lib.hid (HTF.out.to hb1)
          have t0t := cell_keep hb1 t0
          have hzt := hb1.size
          have ztb : tb < wt.heap.size := cell_lt t0t
          have LK : Hid (∀ (m : Nat) (x : SLine), tl[m]? = some x → addLK (-1) (S k) tl (m + 1) = (addLK (-1) (S k) tl m).set x.shelf.toNat ((addLK (-1) (S k) tl m)[x.shelf.toNat]?.getD 0 + -1 * x.many)) := fun m x hx => addLK_succ hx
          have LR : Hid (∀ m : Nat, m ≤ tl.length → (addLK (-1) (S k) tl m).length = ff.length ∧ ∀ q ∈ addLK (-1) (S k) tl m, -(480 + 240 * (k : Int)) ≤ q ∧ q ≤ 480 + 240 * k) := fun m hm => by
            refine ⟨by unfold addLK; rw [addL_len]; exact HSR.out.1, fun q hq => ?_⟩
            have := addL_range (-1) (240 + 240 * (k : Int)) (.inr rfl) (tl.take m) (S k) (fun x hx => by
              obtain ⟨i, hi, rfl⟩ := List.mem_iff_getElem.1 (List.mem_of_mem_take hx)
              have := HLR.out i _ (List.getElem?_eq_getElem hi)
              omega) HSR.out.2.1 (by omega) q hq
            rw [List.length_take] at this
            omega
          have K0 : Hid (addLK (-1) (S k) tl 0 = S k) := by unfold Hid addLK addL; simp
          have KE : Hid (addLK (-1) (S k) tl tl.length = S (k + 1)) := by unfold Hid; rw [HSN.out, addLK, List.take_length]
          have SK : Hid (∀ (m : Nat) (x : SLine), tl[m]? = some x → sumK tl (m + 1) = sumK tl m + x.many) := fun m x hx => sumK_succ hx
          have SKE := Lib.hid (sumK_all tl)
          have SK0 : Hid (sumK tl 0 = 0) := by unfold Hid sumK; simp
          obtain ⟨D, hD⟩ : ∃ D, D = addLK (-1) (S k) tl := ⟨_, rfl⟩
          obtain ⟨M, hM⟩ : ∃ M, M = sumK tl := ⟨_, rfl⟩
          rw [← hD] at LK LR K0 KE
          rw [← hM] at SK SKE SK0
          clear hD hM hb1 hc1 hf1 hs1 hz1 a0 a1 a2 a3 a4 a5 za t0
          go_wp2_with fail
          go_loopw [13, 14] (fun v i wr => ∃ (m : Nat) (p : Int), m ≤ tl.length ∧ i = .int .i64 m ∧ v = vi p ∧ Below w.heap.size w wr ∧ wt.heap.size ≤ wr.heap.size ∧ Hid (CellsBox wr w.heap.size 28 [.slice fA ff.length fC, vi slo, vi shi, .slice pA fp.length pC, vi fc, .slice (some ⟨bb, off, none⟩) fs.length sC] ∧ CellsBox wr wl.heap.size 3 ((D m).map vi)) ∧ Hid (M m = p) ∧ 0 ≤ p ∧ p ≤ 20 * m) (fun _ i _ => tl.length - (intOf i).toNat)
          case atStart => exact ⟨0, 0, Nat.zero_le _, rfl, rfl, HB1, Nat.le_refl _, ⟨HXt.out, by rw [K0.out]; exact HLt.out⟩, SK0.out, by omega, by omega⟩
          obtain ⟨m, p, hm, rfl, rfl, hBm, hszm, HXm, HMp, hp0, hp1⟩ := hrel
          have t0m : wr.cell? ⟨tb, tf + k, none⟩ = some (.slice tA tl.length tc) := (hBm.cell htb).trans HT0.out
          have ztm : tb < wr.heap.size := cell_lt t0m
          by_cases hltm : m < tl.length
          · obtain ⟨x, hx⟩ : ∃ x, tl[m]? = some x := ⟨_, List.getElem?_eq_getElem hltm⟩
            obtain ⟨⟨hx1, hx2⟩, hx3, hx4⟩ := HLR.out m x hx
            have HD1 := Lib.hid (LK.out m x hx)
            have HM1 := Lib.hid (SK.out m x hx)
            obtain ⟨hr1, hr2⟩ := LR.out m hm
            obtain ⟨lb, lo, rfl, hlb, l0, l1⟩ := row2 HTW.out.row hx rfl
            obtain ⟨xs, xm⟩ := x
            simp only at hx1 hx2 hx3 hx4 l0 l1 HD1 HM1
            obtain ⟨j, rfl⟩ : ∃ j : Nat, xs = j := ⟨xs.toNat, by omega⟩
            rw [Int.toNat_natCast] at HD1
            have hjl : j < (D m).length := by omega
            obtain ⟨y, hy⟩ : ∃ y, (D m)[j]? = some y := ⟨_, List.getElem?_eq_getElem hjl⟩
            have hyr := hr2 y (List.mem_of_getElem? hy)
            rw [hy, Option.getD_some, show y + -1 * xm = y - xm by omega] at HD1
            rw [HMp.out] at HM1
            have HYC := Lib.hid (ints_box_at HXm.out.2 hy)
            have hmI : (m : Int) < tl.length := by omega
            have hm0 : (0 : Int) ≤ m := by omega
            have hj0 : (0 : Int) ≤ j := by omega
            have hjI : (j : Int) < ff.length := by omega
            have hwr : IntKind.wrap .i64 (y - xm) = y - xm := wrapI (by omega) (by omega)
            have hwp : IntKind.wrap .i64 (p + xm) = p + xm := wrapI (by omega) (by omega)
            have l0m : wr.cell? ⟨lb, lo + m * 2, none⟩ = some (vi j) := (hBm.cell hlb).trans l0
            have l1m : wr.cell? ⟨lb, lo + m * 2 + 1, none⟩ = some (vi xm) := (hBm.cell hlb).trans l1
            have zlb : lb < wr.heap.size := cell_lt l0m
            have htl2 : tb < wl.heap.size := by omega
            have hll2 : lb < wl.heap.size := by omega
            have zL : wl.heap.size < wr.heap.size := HXm.out.2.lt
            clear hx hy hr1 hr2
            go_wp2_with fail
            refine' wp_region_box (fun w' => Below wl.heap.size wr w') (fun a b h h' => h.trans (h'.mono (by have := h.size; omega))) [0, 1, 2, 3, 4, 5, 6, 7, 8, 9, 11, 12, 13, 14, 15, 16, 17, 18] 4 131 (by kernel_rfl) (by kernel_rfl) rfl (by kernel_rfl) (by kernel_rfl) rfl (by kernel_rfl) ?hl5 (Below.refl _ _) ?hq5 ?hr5
            case hl5 =>
              simp only [List.map_cons, List.map_nil, List.getD_cons_zero, List.getD_cons_succ]
              exact rfl
            case hq5 =>
              intro w0 K
              have t0w : w0.cell? ⟨tb, tf + k, none⟩ = some (.slice (some ⟨lb, lo, none⟩) tl.length tc) := (K.cell htl2).trans t0m
              have l0w : w0.cell? ⟨lb, lo + m * 2, none⟩ = some (vi j) := (K.cell hll2).trans l0m
              have l1w : w0.cell? ⟨lb, lo + m * 2 + 1, none⟩ = some (vi xm) := (K.cell hll2).trans l1m
              have z1w : tb < w0.heap.size := cell_lt t0w
              have z2w : lb < w0.heap.size := cell_lt l0w
              (repeat (go_big_quiet_step (fail)))
              exact wpQuiet_nil rfl
            case hr5 =>
              refine wpUp_one (i := 10) (by kernel_rfl) rfl rfl (fun wa b1 b2 Ka hKa => ?_)
              have y0 : wa.cell? ⟨wl.heap.size, j, none⟩ = some (vi y) := cell_keep b1 HYC.out
              have zy : wl.heap.size < wa.heap.size := cell_lt y0
              go_simp
              refine hKa _ _ b2 ?_
              refine wpUp_one (i := 19) (by kernel_rfl) rfl rfl (fun wb c1 c2 Kb hKb => ?_)
              go_simp
              refine hKb _ _ c2 ?_
              refine wpUp_one (i := 20) (by kernel_rfl) rfl rfl (fun wx f1 f2 Kx hKx => ?_)
              go_simp
              refine hKx _ _ f2 ?_
              refine wpUp_one (i := 21) (by kernel_rfl) rfl rfl (fun wc d1 d2 Kc hKc => ?_)
              have HBc : Below wr.heap.size wr wc := gr_trans (gr_trans (gr_trans b1 c1) f1) d1
              have YB := HXm.out.2.keep HBc
              have y1 : wc.cell? ⟨wl.heap.size, j, none⟩ = some (vi y) := cell_keep HBc HYC.out
              have e1 := YB.frozen j
              have zc : wl.heap.size < wc.heap.size := YB.lt
              go_simp
              refine hKc _ _ (d2.setCell (Nat.le_refl _) _) (wpUp_done (by kernel_rfl) (fun W9 g1 g2 => NoPanic.normal ?_))
              have ZB := (YB.store j (vi (y - xm))).keep g1
              have ZF := ((HXm.out.1.keep HBc).apart ⟨wl.heap.size, j, none⟩ (vi (y - xm)) (by simp only; omega)).keep g1
              have Zw : Below w.heap.size w W9 := by
                have e2 := (gr_trans_w hBm HBc).setCell (p := ⟨wl.heap.size, j, none⟩) (by simp only; omega) (vi (y - xm))
                exact gr_trans_w e2 g1
              have Zs : wt.heap.size ≤ W9.heap.size := by have := g1.size; have := HBc.size; simp at *; omega
              have HZ : Hid (CellsBox W9 w.heap.size 28 [.slice fA ff.length fC, vi slo, vi shi, .slice pA fp.length pC, vi fc, .slice (some ⟨bb, off, none⟩) fs.length sC] ∧ CellsBox W9 wl.heap.size 3 ((D (m + 1)).map vi)) := ⟨ZF, by rw [HD1.out, List.map_set]; exact ZB⟩
              clear hKa hKb hKc hKx f1 f2 ZB ZF YB b1 b2 c1 c2 d1 d2 g1 g2 HBc y0 y1 zy zc e1 l0m l1m zlb t0m ztm
              go_wp2_with fail
              go_roundw
              case rel => exact ⟨m + 1, p + xm, by omega, by go_num, rfl, Zw, Zs, HZ, HM1.out, by omega, by omega⟩
              case measure => simp [intOf]; omega
          · obtain rfl : m = tl.length := by omega
            have HME : Hid (togetherF tl = p) := by unfold Hid; rw [← SKE.out, HMp.out]
            have HLK : Hid (CellsBox wr w.heap.size 28 [.slice fA ff.length fC, vi slo, vi shi, .slice pA fp.length pC, vi fc, .slice (some ⟨bb, off, none⟩) fs.length sC] ∧ CellsBox wr wl.heap.size 3 ((S (k + 1)).map vi)) := ⟨HXm.out.1, by rw [← KE.out]; exact HXm.out.2⟩
            have f3 := HXm.out.1.cell (j := 3) rfl
            have f4 := HXm.out.1.cell (j := 4) rfl
            have zf := HXm.out.1.lt
            by_cases hpc : p ≤ fc
            · have HOK : Hid ((S (k + 1)).length = ff.length ∧ (∀ m ∈ S (k + 1), -(240 + 240 * ((k + 1 : Nat) : Int)) ≤ m ∧ m ≤ 240 + 240 * ((k + 1 : Nat) : Int)) ∧ ∀ j, j < k + 1 → G j = true) := by
                refine ⟨by rw [← KE.out]; exact (LR.out _ (Nat.le_refl _)).1, fun q hq => ?_, upto_succ HSR.out.2.2 ?_⟩
                · rw [HSN.out] at hq
                  have := addL_range (-1) (240 + 240 * (k : Int)) (.inr rfl) tl (S k) (fun x hx => by
                    obtain ⟨i, hi, rfl⟩ := List.mem_iff_getElem.1 hx
                    have := HLR.out i _ (List.getElem?_eq_getElem hi)
                    omega) HSR.out.2.1 (by omega) q hq
                  omega
                · rw [HGK.out, HME.out]
                  simp [hpc]
              have hgt : decide (fc < p) = false := by simp; exact hpc
              clear hpc
              go_wp2_with fail
              go_roundw
              case rel => exact ⟨k + 1, by omega, by go_num, hBm, by omega, HLK.out, HOK.out⟩
              case measure => simp [intOf]; omega
            · have E : Hid (an = false) := BAD.out k hlt (by rw [HGK.out, HME.out]; simp [hpc])
              have hgt : decide (fc < p) = true := by simp; omega
              clear hpc
              go_wp2_with fail
              go_ret2
              exact ⟨by rw [E.out]; rfl, hBm⟩
    · obtain rfl : k = ts.length := by omega
      have HLL : Hid (CellsBox wr wl.heap.size 3 ((leftR P ts).map vi)) := by unfold Hid; rw [← LE.out]; exact HXR.out.2
      have HLN : Hid ((leftR P ts).length = ff.length) := by unfold Hid; rw [← LE.out]; exact HSR.out.1
      have HAA : Hid ((List.range ts.length).all G = true) := by
        unfold Hid; rw [List.all_eq_true]; exact fun j hj => HSR.out.2.2 j (List.mem_range.1 hj)
      have HAE : Hid (an = (leftR P ts).all (· == 0)) := by unfold Hid; rw [HAN.out, HAA.out, Bool.true_and]
      obtain ⟨Q, hQ⟩ : ∃ Q, Q = leftR P ts := ⟨_, rfl⟩
      rw [← hQ] at HLL HLN HAE
      obtain ⟨wp, rfl⟩ : ∃ wp : World, wp = wr := ⟨_, rfl⟩
      have HBp := hB
      clear hQ hB
      go_wp2_with fail
      go_loopw [15] (fun i wr => ∃ k : Nat, k ≤ ff.length ∧ i = .int .i64 k ∧ Below wp.heap.size wp wr ∧ Hid (∀ j y, j < k → Q[j]? = some y → y = 0)) (fun i _ => ff.length - (intOf i).toNat)
      case atStart => exact ⟨0, Nat.zero_le _, rfl, Below.refl _ _, fun j y hj => absurd hj (by omega)⟩
      obtain ⟨k, hk, rfl, hB, hz⟩ := hrel
      by_cases hlt : k < ff.length
      · obtain ⟨y, hy⟩ : ∃ y, Q[k]? = some y := ⟨_, List.getElem?_eq_getElem (by have := HLN.out; omega)⟩
        have hyc := ints_box_at (HLL.out.keep hB) hy
        have hkI : (k : Int) < ff.length := by omega
        have hk0 : (0 : Int) ≤ k := by omega
        have zk : wl.heap.size < wr.heap.size := cell_lt hyc
        by_cases h0 : y = 0
        · subst h0
          have HZ : Hid (∀ j y, j < k + 1 → Q[j]? = some y → y = 0) := fun j y' hj hy' => by
            by_cases e : j = k
            · subst e; rw [hy] at hy'; cases hy'; rfl
            · exact hz.out j y' (by omega) hy'
          clear hy hz
          go_wp2_with fail
          go_roundw
          case rel => exact ⟨k + 1, by omega, by go_num, hB, HZ.out⟩
          case measure => simp [intOf]; omega
        · have hne : (y != 0) = true := by simpa using h0
          have E : Hid (an = false) := by
            unfold Hid
            rw [HAE.out, List.all_eq_false]
            exact ⟨y, List.mem_of_getElem? hy, by simpa using h0⟩
          clear hy hz h0
          go_wp2_with fail
          go_ret2
          exact ⟨by rw [E.out]; rfl, gr_trans_w HBp hB⟩
      · obtain rfl : k = ff.length := by omega
        have E : Hid (an = true) := by
          unfold Hid
          rw [HAE.out, List.all_eq_true]
          intro y hy
          obtain ⟨j, hj, rfl⟩ := List.mem_iff_getElem.1 hy
          have := hz.out j _ (by rw [← HLN.out]; exact hj) (List.getElem?_eq_getElem hj)
          simpa using this
        go_wp2_with fail
        go_ret2
        exact ⟨by rw [E.out]; rfl, gr_trans_w HBp hB⟩
end Go.Proofs.YtomgnpfpaodpiaaDoor

/- The specification's IsTours and the program's say the same. -/
namespace Go.Proofs.YtomgnpfpaodpiaaDoor
open Go Go.RowKit
/-- how many pieces of a shelf lines have -/
def cntL (j : Nat) (l : List SLine) : Int := (l.map fun x => if x.shelf.toNat = j then x.many else 0).sum
theorem addL_get (sg : Int) : ∀ (l : List SLine) (p : List Int) (j : Nat), (addL sg p l)[j]? = (p[j]?).map fun y => y + sg * cntL j l
  | [], p, j => by
    have : addL sg p [] = p := rfl
    rw [this]
    cases p[j]? with
    | none => rfl
    | some y => simp [cntL]
  | x :: l, p, j => by
    have e : addL sg p (x :: l) = addL sg (p.set x.shelf.toNat (p[x.shelf.toNat]?.getD 0 + sg * x.many)) l := rfl
    rw [e, addL_get sg l, List.getElem?_set]
    have hc : cntL j (x :: l) = (if x.shelf.toNat = j then x.many else 0) + cntL j l := by simp [cntL]
    rw [hc]
    by_cases h : x.shelf.toNat = j
    · subst h
      simp only [if_true]
      by_cases hl : x.shelf.toNat < p.length
      · rw [if_pos hl, List.getElem?_eq_getElem hl]
        simp only [Option.map_some, Option.getD_some, Option.some.injEq]
        rw [Int.mul_add]; omega
      · rw [if_neg hl, List.getElem?_eq_none (by omega)]
        rfl
    · rw [if_neg h, if_neg h]
      simp
theorem pieces_addL (l : List SLine) : piecesF l = addL 1 (List.replicate 12 0) l := by
  unfold piecesF addL
  congr 1
  funext p x
  rw [Int.one_mul]
theorem pieces_get (l : List SLine) {j : Nat} (hj : j < 12) : (piecesF l)[j]? = some (cntL j l) := by
  rw [pieces_addL, addL_get, List.getElem?_replicate, if_pos hj]
  simp
theorem pieces_len (l : List SLine) : (piecesF l).length = 12 := by rw [pieces_addL, addL_len, List.length_replicate]
theorem without_get {p q : List Int} {j : Nat} {x y : Int} (hx : p[j]? = some x) (hy : q[j]? = some y) : (withoutF p q)[j]? = some (x - y) := by
  unfold withoutF
  rw [List.getElem?_map, (List.getElem?_zip_eq_some (z := (x, y))).2 ⟨hx, hy⟩]
  rfl
def cntT (j : Nat) (ts : List STour) : Int := (ts.map fun t => cntL j t.lines).sum
theorem leftK_get : ∀ (ts : List STour) (p : List Int) (j : Nat) (x : Int), j < 12 → p[j]? = some x → (leftK p ts ts.length)[j]? = some (x - cntT j ts)
  | [], p, j, x, _, h => by
    have : leftK p [] ([] : List STour).length = p := rfl
    rw [this, h]; simp [cntT]
  | t :: ts, p, j, x, hj, h => by
    have e : leftK p (t :: ts) (t :: ts).length = leftK (withoutF p (piecesF t.lines)) ts ts.length := by unfold leftK; rw [List.take_length, List.take_length]; rfl
    rw [e, leftK_get ts _ j (x - cntL j t.lines) hj (without_get h (pieces_get _ hj))]
    simp [cntT]; omega
theorem leftR_get : ∀ (ts : List STour) (p : List Int) (j : Nat), (leftR p ts)[j]? = (p[j]?).map fun y => y - cntT j ts
  | [], p, j => by
    have : leftR p [] = p := rfl
    rw [this]
    cases p[j]? with
    | none => rfl
    | some y => simp [cntT]
  | t :: ts, p, j => by
    have e : leftR p (t :: ts) = leftR (addL (-1) p t.lines) ts := rfl
    rw [e, leftR_get ts, addL_get]
    cases p[j]? with
    | none => rfl
    | some y => simp [cntT]; omega
theorem leftK_len : ∀ (ts : List STour) (p : List Int), p.length = 12 → (leftK p ts ts.length).length = 12
  | [], p, h => h
  | t :: ts, p, h => by
    have e : leftK p (t :: ts) (t :: ts).length = leftK (withoutF p (piecesF t.lines)) ts ts.length := by unfold leftK; rw [List.take_length, List.take_length]; rfl
    rw [e]
    exact leftK_len ts _ (withoutF_len h (pieces_len _))
theorem tour_same {f : Floor} (hf : f.far.length ≤ 12) (t : STour) : tourB f t.lines = goodR f t := by
  unfold tourB goodR linesB
  have : (List.range t.lines.length).all (goodLine f.far.length t.lines) = linesR f.far.length t.lines := rfl
  rw [this]
  cases h : linesR f.far.length t.lines with
  | false => simp
  | true =>
    have h1 := linesR_len (n := f.far.length) h
    congr 1
    rw [Bool.and_true, Bool.and_true]
    unfold hasB
    by_cases h0 : t.lines.length = 0
    · rw [h0]; rfl
    · have h2 : (1 : Int) ≤ t.lines.length := by omega
      have h3 : (t.lines.length : Int) ≤ 12 := by omega
      have h4 : (t.lines.length == 0) = false := by rw [beq_eq_false_iff_ne]; exact h0
      rw [decide_eq_true h2, decide_eq_true h3, h4]
      rfl
theorem cntL_far {n : Int} {l : List SLine} (h : ∀ x ∈ l, 0 ≤ x.shelf ∧ x.shelf < n) {j : Nat} (hj : n ≤ j) : cntL j l = 0 := by
  unfold cntL
  have : l.map (fun x => if x.shelf.toNat = j then x.many else 0) = l.map fun _ => (0 : Int) := List.map_congr_left fun x hx => by
    have := h x hx
    rw [if_neg (by omega)]
  rw [this]
  clear this h
  induction l with
  | nil => rfl
  | cons x l ih => rw [List.map_cons, List.sum_cons, ih]; rfl
theorem tours_same {f : Floor} (hv : validB f = true) {n : Nat} {s : SSlip} (hs : f.slips[n]? = some s) (ts : List STour) : toursB f (piecesF s.lines) ts = isToursR f s ts := by
  have hf := fine hv
  have e1 : ts.all (fun t => tourB f t.lines) = (List.range ts.length).all (fun k => match ts[k]? with | some t => goodR f t | none => true) := by
    have : (fun t : STour => tourB f t.lines) = fun t => goodR f t := funext fun t => tour_same hf.far12 t
    rw [this, Bool.eq_iff_iff, List.all_eq_true, List.all_eq_true]
    constructor
    · intro h k hk
      rw [List.getElem?_eq_getElem (List.mem_range.1 hk)]
      exact h _ (List.getElem_mem _)
    · intro h t ht
      obtain ⟨k, hk, rfl⟩ := List.mem_iff_getElem.1 ht
      have := h k (List.mem_range.2 hk)
      rwa [List.getElem?_eq_getElem hk] at this
  unfold toursB isToursR
  rw [e1]
  cases hg : (List.range ts.length).all (fun k => match ts[k]? with | some t => goodR f t | none => true) with
  | false => rfl
  | true =>
    rw [Bool.true_and, Bool.true_and, Bool.eq_iff_iff, decide_eq_true_eq, List.all_eq_true]
    rw [List.all_eq_true] at hg
    have hgt : ∀ t ∈ ts, linesR f.far.length t.lines = true := fun t ht => by
      obtain ⟨k, hk, rfl⟩ := List.mem_iff_getElem.1 ht
      have := hg k (List.mem_range.2 hk)
      rw [List.getElem?_eq_getElem hk] at this
      simp only [goodR, Bool.and_eq_true] at this
      exact this.1.2
    have hsl : ∀ x ∈ s.lines, 0 ≤ x.shelf ∧ x.shelf < (f.far.length : Int) := fun x hx => by
      obtain ⟨i, hi, rfl⟩ := List.mem_iff_getElem.1 hx
      exact (line_at hv hs (List.getElem?_eq_getElem hi)).1
    have htl : ∀ t ∈ ts, ∀ x ∈ t.lines, 0 ≤ x.shelf ∧ x.shelf < (f.far.length : Int) := fun t ht x hx => by
      obtain ⟨i, hi, rfl⟩ := List.mem_iff_getElem.1 hx
      have := (linesR_at (hgt t ht) i _ (List.getElem?_eq_getElem hi)).1
      omega
    have hct : ∀ j : Nat, f.far.length ≤ j → cntT j ts = 0 := fun j hj => by
      unfold cntT
      have : ts.map (fun t => cntL j t.lines) = ts.map fun _ => (0 : Int) := List.map_congr_left fun t ht => cntL_far (htl t ht) (by omega)
      rw [this]
      clear this
      generalize ts = us
      induction us with
      | nil => rfl
      | cons t us ih => rw [List.map_cons, List.sum_cons, ih]; rfl
    have hL : ∀ j : Nat, j < 12 → (leftK (piecesF s.lines) ts ts.length)[j]? = some (cntL j s.lines - cntT j ts) := fun j hj => leftK_get ts _ j _ hj (pieces_get _ hj)
    have hR : ∀ j : Nat, (leftR (addL 1 (List.replicate f.far.length 0) s.lines) ts)[j]? = if j < f.far.length then some (cntL j s.lines - cntT j ts) else none := fun j => by
      rw [leftR_get, addL_get, List.getElem?_replicate]
      split
      · simp
      · rfl
    constructor
    · intro h y hy
      obtain ⟨j, hj, rfl⟩ := List.mem_iff_getElem.1 hy
      have h1 := List.getElem?_eq_getElem hj
      rw [hR j] at h1
      split at h1
      · rename_i hjn
        have h2 := hL j (by have := hf.far12; omega)
        rw [h] at h2
        have h3 : ([0, 0, 0, 0, 0, 0, 0, 0, 0, 0, 0, 0] : List Int) = List.replicate 12 0 := rfl
        rw [h3, List.getElem?_replicate, if_pos (by have := hf.far12; omega)] at h2
        simp only [Option.some.injEq] at h1 h2
        rw [← h1, ← h2]
        rfl
      · cases h1
    · intro h
      have h3 : ([0, 0, 0, 0, 0, 0, 0, 0, 0, 0, 0, 0] : List Int) = List.replicate 12 0 := rfl
      rw [h3]
      apply List.ext_getElem?
      intro j
      rw [List.getElem?_replicate]
      by_cases hj : j < 12
      · rw [if_pos hj, hL j hj]
        by_cases hjn : j < f.far.length
        · have h1 := hR j
          rw [if_pos hjn] at h1
          have := h _ (List.mem_of_getElem? h1)
          simp only [beq_iff_eq] at this
          rw [this]
        · rw [cntL_far hsl (by omega), hct j (by omega)]
          rfl
      · rw [if_neg hj, List.getElem?_eq_none]
        rw [leftK_len ts _ (pieces_len _)]; omega
end Go.Proofs.YtomgnpfpaodpiaaDoor

/- The steps that tours take, by how far pieces are: the program's loads. -/
namespace Go.Proofs.YtomgnpfpaodpiaaDoor
open Go Go.RowKit
/-- how many pieces of some shelves there are -/
def maskS (g : Nat → Bool) : Nat → List Int → Int
  | _, [] => 0
  | i, x :: p => (if g i then x else 0) + maskS g (i + 1) p
theorem maskS_set {g : Nat → Bool} : ∀ (p : List Int) (i k : Nat) (x v : Int), p[k]? = some x → maskS g i (p.set k v) = maskS g i p + (if g (i + k) then v - x else 0)
  | [], _, _, _, _, h => by simp at h
  | y :: p, i, 0, x, v, h => by
    simp only [List.getElem?_cons_zero, Option.some.injEq] at h
    subst h
    rw [List.set_cons_zero, maskS, maskS, show i + 0 = i from rfl]
    by_cases hg : g i = true
    · rw [if_pos hg, if_pos hg, if_pos hg]; omega
    · rw [if_neg hg, if_neg hg, if_neg hg]; omega
  | y :: p, i, k + 1, x, v, h => by
    rw [List.getElem?_cons_succ] at h
    rw [List.set_cons_succ, maskS, maskS, maskS_set p (i + 1) k x v h, show i + 1 + k = i + (k + 1) by omega]
    omega
theorem maskS_nonneg {g : Nat → Bool} : ∀ (p : List Int) (i : Nat), (∀ n ∈ p, 0 ≤ n) → 0 ≤ maskS g i p
  | [], _, _ => Int.le_refl _
  | y :: p, i, h => by
    have h1 := h y (by simp)
    have h2 := maskS_nonneg (g := g) p (i + 1) (fun n hn => h n (by simp [hn]))
    rw [maskS]
    split <;> omega
theorem maskS_some {g : Nat → Bool} : ∀ (p : List Int) (i : Nat), (∀ n ∈ p, 0 ≤ n) → 1 ≤ maskS g i p → ∃ (k : Nat) (x : Int), p[k]? = some x ∧ 0 < x ∧ g (i + k) = true
  | [], i, _, h => by rw [maskS] at h; omega
  | y :: p, i, hp, h => by
    rw [maskS] at h
    have h1 := hp y (by simp)
    by_cases hc : g i = true ∧ 0 < y
    · exact ⟨0, y, rfl, hc.2, hc.1⟩
    · have h2 : 1 ≤ maskS g (i + 1) p := by
        by_cases hg : g i = true
        · rw [if_pos hg] at h
          have : ¬ 0 < y := fun e => hc ⟨hg, e⟩
          omega
        · rw [if_neg hg] at h; omega
      obtain ⟨k, x, e1, e2, e3⟩ := maskS_some p (i + 1) (fun n hn => hp n (by simp [hn])) h2
      exact ⟨k + 1, x, by rw [List.getElem?_cons_succ]; exact e1, e2, by rw [show i + (k + 1) = i + 1 + k by omega]; exact e3⟩
theorem maskS_ge {g : Nat → Bool} : ∀ (p : List Int) (i k : Nat) (x : Int), (∀ n ∈ p, 0 ≤ n) → p[k]? = some x → g (i + k) = true → x ≤ maskS g i p
  | [], _, _, _, _, h, _ => by simp at h
  | y :: p, i, 0, x, hp, h, hg => by
    simp only [List.getElem?_cons_zero, Option.some.injEq] at h
    subst h
    have := maskS_nonneg (g := g) p (i + 1) (fun n hn => hp n (by simp [hn]))
    rw [Nat.add_zero] at hg
    rw [maskS, if_pos hg]
    omega
  | y :: p, i, k + 1, x, hp, h, hg => by
    rw [List.getElem?_cons_succ] at h
    have h1 := hp y (by simp)
    have := maskS_ge p (i + 1) k x (fun n hn => hp n (by simp [hn])) h (by rw [show i + 1 + k = i + (k + 1) by omega]; exact hg)
    rw [maskS]
    split <;> omega
theorem maskS_zero {g : Nat → Bool} : ∀ (n i : Nat), maskS g i (List.replicate n 0) = 0
  | 0, _ => rfl
  | n + 1, i => by rw [List.replicate_succ, maskS, maskS_zero n]; split <;> rfl
theorem maskS_sub {g : Nat → Bool} : ∀ (p q : List Int) (i : Nat), p.length = q.length → maskS g i (withoutF p q) = maskS g i p - maskS g i q
  | [], [], _, _ => rfl
  | x :: p, y :: q, i, h => by
    have e : withoutF (x :: p) (y :: q) = (x - y) :: withoutF p q := rfl
    rw [e, maskS, maskS, maskS, maskS_sub p q (i + 1) (by simpa using h)]
    split <;> omega
  | [], _ :: _, _, h => by simp at h
  | _ :: _, [], _, h => by simp at h
theorem maskS_addL {g : Nat → Bool} (l : List SLine) : ∀ (p : List Int), (∀ x ∈ l, x.shelf.toNat < p.length) → maskS g 0 (addL 1 p l) = maskS g 0 p + (l.map fun x => if g x.shelf.toNat then x.many else 0).sum := by
  induction l with
  | nil => intro p _; simp [addL]
  | cons x l ih =>
    intro p h
    have hx := h x (by simp)
    have e : addL 1 p (x :: l) = addL 1 (p.set x.shelf.toNat (p[x.shelf.toNat]?.getD 0 + 1 * x.many)) l := rfl
    rw [e, ih _ (fun y hy => by rw [List.length_set]; exact h y (by simp [hy])), maskS_set p 0 x.shelf.toNat _ _ (List.getElem?_eq_getElem hx), List.getElem?_eq_getElem hx, List.map_cons, List.sum_cons, Nat.zero_add, Option.getD_some]
    split <;> omega
/-- how far a shelf is -/
def fkF (f : Floor) (k : Nat) : Int := (f.far[k]?).getD 0
def farB (f : Floor) (h : Int) (k : Nat) : Bool := decide (h ≤ fkF f k)
theorem far_mono {f : Floor} (hv : validB f = true) : ∀ (j k : Nat), j ≤ k → k < f.far.length → fkF f j ≤ fkF f k := by
  have step : ∀ k : Nat, k + 1 < f.far.length → fkF f k ≤ fkF f (k + 1) := fun k hk => by
    have hp := valid_parts hv
    unfold validB shelvesB at hv
    simp only [Bool.and_eq_true, List.all_eq_true, List.mem_range] at hv
    have hg := hv.1.1.1.1.2 (k + 1) hk
    have hkp : k + 1 < f.picks.length := by rw [hp.2.2.1]; exact hk
    rw [goodShelf_of (List.getElem?_eq_getElem hk) (List.getElem?_eq_getElem hkp), Bool.and_eq_true, Bool.and_eq_true] at hg
    have hc := hg.1.2
    change (match f.far[k]? with | some p => decide (p ≤ f.far[k + 1]) | none => true) = true at hc
    rw [List.getElem?_eq_getElem (show k < f.far.length by omega)] at hc
    simp only [decide_eq_true_eq] at hc
    unfold fkF
    rw [List.getElem?_eq_getElem hk, List.getElem?_eq_getElem (show k < f.far.length by omega)]
    exact hc
  intro j k h
  induction h with
  | refl => intro _; exact Int.le_refl _
  | @step m h ih => intro hk; exact Int.le_trans (ih (by omega)) (step m hk)
theorem fk_range {f : Floor} (hv : validB f = true) (k : Nat) : 0 ≤ fkF f k ∧ fkF f k ≤ 500 := by
  unfold fkF
  by_cases hk : k < f.far.length
  · rw [List.getElem?_eq_getElem hk]
    exact (fine hv).fars _ (List.getElem_mem hk)
  · rw [List.getElem?_eq_none (by omega)]; simp
/-- pieces that are on shelves of a floor -/
structure OnF (f : Floor) (p : List Int) : Prop where
  len : p.length = 12
  pos : ∀ n ∈ p, 0 ≤ n
  only : ∀ (k : Nat) (x : Int), p[k]? = some x → 0 < x → k < f.far.length
/-- c moves of the farthest piece -/
def movesP (p : List Int) : Nat → List Int × List Int
  | 0 => (p, List.replicate 12 0)
  | n + 1 => moveF (movesP p n)
theorem farthest_moves (c : Nat) (p : List Int) : farthestF c p = (movesP p c).2 := by
  unfold farthestF
  have : ∀ n : Nat, (n.rec (motive := fun _ => List Int × List Int) (p, List.replicate 12 0) fun _ x => moveF x) = movesP p n := by
    intro n
    induction n with
    | zero => rfl
    | succ n ih => rw [movesP, ← ih]
  rw [this]
theorem moves_spec {f : Floor} (hv : validB f = true) {p : List Int} (hp : OnF f p) : ∀ n : Nat, OnF f (movesP p n).1 ∧ OnF f (movesP p n).2 ∧ ∀ h : Int, maskS (farB f h) 0 (movesP p n).2 = min (n : Int) (maskS (farB f h) 0 p) ∧ maskS (farB f h) 0 (movesP p n).1 = maskS (farB f h) 0 p - min (n : Int) (maskS (farB f h) 0 p)
  | 0 => by
    refine ⟨hp, ⟨by simp [movesP], fun n hn => by rw [movesP, List.mem_replicate] at hn; omega, fun k x hx h0 => by rw [movesP, List.getElem?_replicate] at hx; split at hx <;> simp at hx; omega⟩, fun h => ?_⟩
    have := maskS_nonneg (g := farB f h) p 0 hp.pos
    simp only [movesP, maskS_zero]
    constructor <;> omega
  | n + 1 => by
    obtain ⟨i1, i2, i3⟩ := moves_spec hv hp n
    have hl := lastF_is (movesP p n).1
    rw [movesP, moveF]
    cases hk : lastF (movesP p n).1 with
    | none =>
      rw [hk] at hl
      dsimp only
      refine ⟨i1, i2, fun h => ?_⟩
      have h1 : maskS (farB f h) 0 (movesP p n).1 < 1 := by
        apply Classical.byContradiction
        intro hc
        obtain ⟨k, x, e1, e2, _⟩ := maskS_some (g := farB f h) _ 0 i1.pos (by omega)
        have := hl k x e1
        omega
      have h0 := maskS_nonneg (g := farB f h) p 0 hp.pos
      obtain ⟨j1, j2⟩ := i3 h
      constructor <;> omega
    | some k =>
      rw [hk] at hl
      dsimp only
      obtain ⟨⟨x, hx, hx0⟩, hno⟩ := hl
      have hkn := i1.only k x hx hx0
      have h12 := (fine hv).far12
      obtain ⟨y, hy⟩ : ∃ y, (movesP p n).2[k]? = some y := ⟨_, List.getElem?_eq_getElem (by rw [i2.len]; omega)⟩
      have hy0 := i2.pos y (List.mem_of_getElem? hy)
      simp only [hx, hy, Option.getD_some]
      refine ⟨⟨by rw [List.length_set]; exact i1.len, fun m hm => ?_, fun j z hz hz0 => ?_⟩, ⟨by rw [List.length_set]; exact i2.len, fun m hm => ?_, fun j z hz hz0 => ?_⟩, fun h => ?_⟩
      · rcases List.mem_or_eq_of_mem_set hm with hm | rfl
        · exact i1.pos m hm
        · omega
      · by_cases hj : k = j
        · omega
        · rw [List.getElem?_set_ne hj] at hz
          exact i1.only j z hz hz0
      · rcases List.mem_or_eq_of_mem_set hm with hm | rfl
        · exact i2.pos m hm
        · omega
      · by_cases hj : k = j
        · omega
        · rw [List.getElem?_set_ne hj] at hz
          exact i2.only j z hz hz0
      · obtain ⟨j1, j2⟩ := i3 h
        have h0 := maskS_nonneg (g := farB f h) p 0 hp.pos
        rw [maskS_set _ 0 k _ _ hx, maskS_set _ 0 k _ _ hy, Nat.zero_add]
        by_cases hg : farB f h k = true
        · have h1 := maskS_ge (g := farB f h) _ 0 k x i1.pos hx (by rw [Nat.zero_add]; exact hg)
          rw [if_pos hg, if_pos hg]
          constructor <;> omega
        · rw [if_neg hg, if_neg hg]
          have h1 : maskS (farB f h) 0 (movesP p n).1 < 1 := by
            apply Classical.byContradiction
            intro hc
            obtain ⟨j, z, e1, e2, e3⟩ := maskS_some (g := farB f h) _ 0 i1.pos (by omega)
            rw [Nat.zero_add] at e3
            have hjk : j ≤ k := by
              apply Classical.byContradiction
              intro hgt
              have := hno j z (by omega) e1
              omega
            have := far_mono hv j k hjk hkn
            unfold farB at e3 hg
            rw [decide_eq_true_eq] at e3 hg
            omega
          constructor <;> omega
end Go.Proofs.YtomgnpfpaodpiaaDoor

/- The steps of the program's loads and of the specification are the same: how many tours go so far, for each distance. -/
namespace Go.Proofs.YtomgnpfpaodpiaaDoor
open Go Go.RowKit
theorem moves_same (p : List Int) : ∀ n : Nat, movesF n p = movesP p n
  | 0 => rfl
  | n + 1 => by rw [movesF_succ, moves_same p n]; rfl
theorem OnF.twelve {f : Floor} {p : List Int} (h : OnF f p) : ∃ m, Twelve m p := by
  have : ∀ l : List Int, (∀ n ∈ l, 0 ≤ n) → ∃ m : Int, ∀ n ∈ l, n ≤ m := by
    intro l
    induction l with
    | nil => intro _; exact ⟨0, by simp⟩
    | cons x l ih =>
      intro hp
      obtain ⟨m, hm⟩ := ih (fun n hn => hp n (by simp [hn]))
      have := hp x (by simp)
      refine ⟨max m x, fun n hn => ?_⟩
      rcases List.mem_cons.1 hn with rfl | hn
      · omega
      · have := hm n hn; omega
  obtain ⟨m, hm⟩ := this p h.pos
  exact ⟨m, h.len, h.pos, hm⟩
theorem farthest_on {f : Floor} (hv : validB f = true) {p : List Int} (hp : OnF f p) (c : Nat) : OnF f (farthestF c p) ∧ OnF f (withoutF p (farthestF c p)) ∧ ∀ h : Int, maskS (farB f h) 0 (farthestF c p) = min (c : Int) (maskS (farB f h) 0 p) ∧ maskS (farB f h) 0 (withoutF p (farthestF c p)) = maskS (farB f h) 0 p - min (c : Int) (maskS (farB f h) 0 p) := by
  obtain ⟨m, hm⟩ := hp.twelve
  obtain ⟨h1, h2, h3⟩ := moves_spec hv hp c
  rw [without_moves hm c, moves_same, farthest_moves]
  exact ⟨h2, h1, h3⟩
theorem greatest_ge {h : Int} : ∀ (l : List Int) (a : Int), h ≤ greatestF a l ↔ h ≤ a ∨ ∃ y ∈ l, h ≤ y
  | [], a => by simp [greatestF]
  | x :: l, a => by
    have e : greatestF a (x :: l) = greatestF (max a x) l := rfl
    rw [e, greatest_ge l]
    constructor
    · rintro (h1 | ⟨y, hy, h1⟩)
      · rcases (show h ≤ a ∨ h ≤ x by omega) with h1 | h1
        · exact .inl h1
        · exact .inr ⟨x, by simp, h1⟩
      · exact .inr ⟨y, by simp [hy], h1⟩
    · rintro (h1 | ⟨y, hy, h1⟩)
      · exact .inl (by omega)
      · rcases List.mem_cons.1 hy with rfl | hy
        · exact .inl (by omega)
        · exact .inr ⟨y, hy, h1⟩
theorem linesFrom_in : ∀ (p : List Int) (j k : Nat) (n : Int), p[k]? = some n → 0 < n → (⟨((j + k : Nat) : Int), n⟩ : SLine) ∈ linesFrom j p
  | [], _, _, _, h, _ => by simp at h
  | a :: p, j, 0, n, h, h0 => by
    simp only [List.getElem?_cons_zero, Option.some.injEq] at h
    subst h
    rw [linesFrom, if_pos h0]
    simp
  | a :: p, j, k + 1, n, h, h0 => by
    rw [List.getElem?_cons_succ] at h
    have := linesFrom_in p (j + 1) k n h h0
    rw [show j + 1 + k = j + (k + 1) by omega] at this
    rw [linesFrom]
    split
    · exact List.mem_cons_of_mem _ this
    · exact this
theorem long_mask {f : Floor} {q : List Int} (hq : OnF f q) {h : Int} (h1 : 1 ≤ h) : h ≤ greatestF 0 (farsF f q) ↔ 1 ≤ maskS (farB f h) 0 q := by
  rw [greatest_ge]
  constructor
  · rintro (h2 | ⟨y, hy, h2⟩)
    · omega
    · obtain ⟨x, hx, rfl⟩ := List.mem_map.1 hy
      obtain ⟨k, e1, e2, e3⟩ := linesFrom_mem q 0 x hx
      have hk : x.shelf.toNat = k := by omega
      have := maskS_ge (g := farB f h) q 0 k x.many hq.pos e2 (by
        rw [Nat.zero_add]
        unfold farB fkF
        unfold farF at h2
        rw [hk] at h2
        simpa using h2)
      omega
  · intro h2
    obtain ⟨k, x, e1, e2, e3⟩ := maskS_some q 0 hq.pos h2
    rw [Nat.zero_add] at e3
    have := linesFrom_in q 0 k x e1 e2
    rw [Nat.zero_add] at this
    refine .inr ⟨farF f ⟨k, x⟩, List.mem_map.2 ⟨_, this, rfl⟩, ?_⟩
    unfold farB fkF at e3
    unfold farF
    simpa using e3
theorem long_sum {f : Floor} (hv : validB f = true) {q : List Int} (hq : OnF f q) : longF f q = 2 * PM.sumH (fun h => if 1 ≤ maskS (farB f h) 0 q then 1 else 0) 500 := by
  have hr := fars_range (fine hv) (q := q) hq.only
  have : PM.sumH (fun h => if 1 ≤ maskS (farB f h) 0 q then 1 else 0) 500 = PM.sumH (fun h => if (h : Int) ≤ greatestF 0 (farsF f q) then 1 else 0) 500 := PM.sumH_congr 500 fun i h1 _ => by
    have := long_mask hq (h := (i : Int)) (by omega)
    by_cases hc : (i : Int) ≤ greatestF 0 (farsF f q)
    · rw [if_pos hc, if_pos (this.1 hc)]
    · rw [if_neg hc, if_neg (fun e => hc (this.2 e))]
  rw [this, PM.sumH_one _ hr.1, longF]
  omega
theorem mask_sum {g : Nat → Bool} : ∀ (p : List Int) (i : Nat), (∀ n ∈ p, 0 ≤ n) → maskS g i p ≤ p.sum
  | [], _, _ => Int.le_refl _
  | x :: p, i, h => by
    have h1 := h x (by simp)
    have h2 := mask_sum (g := g) p (i + 1) (fun n hn => h n (by simp [hn]))
    rw [maskS, List.sum_cons]
    split <;> omega
theorem true_sum : ∀ (p : List Int) (i : Nat), maskS (fun _ => true) i p = p.sum
  | [], _ => rfl
  | x :: p, i => by rw [maskS, List.sum_cons, true_sum p]; rfl
theorem up_step {x : Int} {c : Nat} (hc : 1 ≤ c) (h0 : 0 ≤ x) : ((PM.upD x.toNat c : Nat) : Int) = (if 1 ≤ min (c : Int) x then 1 else 0) + ((PM.upD (x - min (c : Int) x).toNat c : Nat) : Int) := by
  by_cases h1 : x = 0
  · subst h1
    rw [if_neg (by omega), show (0 - min (c : Int) 0).toNat = 0 by omega, show (0 : Int).toNat = 0 from rfl, PM.up_zero hc]
    rfl
  · rw [if_pos (by omega)]
    by_cases h2 : x ≤ c
    · rw [PM.up_one (by omega) (by omega), show (x - min (c : Int) x).toNat = 0 by omega, PM.up_zero hc]
      rfl
    · obtain ⟨y, hy⟩ : ∃ y : Nat, x.toNat = c + y := ⟨x.toNat - c, by omega⟩
      rw [hy, PM.up_add hc, show (x - min (c : Int) x).toNat = y by omega]
      omega
theorem far_zero {f : Floor} (hv : validB f = true) {p : List Int} : maskS (farB f 0) 0 p = p.sum := by
  have : farB f 0 = fun _ => true := funext fun k => by
    unfold farB
    have := (fk_range hv k).1
    simpa using this
  rw [this, true_sum]
theorem loads_sum {f : Floor} (hv : validB f = true) {c : Nat} (hc : 1 ≤ c) : ∀ (n : Nat) (p : List Int), OnF f p → p.sum ≤ n → stepsL f (loadsF c n p) = 2 * PM.sumH (fun h => ((PM.upD (maskS (farB f h) 0 p).toNat c : Nat) : Int)) 500
  | 0, p, hp, hs => by
    have : (fun h : Nat => ((PM.upD (maskS (farB f h) 0 p).toNat c : Nat) : Int)) = fun _ => 0 := funext fun h => by
      have h1 := mask_sum (g := farB f h) p 0 hp.pos
      rw [show (maskS (farB f h) 0 p).toNat = 0 by omega, PM.up_zero hc]; rfl
    rw [this, PM.sumH_zero]
    rfl
  | n + 1, p, hp, hs => by
    rw [loadsF]
    by_cases hz : p.all (· == 0) = true
    · rw [if_pos hz]
      rw [List.all_eq_true] at hz
      have hall : ∀ n ∈ p, n = 0 := fun n hn => by simpa using hz n hn
      have h0 : p.sum ≤ 0 := by
        clear hs hp hz
        induction p with
        | nil => exact Int.le_refl _
        | cons x p ih =>
          have := hall x (by simp)
          have := ih (fun n hn => hall n (by simp [hn]))
          rw [List.sum_cons]; omega
      have : (fun h : Nat => ((PM.upD (maskS (farB f h) 0 p).toNat c : Nat) : Int)) = fun _ => 0 := funext fun h => by
        have h1 := mask_sum (g := farB f h) p 0 hp.pos
        rw [show (maskS (farB f h) 0 p).toNat = 0 by omega, PM.up_zero hc]; rfl
      rw [this, PM.sumH_zero]
      rfl
    · rw [if_neg hz]
      obtain ⟨h1, h2, h3⟩ := farthest_on hv hp c
      have hpos : 1 ≤ p.sum := by
        apply Classical.byContradiction
        intro hn
        apply hz
        rw [List.all_eq_true]
        intro x hx
        have := zeros_of_sum p hp.pos (by omega) x hx
        simp [this]
      have hs2 : (withoutF p (farthestF c p)).sum ≤ n := by
        have := (h3 0).2
        rw [far_zero hv, far_zero hv] at this
        omega
      have e : stepsL f (farthestF c p :: loadsF c n (withoutF p (farthestF c p))) = longF f (farthestF c p) + stepsL f (loadsF c n (withoutF p (farthestF c p))) := by simp [stepsL]
      rw [e, loads_sum hv hc n _ h2 hs2, long_sum hv h1, ← Int.mul_add, ← PM.sumH_add]
      refine congrArg (fun x : Int => 2 * x) ?_
      refine PM.sumH_congr _ fun i _ _ => ?_
      obtain ⟨j1, j2⟩ := h3 i
      rw [j1, j2]
      exact (up_step hc (maskS_nonneg p 0 hp.pos)).symm
/-- the distances of pieces, the farthest first -/
def distF (f : Floor) : List SLine → List Int
  | [] => []
  | x :: l => distF f l ++ List.replicate x.many.toNat (farF f x)
theorem iter_fold (C d : Int) : ∀ (n : Nat) (st : Int × Int), iterP (stepP C d) n st = (List.replicate n d).foldl (fun st d => stepP C d st) st
  | 0, st => rfl
  | n + 1, st => by
    rw [iterP, iter_fold C d n st, List.replicate_succ', List.foldl_append]
    rfl
theorem state_fold (f : Floor) : ∀ l : List SLine, stateR f l = (distF f l).foldl (fun st d => stepP f.carry d st) (0, 0)
  | [] => rfl
  | x :: l => by
    have e : stateR f (x :: l) = iterP (stepP f.carry (farF f x)) x.many.toNat (stateR f l) := rfl
    rw [e, iter_fold, state_fold f l, distF, List.foldl_append]
theorem st_fuel {C : Nat} (hC : 1 ≤ C) : ∀ (n m : Nat) (D : List Int), D.length ≤ n → D.length ≤ m → PM.stD C n D = PM.stD C m D
  | 0, m, D, h, _ => by
    obtain rfl := List.length_eq_zero_iff.1 (show D.length = 0 by omega)
    cases m <;> rfl
  | n + 1, 0, D, _, h => by
    obtain rfl := List.length_eq_zero_iff.1 (show D.length = 0 by omega)
    rfl
  | n + 1, m + 1, [], _, _ => rfl
  | n + 1, m + 1, d :: D, h, k => by
    rw [PM.stD, PM.stD, st_fuel hC n m ((d :: D).drop C) (by rw [List.length_drop]; simp at h ⊢; omega) (by rw [List.length_drop]; simp at k ⊢; omega)]
theorem fold_st {C : Nat} (hC : 1 ≤ C) : ∀ (D : List Int) (acc : Int) (r : Nat), (D.foldl (fun st d => stepP C d st) (acc, (r : Int))).1 = acc + PM.stD C D.length (D.drop r)
  | [], acc, r => by simp [PM.stD]
  | d :: D, acc, 0 => by
    have e : (d :: D).foldl (fun st d => stepP C d st) (acc, ((0 : Nat) : Int)) = D.foldl (fun st d => stepP C d st) (acc + 2 * d, ((C - 1 : Nat) : Int)) := by
      have h1 : ((C - 1 : Nat) : Int) = (C : Int) - 1 := by omega
      rw [List.foldl_cons, h1]
      rfl
    rw [e, fold_st hC D, List.drop_zero, List.length_cons, PM.stD]
    have e2 : (d :: D).drop C = D.drop (C - 1) := by
      obtain ⟨c, rfl⟩ : ∃ c, C = c + 1 := ⟨C - 1, by omega⟩
      rfl
    rw [e2]
    omega
  | d :: D, acc, r + 1 => by
    have e : (d :: D).foldl (fun st d => stepP C d st) (acc, ((r + 1 : Nat) : Int)) = D.foldl (fun st d => stepP C d st) (acc, (r : Int)) := by
      have h1 : stepP C (acc, ((r + 1 : Nat) : Int)).1 (acc, ((r + 1 : Nat) : Int)) = stepP C (acc, ((r + 1 : Nat) : Int)).1 (acc, ((r + 1 : Nat) : Int)) := rfl
      clear h1
      have h2 : stepP C d (acc, ((r + 1 : Nat) : Int)) = (acc, (r : Int)) := by
        unfold stepP
        rw [if_neg (show ¬ ((r + 1 : Nat) : Int) = 0 by omega)]
        simp
      rw [List.foldl_cons, h2]
    rw [e, fold_st hC D, List.drop_succ_cons, List.length_cons]
    rw [st_fuel hC D.length (D.length + 1) (D.drop r) (by rw [List.length_drop]; omega) (by rw [List.length_drop]; omega)]
end Go.Proofs.YtomgnpfpaodpiaaDoor

/- The specification's steps and seconds are the program's. -/
namespace Go.Proofs.YtomgnpfpaodpiaaDoor
open Go Go.RowKit
theorem cnt_rep (h d : Int) : ∀ n : Nat, PM.cnt h (List.replicate n d) = if h ≤ d then n else 0
  | 0 => by simp [PM.cnt]
  | n + 1 => by
    have := cnt_rep h d n
    unfold PM.cnt at this ⊢
    rw [List.replicate_succ, List.countP_cons, this]
    by_cases hc : h ≤ d <;> simp [hc]
theorem cnt_dist (f : Floor) (h : Int) : ∀ l : List SLine, (∀ x ∈ l, 0 ≤ x.many) → ((PM.cnt h (distF f l) : Nat) : Int) = (l.map fun x => if farB f h x.shelf.toNat then x.many else 0).sum
  | [], _ => rfl
  | x :: l, hx => by
    have h1 := cnt_dist f h l (fun y hy => hx y (by simp [hy]))
    have h2 := hx x (by simp)
    rw [distF, PM.cnt_app, cnt_rep, List.map_cons, List.sum_cons, ← h1]
    have e : farB f h x.shelf.toNat = decide (h ≤ farF f x) := rfl
    rw [e]
    by_cases hc : h ≤ farF f x
    · rw [if_pos hc, if_pos (by simpa using hc)]; omega
    · rw [if_neg hc, if_neg (by simpa using hc)]; omega
theorem dist_mem (f : Floor) : ∀ (l : List SLine) (d : Int), d ∈ distF f l → ∃ x ∈ l, d = farF f x
  | [], d, h => by simp [distF] at h
  | x :: l, d, h => by
    rw [distF, List.mem_append] at h
    rcases h with h | h
    · obtain ⟨y, hy, e⟩ := dist_mem f l d h
      exact ⟨y, by simp [hy], e⟩
    · exact ⟨x, by simp, (List.mem_replicate.1 h).2⟩
theorem dist_sorted (f : Floor) : ∀ l : List SLine, l.Pairwise (fun x y => farF f x ≤ farF f y) → (distF f l).Pairwise (· ≥ ·)
  | [], _ => by simp [distF]
  | x :: l, h => by
    obtain ⟨h1, h2⟩ := List.pairwise_cons.1 h
    rw [distF, List.pairwise_append]
    refine ⟨dist_sorted f l h2, List.pairwise_replicate.2 (.inr (Int.le_refl _)), fun a ha b hb => ?_⟩
    obtain ⟨y, hy, rfl⟩ := dist_mem f l a ha
    rw [(List.mem_replicate.1 hb).2]
    exact h1 y hy
theorem shelf_sorted {n : Int} {l : List SLine} (h : linesR n l = true) : l.Pairwise (fun x y => x.shelf < y.shelf) := by
  have step : ∀ (k : Nat) (x y : SLine), l[k]? = some x → l[k + 1]? = some y → x.shelf < y.shelf := fun k x y hx hy => by
    have hk := (List.getElem?_eq_some_iff.1 hy).1
    unfold linesR at h
    rw [List.all_eq_true] at h
    have := h (k + 1) (List.mem_range.2 hk)
    rw [goodLine_ref hy, Bool.and_eq_true, nextF_succ hx] at this
    have := hasB_iff.1 this.1
    omega
  rw [List.pairwise_iff_getElem]
  intro i j hi hj hij
  have key : ∀ d : Nat, (hd : i + 1 + d < l.length) → l[i].shelf < l[i + 1 + d].shelf := by
    intro d
    induction d with
    | zero => intro hd; exact step i _ _ (List.getElem?_eq_getElem hi) (List.getElem?_eq_getElem hd)
    | succ d ih =>
      intro hd
      have h1 := ih (by omega)
      have h2 := step (i + 1 + d) _ _ (List.getElem?_eq_getElem (by omega)) (List.getElem?_eq_getElem hd)
      exact Int.lt_trans h1 h2
  have := key (j - i - 1) (by omega)
  have e : i + 1 + (j - i - 1) = j := by omega
  simp only [e] at this
  exact this
theorem far_sorted {f : Floor} (hv : validB f = true) {l : List SLine} (h : linesR f.far.length l = true) : l.Pairwise (fun x y => farF f x ≤ farF f y) := by
  refine List.Pairwise.imp_of_mem (fun {a b} ha hb hab => ?_) (shelf_sorted h)
  obtain ⟨i, hi, rfl⟩ := List.mem_iff_getElem.1 ha
  obtain ⟨j, hj, rfl⟩ := List.mem_iff_getElem.1 hb
  have h1 := (linesR_at h i _ (List.getElem?_eq_getElem hi)).1
  have h2 := (linesR_at h j _ (List.getElem?_eq_getElem hj)).1
  exact far_mono hv _ _ (by omega) (by omega)
theorem cntL_nonneg (j : Nat) : ∀ l : List SLine, (∀ x ∈ l, 0 ≤ x.many) → 0 ≤ cntL j l
  | [], _ => Int.le_refl _
  | x :: l, h => by
    have h1 := h x (by simp)
    have h2 := cntL_nonneg j l (fun y hy => h y (by simp [hy]))
    have e : cntL j (x :: l) = (if x.shelf.toNat = j then x.many else 0) + cntL j l := by simp [cntL]
    rw [e]
    split <;> omega
theorem pieces_on {f : Floor} (hf : f.far.length ≤ 12) {l : List SLine} (h : ∀ x ∈ l, (0 ≤ x.shelf ∧ x.shelf < (f.far.length : Int)) ∧ 0 ≤ x.many) : OnF f (piecesF l) := by
  refine ⟨pieces_len l, fun n hn => ?_, fun k x hx h0 => ?_⟩
  · obtain ⟨k, hk, rfl⟩ := List.mem_iff_getElem.1 hn
    have h1 := pieces_get l (j := k) (by rw [pieces_len] at hk; exact hk)
    rw [List.getElem?_eq_getElem hk] at h1
    simp only [Option.some.injEq] at h1
    rw [h1]
    exact cntL_nonneg k l (fun x hx => (h x hx).2)
  · have hk : k < 12 := by have := (List.getElem?_eq_some_iff.1 hx).1; rwa [pieces_len] at this
    rw [pieces_get l hk] at hx
    apply Classical.byContradiction
    intro hc
    rw [cntL_far (fun x hx => (h x hx).1) (by omega)] at hx
    simp only [Option.some.injEq] at hx
    omega
theorem slip_lines {f : Floor} (hv : validB f = true) {k : Nat} {s : SSlip} (hs : f.slips[k]? = some s) : linesR f.far.length s.lines = true ∧ (∀ x ∈ s.lines, (0 ≤ x.shelf ∧ x.shelf < (f.far.length : Int)) ∧ 1 ≤ x.many ∧ x.many ≤ 20) ∧ 1 ≤ s.lines.length ∧ s.lines.length ≤ 12 := by
  have hl := ((fine hv).slips s (List.mem_of_getElem? hs)).2.2
  obtain ⟨h1, h2, h3⟩ := linesB_ok hl
  have e : linesB f.far.length s.lines = (hasB 1 12 s.lines.length && linesR f.far.length s.lines) := rfl
  rw [e, Bool.and_eq_true] at hl
  refine ⟨hl.2, fun x hx => ?_, h1, h2⟩
  obtain ⟨i, hi, rfl⟩ := List.mem_iff_getElem.1 hx
  obtain ⟨g1, g2, g3, g4⟩ := h3 i _ (List.getElem?_eq_getElem hi)
  exact ⟨⟨g1, g2⟩, g3, g4⟩
theorem steps_same {f : Floor} (hv : validB f = true) {k : Nat} {s : SSlip} (hs : f.slips[k]? = some s) : rstepsF f s = stepsF f s := by
  have hf := fine hv
  obtain ⟨h1, h2, h3, h4⟩ := slip_lines hv hs
  obtain ⟨c, hc⟩ : ∃ c : Nat, f.carry = c := ⟨f.carry.toNat, by have := hf.carry1; omega⟩
  have hc1 : 1 ≤ c := by have := hf.carry1; omega
  have hon := pieces_on hf.far12 (fun x hx => ⟨(h2 x hx).1, by have := (h2 x hx).2.1; omega⟩)
  have hsum : 0 ≤ (piecesF s.lines).sum := sum_nonneg _ hon.pos
  rw [stepsF, loadsOf, hc, Int.toNat_natCast, loads_sum hv hc1 _ _ hon (by omega)]
  rw [rstepsF, state_fold, hc]
  have e1 := fold_st hc1 (distF f s.lines) 0 0
  rw [List.drop_zero, Int.zero_add] at e1
  rw [show ((0 : Int), (0 : Int)) = (0, ((0 : Nat) : Int)) from rfl, e1, PM.st_sum hc1 500 _ _ (Nat.le_refl _) (dist_sorted f _ (far_sorted hv h1)) (fun d hd => by
    obtain ⟨x, hx, rfl⟩ := dist_mem f _ d hd
    exact fk_range hv x.shelf.toNat)]
  refine congrArg (fun x : Int => 2 * x) (PM.sumH_congr _ fun i _ _ => ?_)
  have e2 := cnt_dist f (i : Int) s.lines (fun x hx => by have := (h2 x hx).2.1; omega)
  have e3 := maskS_addL (g := farB f (i : Int)) s.lines (List.replicate 12 0) (fun x hx => by have := (h2 x hx).1; have := hf.far12; rw [List.length_replicate]; omega)
  rw [maskS_zero, Int.zero_add, ← pieces_addL, ← e2] at e3
  rw [e3, Int.toNat_natCast]
theorem takes_same {f : Floor} (hv : validB f = true) {k : Nat} {s : SSlip} (hs : f.slips[k]? = some s) : rtakesF f s = takesF f s := by
  have key : ∀ m : Nat, m ≤ s.lines.length → rtakesK f s.lines (rstepsF f s * f.slo, rstepsF f s * f.shi) m = (secsKLo f s.lines (stepsF f s) m, secsKHi f s.lines (stepsF f s) m) := by
    intro m
    induction m with
    | zero =>
      intro _
      rw [steps_same hv hs]
      rfl
    | succ m ih =>
      intro hm
      obtain ⟨x, hx⟩ : ∃ x, s.lines[m]? = some x := ⟨_, List.getElem?_eq_getElem (by omega)⟩
      rw [rtakesK_succ hx, ih (by omega), addP, secsKLo, secsKHi, hx]
      rfl
  have e : rtakesF f s = rtakesK f s.lines (rstepsF f s * f.slo, rstepsF f s * f.shi) s.lines.length := by rw [rtakesK, List.take_length, rtakesF]
  rw [e, key _ (Nat.le_refl _)]
  rfl
end Go.Proofs.YtomgnpfpaodpiaaDoor

/- Contract of sound: it says whether a floor is valid. -/
namespace Go.Proofs.YtomgnpfpaodpiaaDoor
open Go Go.RowKit
set_option maxHeartbeats 4000000
theorem valid_shelf {f : Floor} (hv : validB f = true) {k : Nat} {x : Int} {q : Int × Int} (hx : f.far[k]? = some x) (hq : f.picks[k]? = some q) : hasB 0 500 x = true ∧ properB q.1 q.2 0 300 = true ∧ ∀ (i : Nat) (p : Int), k = i + 1 → f.far[i]? = some p → p ≤ x := by
  have hk : k < f.far.length := (List.getElem?_eq_some_iff.1 hx).1
  rw [valid_head, Bool.and_eq_true, Bool.and_eq_true, List.all_eq_true] at hv
  have hg := hv.2.1 k (List.mem_range.2 hk)
  rw [goodShelf_of hx hq, Bool.and_eq_true, Bool.and_eq_true, ← proper_within] at hg
  refine ⟨hg.1.1, hg.2, fun i p hi hp => ?_⟩
  subst hi
  have hc := hg.1.2
  change (match f.far[i]? with | some p => decide (p ≤ x) | none => true) = true at hc
  rw [hp] at hc
  simpa using hc
theorem valid_line {f : Floor} (hv : validB f = true) {n : Nat} {s : SSlip} (hs : f.slips[n]? = some s) : ∀ (m : Nat) (x : SLine), s.lines[m]? = some x → hasB 0 ((f.far.length : Int) - 1) x.shelf = true ∧ hasB 1 20 x.many = true ∧ (m : Int) ≤ x.shelf ∧ ∀ (i : Nat) (p : SLine), m = i + 1 → s.lines[i]? = some p → p.shelf < x.shelf := by
  have hl := (slip_lines hv hs).1
  unfold linesR at hl
  rw [List.all_eq_true] at hl
  have key : ∀ (m : Nat) (x : SLine), s.lines[m]? = some x → (nextF s.lines m ≤ x.shelf ∧ x.shelf ≤ (f.far.length : Int) - 1) ∧ hasB 1 20 x.many = true := fun m x hx => by
    have hg := hl m (List.mem_range.2 (List.getElem?_eq_some_iff.1 hx).1)
    rw [goodLine_ref hx, Bool.and_eq_true, hasB_iff] at hg
    exact hg
  intro m
  induction m with
  | zero =>
    intro x hx
    obtain ⟨⟨h1, h2⟩, h3⟩ := key 0 x hx
    have h1 : 0 ≤ x.shelf := h1
    exact ⟨hasB_iff.2 ⟨h1, h2⟩, h3, by omega, fun i p hi => by omega⟩
  | succ m ih =>
    intro x hx
    obtain ⟨⟨h1, h2⟩, h3⟩ := key (m + 1) x hx
    have hm : m < s.lines.length := by have := (List.getElem?_eq_some_iff.1 hx).1; omega
    have hp := ih _ (List.getElem?_eq_getElem hm)
    rw [nextF_succ (List.getElem?_eq_getElem hm)] at h1
    refine ⟨hasB_iff.2 ⟨by omega, h2⟩, h3, by omega, fun i p hi hip => ?_⟩
    obtain rfl : i = m := by omega
    rw [List.getElem?_eq_getElem hm] at hip
    obtain rfl := Option.some.inj hip
    omega
theorem valid_count {f : Floor} (hv : validB f = true) {n : Nat} {s : SSlip} (hs : f.slips[n]? = some s) : hasB 0 100000 s.till = true ∧ hasB 1 f.far.length s.lines.length = true := by
  have hp := (valid_parts hv).2.2.2.2.2.2 n s hs
  have h1 := (slip_lines hv hs).2.2.1
  have hlt : s.lines.length - 1 < s.lines.length := by omega
  obtain ⟨h2, _, h3, _⟩ := valid_line hv hs _ _ (List.getElem?_eq_getElem hlt)
  rw [hasB_iff] at h2
  exact ⟨hasB_iff.2 hp.1, hasB_iff.2 ⟨by omega, by omega⟩⟩
theorem sound_no (f : Floor) (w : World) (hl : Lim w) (h : FloorAt w w.heap.size f) (hv : validB f = false) :
    Calls Tryd.prog 35 #[f.val] w fun e w' => e = .returned (.bool false) ∧ Below w.heap.size w w' := by
  have VA := Lib.hid (fun (W : World) hL hW => check_is (f := f) (e := 30) (by unfold checkV; simp [hv]) W hL hW)
  have HL := Lib.hid hl
  have HF := Lib.hid h
  clear h hl hv
  obtain ⟨fA, fC, ff, slo, shi, pA, pC, fp, fc, sA, sC, fs⟩ := f
  show Calls Tryd.prog 35 #[.agg #[.slice fA ff.length fC, vi slo, vi shi, .slice pA fp.length pC, vi fc, .slice sA fs.length sC]] w _
  go_enter Tryd.func35, Tryd.ntmps35
  go_wp2_with fail
  refine (VA.out _ (HL.out.next (by (repeat (first | exact Below.refl _ _ | refine Below.setCell ?_ (by first | omega | (simp; omega) | (simp; done)) _ | refine Below.alloc ?_ (by first | omega | (simp; omega) | (simp; done)) _ | refine Below.drew ?_ | refine below_drewN ?_ _ | refine Below.trans ?_ (Below.mono (by assumption) (by first | omega | (simp; omega) | (simp; done))))))) (HF.out.to (by (repeat (first | exact Below.refl _ _ | refine Below.setCell ?_ (by first | omega | (simp; omega) | (simp; done)) _ | refine Below.alloc ?_ (by first | omega | (simp; omega) | (simp; done)) _ | refine Below.drew ?_ | refine below_drewN ?_ _ | refine Below.trans ?_ (Below.mono (by assumption) (by first | omega | (simp; omega) | (simp; done)))))))).mono ?_
  rintro e W ⟨rfl, hb⟩
  have HB0 : Below w.heap.size w W := by (repeat (first | exact Below.refl _ _ | refine Below.setCell ?_ (by first | omega | (simp; omega) | (simp; done)) _ | refine Below.alloc ?_ (by first | omega | (simp; omega) | (simp; done)) _ | refine Below.drew ?_ | refine below_drewN ?_ _ | refine Below.trans ?_ (Below.mono (by assumption) (by first | omega | (simp; omega) | (simp; done)))))
  clear hb
  go_wp2_with fail
  go_rounds 2
  go_wp2_with fail
  go_rounds 2
  go_wp2_with fail
  go_ret
  exact ⟨rfl, HB0⟩
set_option maxRecDepth 100000 in
theorem sound_yes (f : Floor) (w : World) (hl : Lim w) (h : FloorAt w w.heap.size f) (hv : validB f = true) :
    Calls Tryd.prog 35 #[f.val] w fun e w' => e = .returned (.bool true) ∧ Below w.heap.size w w' := by
  have VA := Lib.hid (fun (W : World) hL hW => check_is (f := f) (e := 0) (by unfold checkV; simp [hv]) W hL hW)
  have HL := Lib.hid hl
  have HF := Lib.hid h
  have h1l := h.far.lens
  have h2l := h.picks.lens
  have h3l := h.slips.lens
  have SF := Lib.hid (fun (k : Nat) (x : Int) (q : Int × Int) hx hq => valid_shelf (f := f) hv (k := k) (x := x) (q := q) hx hq)
  have SL := Lib.hid (fun (n : Nat) (s : SSlip) hs => valid_line (f := f) hv (n := n) (s := s) hs)
  have SC := Lib.hid (fun (n : Nat) (s : SSlip) hs => valid_count (f := f) hv (n := n) (s := s) hs)
  have hh : headB f = true := by rw [valid_head, Bool.and_eq_true] at hv; exact hv.1
  clear h hl hv
  unfold headB at hh
  simp only [Bool.and_eq_true, decide_eq_true_eq] at hh
  obtain ⟨fA, fC, ff, slo, shi, pA, pC, fp, fc, sA, sC, fs⟩ := f
  simp only at h1l h2l h3l hh SF SL SC
  obtain ⟨h1, h2, h3, h4, h5⟩ := hh
  have H1 := Lib.hid h1
  have H3 := Lib.hid h3
  have H4 := Lib.hid h4
  have h2e : ((fp.length : Int) == (ff.length : Int)) = true := by simp [h2]
  have h5d : decide ((fs.length : Int) ≤ 9) = true := by simp; omega
  have H2 := Lib.hid h2
  show Calls Tryd.prog 35 #[.agg #[.slice fA ff.length fC, vi slo, vi shi, .slice pA fp.length pC, vi fc, .slice sA fs.length sC]] w _
  clear h1 h3 h4 h2
  go_enter Tryd.func35, Tryd.ntmps35
  go_wp2_with fail
  refine (VA.out _ (HL.out.next (by (repeat (first | exact Below.refl _ _ | refine Below.setCell ?_ (by first | omega | (simp; omega) | (simp; done)) _ | refine Below.alloc ?_ (by first | omega | (simp; omega) | (simp; done)) _ | refine Below.drew ?_ | refine below_drewN ?_ _ | refine Below.trans ?_ (Below.mono (by assumption) (by first | omega | (simp; omega) | (simp; done))))))) (HF.out.to (by (repeat (first | exact Below.refl _ _ | refine Below.setCell ?_ (by first | omega | (simp; omega) | (simp; done)) _ | refine Below.alloc ?_ (by first | omega | (simp; omega) | (simp; done)) _ | refine Below.drew ?_ | refine below_drewN ?_ _ | refine Below.trans ?_ (Below.mono (by assumption) (by first | omega | (simp; omega) | (simp; done)))))))).mono ?_
  rintro e W0 ⟨rfl, hb0⟩
  have HB00 : Below w.heap.size w W0 := by (repeat (first | exact Below.refl _ _ | refine Below.setCell ?_ (by first | omega | (simp; omega) | (simp; done)) _ | refine Below.alloc ?_ (by first | omega | (simp; omega) | (simp; done)) _ | refine Below.drew ?_ | refine below_drewN ?_ _ | refine Below.trans ?_ (Below.mono (by assumption) (by first | omega | (simp; omega) | (simp; done)))))
  have X00 : CellsBox W0 w.heap.size 28 [.slice fA ff.length fC, vi slo, vi shi, .slice pA fp.length pC, vi fc, .slice sA fs.length sC] := (CellsBox.new w _ _).keep hb0
  have a0 := X00.cell (j := 0) rfl
  have a1 := X00.cell (j := 1) rfl
  have a2 := X00.cell (j := 2) rfl
  have a3 := X00.cell (j := 3) rfl
  have a4 := X00.cell (j := 4) rfl
  have a5 := X00.cell (j := 5) rfl
  have za := X00.lt
  have HX0 := Lib.hid X00
  clear hb0 X00
  go_wp2_with (first | (go_at_call_of 39 ff; refine (tween_is H1.out _).mono ?_; rintro e w1 ⟨rfl, rfl⟩) | (go_at_call 58; refine (proper_is H3.out _).mono ?_; rintro e w1 ⟨rfl, hb1⟩; obtain ⟨⟨hc1, hf1, hs1⟩, hz1⟩ := after hb1; (try simp only [World.size_alloc, World.size_setCell, World.size_drew] at hz1)) | (go_at_call_of 39 fc; refine (tween_is H4.out _).mono ?_; rintro e w1 ⟨rfl, rfl⟩))
  have HB1 : Below W0.heap.size W0 w1 := hb1
  have HB0 : Below w.heap.size w w1 := HB00.trans (HB1.mono HB00.size)
  have HX := Lib.hid (HX0.out.keep HB1)
  clear hb1 hc1 hf1 hs1 hz1 HX0 h2e h5d a0 a1 a2 a3 a4 a5 za HB00 HB1
  obtain ⟨W, rfl⟩ : ∃ W, W = w1 := ⟨_, rfl⟩
  go_loopw [3, 4] (fun ok i wr => ∃ (k : Nat), k ≤ ff.length ∧ i = .int .i64 k ∧ ok = .bool true ∧ Below W.heap.size W wr) (fun _ i _ => ff.length - (intOf i).toNat)
  case atStart => exact ⟨0, Nat.zero_le _, rfl, rfl, Below.refl _ _⟩
  obtain ⟨k, hk, rfl, rfl, hB⟩ := hrel
  have HBr : Below w.heap.size w wr := HB0.trans (hB.mono HB0.size)
  have XR := HX.out.keep hB
  have a0 := XR.cell (j := 0) rfl
  have a2 := XR.cell (j := 3) rfl
  have a5 := XR.cell (j := 5) rfl
  have za := XR.lt
  have HXR := Lib.hid XR
  clear XR
  by_cases hlt : k < ff.length
  · obtain ⟨x, hx⟩ : ∃ x, ff[k]? = some x := ⟨_, List.getElem?_eq_getElem hlt⟩
    obtain ⟨q, hq⟩ : ∃ q, fp[k]? = some q := ⟨_, List.getElem?_eq_getElem (by have := H2.out; omega)⟩
    obtain ⟨pb, po, rfl, hpb, q0, q1⟩ := row2 (HF.out.picks.to HBr).row hq rfl
    obtain ⟨t1, t2, t3⟩ := SF.out k x q hx hq
    have T1 := Lib.hid t1
    have T2 := Lib.hid t2
    have hkI : (k : Int) < ff.length := by omega
    have hkP : (k : Int) < fp.length := by have := H2.out; omega
    have h0k : (0 : Int) ≤ k := by omega
    clear hq t1 t2
    obtain ⟨qa, qb⟩ := q
    simp only at q0 q1 T2
    obtain ⟨bb, off, rfl, hbb, x0⟩ := ints_at (HF.out.far.to HBr) hx
    have zbb : bb < wr.heap.size := hbb
    rcases hz : ((k : Int) == 0) with _ | _
    · have hk1 : 1 ≤ k := by have := beq_eq_false_iff_ne.1 hz; omega
      obtain ⟨i, hi⟩ : ∃ i, k = i + 1 := ⟨k - 1, by omega⟩
      obtain ⟨p, hp⟩ : ∃ p, ff[i]? = some p := ⟨_, List.getElem?_eq_getElem (by omega)⟩
      have t4 := t3 i p hi hp
      obtain ⟨b', off', e', hbb', p0⟩ := ints_at (HF.out.far.to HBr) hp
      simp only [Option.some.injEq, Addr.mk.injEq, and_true] at e'
      obtain ⟨rfl, rfl⟩ := e'
      have hd : decide (p ≤ x) = true := by simp [t4]
      have hw1 : IntKind.wrap .i64 ((k : Int) - 1) = (i : Int) := by rw [wrapI (by omega) (by omega)]; omega
      have hiI : (i : Int) < ff.length := by omega
      have h0i : (0 : Int) ≤ i := by omega
      clear hx hp t3 t4 hk1 hi
      go_wp2_with fail
      (refine wp_region_grow_lit (by kernel_rfl) (by kernel_rfl) ?_; (repeat (go_big_quiet_step (first | (go_at_call 39; refine Calls.grow_same (tween_is T1.out _)) | (go_at_call 58; refine Calls.grow_of (proper_is T2.out _))))); refine wpQuiet_nil ?_; intro w1 hw1; have hb1 := below_of_plus hw1; clear hw1; obtain ⟨⟨hc1, hf1, hs1⟩, hz1⟩ := after hb1; (try simp only [World.size_alloc, World.size_setCell, World.size_drew] at hz1))
      go_wp2_with fail
      go_roundw
      case rel => exact ⟨k + 1, by omega, by go_num, rfl, gr_trans hB (by (repeat (first | exact Below.refl _ _ | refine Below.setCell ?_ (by first | omega | (simp; omega) | (simp; done)) _ | refine Below.alloc ?_ (by first | omega | (simp; omega) | (simp; done)) _ | refine Below.drew ?_ | refine below_drewN ?_ _ | refine Below.trans ?_ (Below.mono (by assumption) (by first | omega | (simp; omega) | (simp; done))))))⟩
      case measure => simp [intOf]; omega
    · clear hx t3
      go_wp2_with fail
      (refine wp_region_grow_lit (by kernel_rfl) (by kernel_rfl) ?_; (repeat (go_big_quiet_step (first | (go_at_call 39; refine Calls.grow_same (tween_is T1.out _)) | (go_at_call 58; refine Calls.grow_of (proper_is T2.out _))))); refine wpQuiet_nil ?_; intro w1 hw1; have hb1 := below_of_plus hw1; clear hw1; obtain ⟨⟨hc1, hf1, hs1⟩, hz1⟩ := after hb1; (try simp only [World.size_alloc, World.size_setCell, World.size_drew] at hz1))
      go_wp2_with fail
      go_roundw
      case rel => exact ⟨k + 1, by omega, by go_num, rfl, gr_trans hB (by (repeat (first | exact Below.refl _ _ | refine Below.setCell ?_ (by first | omega | (simp; omega) | (simp; done)) _ | refine Below.alloc ?_ (by first | omega | (simp; omega) | (simp; done)) _ | refine Below.drew ?_ | refine below_drewN ?_ _ | refine Below.trans ?_ (Below.mono (by assumption) (by first | omega | (simp; omega) | (simp; done))))))⟩
      case measure => simp [intOf]; omega
  · obtain rfl : k = ff.length := by omega
    clear hlt
    go_wp2_with fail
    obtain ⟨wo, rfl⟩ : ∃ wo : World, wo = wr := ⟨_, rfl⟩
    have HBo := HBr
    have HXo := Lib.hid HXR.out
    clear hB HBr HXR hk a0 a2 a5 za
    go_loopw [3, 5, 6, 7] (fun ok i l7 j7 wr => ∃ (k : Nat), k ≤ fs.length ∧ i = .int .i64 k ∧ ok = .bool true ∧ Below wo.heap.size wo wr) (fun _ i _ _ _ => fs.length - (intOf i).toNat)
    case atStart => exact ⟨0, Nat.zero_le _, rfl, rfl, Below.refl _ _⟩
    obtain ⟨k, hk, rfl, rfl, hB⟩ := hrel
    have HBr : Below w.heap.size w wr := HBo.trans (hB.mono HBo.size)
    have XR := HXo.out.keep hB
    have a0 := XR.cell (j := 0) rfl
    have a5 := XR.cell (j := 5) rfl
    have za := XR.lt
    have HXR := Lib.hid XR
    clear XR
    by_cases hlt : k < fs.length
    · obtain ⟨s, hs⟩ : ∃ s, fs[k]? = some s := ⟨_, List.getElem?_eq_getElem hlt⟩
      have hse := HF.out.each s (List.mem_of_getElem? hs)
      obtain ⟨t1, t2⟩ := SC.out k s hs
      have LN := Lib.hid (SL.out k s hs)
      obtain ⟨bb, off, rfl, hbb, x0, x1⟩ := row2 (HF.out.slips.to HBr).row hs rfl
      have hkI : (k : Int) < fs.length := by omega
      have h0k : (0 : Int) ≤ k := by omega
      have T1 := Lib.hid t1
      have T2 := Lib.hid t2
      clear hs t1 t2
      obtain ⟨sa, sc, sl, st⟩ := s
      simp only [SSlip.slice] at x0 x1 T1 T2 LN hse
      have HSE := Lib.hid hse
      have hsl := hse.lens
      clear hse
      go_wp2_with (first | (go_at_call_of 39 st; refine (tween_is T1.out _).mono ?_; rintro e w1 ⟨rfl, rfl⟩) | (go_at_call_of 39 sl; refine (tween_is T2.out _).mono ?_; rintro e w1 ⟨rfl, rfl⟩))
      obtain ⟨Y, rfl⟩ : ∃ Y : World, Y = wr := ⟨_, rfl⟩
      clear x0 x1 a5
      go_loopw [3, 7] (fun ok j wr => ∃ (m : Nat), m ≤ sl.length ∧ j = .int .i64 m ∧ ok = .bool true ∧ Below Y.heap.size Y wr) (fun _ j _ => sl.length - (intOf j).toNat)
      case atStart => exact ⟨0, Nat.zero_le _, rfl, rfl, Below.refl _ _⟩
      obtain ⟨m, hm, rfl, rfl, hC⟩ := hrel
      have HCr : Below w.heap.size w wr := HBr.trans (hC.mono HBr.size)
      have XC := HXR.out.keep hC
      have b0 := XC.cell (j := 0) rfl
      have zb := XC.lt
      clear XC a0 za
      by_cases hlt2 : m < sl.length
      · obtain ⟨x, hx⟩ : ∃ x, sl[m]? = some x := ⟨_, List.getElem?_eq_getElem hlt2⟩
        obtain ⟨t3, t4, -, t5⟩ := LN.out m x hx
        obtain ⟨lb, lo, rfl, hlb, x0, x1⟩ := row2 (HSE.out.to HCr).row hx rfl
        have T3 := Lib.hid t3
        have T4 := Lib.hid t4
        have hw2 : IntKind.wrap .i64 ((ff.length : Int) - 1) = (ff.length : Int) - 1 := wrapI (by omega) (by omega)
        have hmI : (m : Int) < sl.length := by omega
        have h0m : (0 : Int) ≤ m := by omega
        have zlb : lb < wr.heap.size := hlb
        clear t3 t4
        obtain ⟨xs, xm⟩ := x
        simp only at x0 x1 T3 T4 t5
        rcases hz : ((m : Int) == 0) with _ | _
        · have hm1 : 1 ≤ m := by have := beq_eq_false_iff_ne.1 hz; omega
          obtain ⟨i, hi⟩ : ∃ i, m = i + 1 := ⟨m - 1, by omega⟩
          obtain ⟨p, hp⟩ : ∃ p, sl[i]? = some p := ⟨_, List.getElem?_eq_getElem (by omega)⟩
          have t6 := t5 i p hi hp
          obtain ⟨b', off', e', hbb', p0, p1⟩ := row2 (HSE.out.to HCr).row hp rfl
          simp only [Option.some.injEq, Addr.mk.injEq, and_true] at e'
          obtain ⟨rfl, rfl⟩ := e'
          obtain ⟨ps, pm⟩ := p
          simp only at p0 p1 t6
          have hd : decide (ps < xs) = true := by simp [t6]
          have hw1 : IntKind.wrap .i64 ((m : Int) - 1) = (i : Int) := by rw [wrapI (by omega) (by omega)]; omega
          have hiI : (i : Int) < sl.length := by omega
          have h0i : (0 : Int) ≤ i := by omega
          clear hx hp t5 t6 hm1 hi
          go_wp2_with fail
          (refine wp_region_grow_lit (by kernel_rfl) (by kernel_rfl) ?_; (repeat (go_big_quiet_step (first | (go_at_call_of 39 xs; refine Calls.grow_same (tween_is T3.out _)) | (go_at_call_of 39 xm; refine Calls.grow_same (tween_is T4.out _))))); refine wpQuiet_nil ?_; intro w1 hw1; have hb1 := below_of_plus hw1; clear hw1; obtain ⟨⟨hc1, hf1, hs1⟩, hz1⟩ := after hb1; (try simp only [World.size_alloc, World.size_setCell, World.size_drew] at hz1))
          go_wp2_with fail
          go_roundw
          case rel => exact ⟨m + 1, by omega, by go_num, rfl, gr_trans hC (by (repeat (first | exact Below.refl _ _ | refine Below.setCell ?_ (by first | omega | (simp; omega) | (simp; done)) _ | refine Below.alloc ?_ (by first | omega | (simp; omega) | (simp; done)) _ | refine Below.drew ?_ | refine below_drewN ?_ _ | refine Below.trans ?_ (Below.mono (by assumption) (by first | omega | (simp; omega) | (simp; done))))))⟩
          case measure => simp [intOf]; omega
        · clear hx t5
          go_wp2_with fail
          (refine wp_region_grow_lit (by kernel_rfl) (by kernel_rfl) ?_; (repeat (go_big_quiet_step (first | (go_at_call_of 39 xs; refine Calls.grow_same (tween_is T3.out _)) | (go_at_call_of 39 xm; refine Calls.grow_same (tween_is T4.out _))))); refine wpQuiet_nil ?_; intro w1 hw1; have hb1 := below_of_plus hw1; clear hw1; obtain ⟨⟨hc1, hf1, hs1⟩, hz1⟩ := after hb1; (try simp only [World.size_alloc, World.size_setCell, World.size_drew] at hz1))
          go_wp2_with fail
          go_roundw
          case rel => exact ⟨m + 1, by omega, by go_num, rfl, gr_trans hC (by (repeat (first | exact Below.refl _ _ | refine Below.setCell ?_ (by first | omega | (simp; omega) | (simp; done)) _ | refine Below.alloc ?_ (by first | omega | (simp; omega) | (simp; done)) _ | refine Below.drew ?_ | refine below_drewN ?_ _ | refine Below.trans ?_ (Below.mono (by assumption) (by first | omega | (simp; omega) | (simp; done))))))⟩
          case measure => simp [intOf]; omega
      · obtain rfl : m = sl.length := by omega
        clear hlt2
        go_wp2_with fail
        go_roundw
        case rel => exact ⟨k + 1, by omega, by go_num, rfl, gr_trans hB (hC.mono (by omega))⟩
        case measure => simp [intOf]; omega
    · obtain rfl : k = fs.length := by omega
      clear hlt
      go_wp2_with fail
      go_ret
      exact ⟨rfl, HBr⟩
theorem sound_is {f : Floor} {b : Bool} (hb : validB f = b) (w : World) (hl : Lim w) (h : FloorAt w w.heap.size f) :
    Calls Tryd.prog 35 #[f.val] w fun e w' => e = .returned (.bool b) ∧ Below w.heap.size w w' := by
  cases b with
  | false => exact sound_no f w hl h hb
  | true => exact sound_yes f w hl h hb
end Go.Proofs.YtomgnpfpaodpiaaDoor

/- Floors on which all takes just the one end, or the other: plain mathematics. -/
namespace Go.Proofs.YtomgnpfpaodpiaaDoor
open Go Go.RowKit
set_option maxHeartbeats 2000000
def oneE (b : Bool) (p : Int × Int) : Int × Int := if b then (p.2, p.2) else (p.1, p.1)
def endF (b : Bool) (f : Floor) (A : Option Addr) (C : Nat) : Floor := { f with slo := if b then f.shi else f.slo, shi := if b then f.shi else f.slo, pA := A, pC := C, picks := f.picks.map (oneE b) }
theorem end_steps (b : Bool) (f : Floor) (A : Option Addr) (C : Nat) (s : SSlip) : stepsF (endF b f A C) s = stepsF f s := by
  unfold stepsF
  rfl
theorem end_pick (b : Bool) (f : Floor) (A : Option Addr) (C : Nat) (j : Nat) : ((endF b f A C).picks[j]?).getD (0, 0) = oneE b ((f.picks[j]?).getD (0, 0)) := by
  show ((f.picks.map (oneE b))[j]?).getD (0, 0) = _
  rw [List.getElem?_map]
  cases f.picks[j]? with
  | some p => rfl
  | none => cases b <;> rfl
theorem end_lo (f : Floor) (A : Option Addr) (C : Nat) (l : List SLine) (st : Int) : ∀ k, secsKLo (endF false f A C) l st k = secsKLo f l st k ∧ secsKHi (endF false f A C) l st k = secsKLo f l st k
  | 0 => ⟨rfl, rfl⟩
  | k + 1 => by
    obtain ⟨i1, i2⟩ := end_lo f A C l st k
    rw [secsKLo, secsKHi, secsKLo, i1, i2]
    cases l[k]? with
    | none => exact ⟨rfl, rfl⟩
    | some x =>
      simp only [end_pick]
      exact ⟨rfl, rfl⟩
theorem end_hi (f : Floor) (A : Option Addr) (C : Nat) (l : List SLine) (st : Int) : ∀ k, secsKLo (endF true f A C) l st k = secsKHi f l st k ∧ secsKHi (endF true f A C) l st k = secsKHi f l st k
  | 0 => ⟨rfl, rfl⟩
  | k + 1 => by
    obtain ⟨i1, i2⟩ := end_hi f A C l st k
    rw [secsKLo, secsKHi, secsKHi, i1, i2]
    cases l[k]? with
    | none => exact ⟨rfl, rfl⟩
    | some x =>
      simp only [end_pick]
      exact ⟨rfl, rfl⟩
theorem end_takes (b : Bool) (f : Floor) (A : Option Addr) (C : Nat) (s : SSlip) : takesF (endF b f A C) s = oneE b (takesF f s) := by
  unfold takesF secsFLo secsFHi
  rw [end_steps]
  cases b with
  | false => obtain ⟨h1, h2⟩ := end_lo f A C s.lines (stepsF f s) s.lines.length; rw [h1, h2]; rfl
  | true => obtain ⟨h1, h2⟩ := end_hi f A C s.lines (stepsF f s) s.lines.length; rw [h1, h2]; rfl
theorem lo_split (f : Floor) (l : List SLine) (st : Int) : ∀ k, secsKLo f l st k = st * f.slo + secsKLo f l 0 k
  | 0 => by simp [secsKLo]
  | k + 1 => by
    have := lo_split f l st k
    rw [secsKLo, secsKLo, this]
    omega
theorem end_valid {f : Floor} (hv : validB f = true) (b : Bool) (A : Option Addr) (C : Nat) : validB (endF b f A C) = true := by
  unfold validB at hv ⊢
  simp only [Bool.and_eq_true] at hv ⊢
  obtain ⟨⟨⟨⟨v1, v2⟩, v3⟩, v4⟩, v5⟩ := hv
  refine ⟨⟨⟨⟨?_, ?_⟩, v3⟩, v4⟩, v5⟩
  · unfold shelvesB at v1 ⊢
    simp only [Bool.and_eq_true, List.all_eq_true, List.mem_range] at v1 ⊢
    obtain ⟨⟨w1, w2⟩, w3⟩ := v1
    refine ⟨⟨w1, ?_⟩, fun k hk => ?_⟩
    · show decide (((f.picks.map (oneE b)).length : Int) = _) = true
      rw [List.length_map]
      exact w2
    · have hk2 : k < f.far.length := hk
      have hw := w3 k hk2
      have hx : f.far[k]? = some f.far[k] := List.getElem?_eq_getElem hk2
      have hl0 : (f.picks.length : Int) = f.far.length := by simpa using w2
      have hl : f.picks.length = f.far.length := by omega
      have hq : f.picks[k]? = some f.picks[k] := List.getElem?_eq_getElem (by omega)
      have hq2 : (endF b f A C).picks[k]? = some (oneE b f.picks[k]) := by
        show (f.picks.map (oneE b))[k]? = _
        rw [List.getElem?_map, hq]; rfl
      have hx2 : (endF b f A C).far[k]? = some f.far[k] := hx
      rw [goodShelf_of hx hq, Bool.and_eq_true] at hw
      rw [goodShelf_of hx2 hq2, Bool.and_eq_true]
      refine ⟨hw.1, ?_⟩
      have h2 := hw.2
      unfold withinB at h2 ⊢
      simp only [Bool.and_eq_true, decide_eq_true_eq, hasB_iff] at h2 ⊢
      cases b with
      | false => simp only [oneE]; simp; omega
      | true => simp only [oneE]; simp; omega
  · unfold withinB at v2 ⊢
    simp only [Bool.and_eq_true, decide_eq_true_eq, hasB_iff] at v2 ⊢
    cases b with
    | false => simp [endF]; omega
    | true => simp [endF]; omega
end Go.Proofs.YtomgnpfpaodpiaaDoor

