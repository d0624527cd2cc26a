/- Contract of the specification's IsTours: the pieces of the slip are counted. -/
import Derived.Test.YtomgnpfpaodpiaaDoorH43
set_option linter.unusedVariables false
set_option linter.unusedSimpArgs false
namespace Go.Proofs.YtomgnpfpaodpiaaDoor
open Go Go.RowKit
set_option maxHeartbeats 4000000
/-- how many pieces of each shelf are to be fetched, when some are added -/
def addL (sg : Int) (p : List Int) (l : List SLine) : List Int := l.foldl (fun p x => p.set x.shelf.toNat (p[x.shelf.toNat]?.getD 0 + sg * x.many)) p
def addLK (sg : Int) (p : List Int) (l : List SLine) (k : Nat) : List Int := addL sg p (l.take k)
theorem addLK_succ {sg : Int} {p : List Int} {l : List SLine} {k : Nat} {x : SLine} (h : l[k]? = some x) : addLK sg p l (k + 1) = (addLK sg p l k).set x.shelf.toNat ((addLK sg p l k)[x.shelf.toNat]?.getD 0 + sg * x.many) := by
  obtain ⟨hk, rfl⟩ := List.getElem?_eq_some_iff.1 h
  unfold addLK addL
  rw [List.take_succ_eq_append_getElem hk, List.foldl_append]
  rfl
theorem addL_len (sg : Int) : ∀ (l : List SLine) (p : List Int), (addL sg p l).length = p.length
  | [], _ => rfl
  | x :: l, p => by
    have := addL_len sg l (p.set x.shelf.toNat (p[x.shelf.toNat]?.getD 0 + sg * x.many))
    rw [List.length_set] at this
    exact this
theorem addL_range (sg B : Int) (hs : sg = 1 ∨ sg = -1) : ∀ (l : List SLine) (p : List Int), (∀ x ∈ l, 0 ≤ x.many ∧ x.many ≤ 20) → (∀ n ∈ p, -B ≤ n ∧ n ≤ B) → 0 ≤ B → ∀ n ∈ addL sg p l, -(B + 20 * l.length) ≤ n ∧ n ≤ B + 20 * l.length
  | [], p, _, h, _, n, hn => by have := h n hn; simpa using this
  | x :: l, p, hx, h, hB, n, hn => by
    have hm := hx x (by simp)
    have h1 : ∀ n ∈ p.set x.shelf.toNat (p[x.shelf.toNat]?.getD 0 + sg * x.many), -(B + 20) ≤ n ∧ n ≤ B + 20 := fun n hn => by
      have hg : -B ≤ p[x.shelf.toNat]?.getD 0 ∧ p[x.shelf.toNat]?.getD 0 ≤ B := by
        cases hp : p[x.shelf.toNat]? with
        | none => simp; omega
        | some y => exact h y (List.mem_of_getElem? hp)
      rcases List.mem_or_eq_of_mem_set hn with hn | rfl
      · have := h n hn; omega
      · rcases hs with rfl | rfl <;> omega
    have := addL_range sg (B + 20) hs l _ (fun y hy => hx y (by simp [hy])) h1 (by omega) n hn
    simp only [List.length_cons]
    omega
/-- may a tour be one, as the specification asks it -/
def goodR (f : Floor) (t : STour) : Bool := (!(t.lines.length == 0) && linesR f.far.length t.lines) && decide (togetherF t.lines ≤ f.carry)
def leftR (p : List Int) (ts : List STour) : List Int := ts.foldl (fun p t => addL (-1) p t.lines) p
def leftRK (p : List Int) (ts : List STour) (k : Nat) : List Int := leftR p (ts.take k)
theorem leftRK_succ {p : List Int} {ts : List STour} {k : Nat} {t : STour} (h : ts[k]? = some t) : leftRK p ts (k + 1) = addL (-1) (leftRK p ts k) t.lines := by
  obtain ⟨hk, rfl⟩ := List.getElem?_eq_some_iff.1 h
  unfold leftRK leftR
  rw [List.take_succ_eq_append_getElem hk, List.foldl_append]
  rfl
def isToursR (f : Floor) (s : SSlip) (ts : List STour) : Bool := (List.range ts.length).all (fun k => match ts[k]? with | some t => goodR f t | none => true) && (leftR (addL 1 (List.replicate f.far.length 0) s.lines) ts).all (· == 0)
theorem linesR_at {n : Int} {l : List SLine} (h : linesR n l = true) : ∀ (k : Nat) (x : SLine), l[k]? = some x → ((k : Int) ≤ x.shelf ∧ x.shelf < n) ∧ 1 ≤ x.many ∧ x.many ≤ 20 := by
  have hg : ∀ (k : Nat) (x : SLine), l[k]? = some x → hasB (nextF l k) (n - 1) x.shelf = true ∧ hasB 1 20 x.many = true := fun k x hx => by
    have hk := (List.getElem?_eq_some_iff.1 hx).1
    unfold linesR at h
    rw [List.all_eq_true] at h
    have := h k (List.mem_range.2 hk)
    rwa [goodLine_ref hx, Bool.and_eq_true] at this
  have hn : ∀ k : Nat, k ≤ l.length → (k : Int) ≤ nextF l k := by
    intro k
    induction k with
    | zero => intro _; exact Int.le_refl _
    | succ k ih =>
      intro hk
      obtain ⟨x, hx⟩ : ∃ x, l[k]? = some x := ⟨_, List.getElem?_eq_getElem (by omega)⟩
      have h1 := hasB_iff.1 (hg k x hx).1
      have h2 := ih (by omega)
      rw [nextF_succ hx]
      omega
  intro k x hx
  have hk := (List.getElem?_eq_some_iff.1 hx).1
  obtain ⟨h1, h2⟩ := hg k x hx
  have h1 := hasB_iff.1 h1
  have h2 := hasB_iff.1 h2
  have h3 := hn k (by omega)
  exact ⟨⟨by omega, by omega⟩, h2⟩
theorem linesR_len {n : Nat} {l : List SLine} (h : linesR n l = true) : l.length ≤ n := by
  by_cases h0 : l.length = 0
  · omega
  · obtain ⟨x, hx⟩ : ∃ x, l[l.length - 1]? = some x := ⟨_, List.getElem?_eq_getElem (by omega)⟩
    have := (linesR_at h _ x hx).1
    omega
theorem ints_box_at {w : World} {B : Nat} {l : List Int} (h : CellsBox w B 3 (l.map vi)) {k : Nat} {x : Int} (hx : l[k]? = some x) : w.cell? ⟨B, k, none⟩ = some (vi x) := h.cell (by rw [List.getElem?_map, hx]; rfl)
theorem gr_trans_w {w W W' : World} (h : Below w.heap.size w W) (h' : Below W.heap.size W W') : Below w.heap.size w W' := h.trans (h'.mono h.size)
set_option maxRecDepth 100000 in
theorem rIsTours_ok (f : Floor) (hv : validB f = true) (n : Nat) (s : SSlip) (hs : f.slips[n]? = some s) (A : Option Addr) (cap : Nat) (ts : List STour) (w : World) (h : FloorAt w w.heap.size f) (ht : ToursAt w w.heap.size A cap ts) :
    Calls Tryd.prog 15 #[f.val, vi n, .slice A ts.length cap] w fun e w' => e = .returned (.tuple #[.bool (isToursR f s ts), vi 0]) ∧ Below w.heap.size w w' := by
  have hf := fine hv
  have HF := Lib.hid h
  have HT := Lib.hid ht
  obtain ⟨an, han⟩ : ∃ an, an = isToursR f s ts := ⟨_, rfl⟩
  obtain ⟨G, hG⟩ : ∃ G : Nat → Bool, G = fun k => match ts[k]? with | some t => goodR f t | none => true := ⟨_, rfl⟩
  have HAN : Hid (an = ((List.range ts.length).all G && (leftR (addL 1 (List.replicate f.far.length 0) s.lines) ts).all (· == 0))) := by unfold Hid; rw [han, hG]; rfl
  have HGT : Hid (∀ (k : Nat) (t : STour), ts[k]? = some t → G k = ((!(t.lines.length == 0) && linesR f.far.length t.lines) && decide (togetherF t.lines ≤ f.carry))) := fun k t hk => by rw [hG]; simp only [hk]; rfl
  have RL := Lib.hid (fun (l : List SLine) (v : Bool) (hv : linesR f.far.length l = v) (A : Option Addr) (cap : Nat) (W : World) hW => rlines_is hv A cap h.far.lens.2 W hW)
  rw [← han]
  clear hG han
  have h3l := h.slips.lens
  have hfl := h.far.lens
  have htl := ht.rows.lens
  have hnlt : n < f.slips.length := (List.getElem?_eq_some_iff.1 hs).1
  have hsb : slipB f n = true := by unfold slipB; simp; omega
  have IS := Lib.hid (fun (W : World) => isSlip_is hsb W h3l.2)
  have h0 : checkSlipV f n = 0 := by unfold checkSlipV; rw [hv, hsb]; rfl
  have AS := Lib.hid (fun (W : World) hW => asked_is (f := f) (b := true) (e := 0) (by rw [← hsb, asked_slip, h0]) W hW)
  obtain ⟨hl1, hl2, _⟩ := linesB_ok (hf.slips s (List.mem_of_getElem? hs)).2.2
  have LA := Lib.hid (fun (i : Nat) (x : SLine) (hx : s.lines[i]? = some x) => line_at hv hs hx)
  have hn9 := hf.slips9
  have hf12 := hf.far12
  have hf1 := hf.far1
  have hc1 := hf.carry1
  have hc2 := hf.carry20
  have hnI : (n : Int) < f.slips.length := by omega
  have hn0 : (0 : Int) ≤ n := by omega
  have hse := h.each s (List.mem_of_getElem? hs)
  obtain ⟨bb, off, hsA, hbb, x0, x1⟩ := row2 h.slips.row hs rfl
  obtain ⟨sa, sc, sl, st⟩ := s
  simp only at hl1 hl2 LA hse x0 x1
  replace x0 : w.cell? ⟨bb, off + n * 2, none⟩ = some (.slice sa sl.length sc) := x0
  have hslc := hse.lens
  have HSE := Lib.hid hse
  clear h0 hsb hs hse h ht hf
  obtain ⟨fA, fC, ff, slo, shi, pA, pC, fp, fc, sA, sC, fs⟩ := f
  simp only at hsA hnI hn9 hf12 hf1 hc1 hc2 hnlt h3l hfl LA HAN HGT RL
  subst hsA
  show Calls Tryd.prog 15 #[.agg #[.slice fA ff.length fC, vi slo, vi shi, .slice pA fp.length pC, vi fc, .slice (some ⟨bb, off, none⟩) fs.length sC], vi n, .slice A ts.length cap] w _
  have hb0 := below1 w (.cells #[.slice fA ff.length fC, vi slo, vi shi, .slice pA fp.length pC, vi fc, .slice (some ⟨bb, off, none⟩) fs.length sC] 28)
  have X0 := CellsBox.new w 28 [.slice fA ff.length fC, vi slo, vi shi, .slice pA fp.length pC, vi fc, .slice (some ⟨bb, off, none⟩) fs.length sC]
  go_enter Tryd.func15, Tryd.ntmps15
  go_wp2_with fail
  obtain ⟨W, hW⟩ : ∃ W, W = w.alloc (.cells #[.slice fA ff.length fC, vi slo, vi shi, .slice pA fp.length pC, vi fc, .slice (some ⟨bb, off, none⟩) fs.length sC] 28) := ⟨_, rfl⟩
  rw [← hW] at hb0 ⊢
  have HX : CellsBox W w.heap.size 28 [.slice fA ff.length fC, vi slo, vi shi, .slice pA fp.length pC, vi fc, .slice (some ⟨bb, off, none⟩) fs.length sC] := by rw [hW]; exact X0
  have HFW := Lib.hid (HF.out.to hb0)
  have a0 := HX.cell (j := 0) rfl
  have a1 := HX.cell (j := 1) rfl
  have a2 := HX.cell (j := 2) rfl
  have a3 := HX.cell (j := 3) rfl
  have a4 := HX.cell (j := 4) rfl
  have a5 := HX.cell (j := 5) rfl
  have za := HX.lt
  have HXX := Lib.hid HX
  clear hW X0 HX
  (refine wp_region_grow_lit (by kernel_rfl) (by kernel_rfl) ?_; (repeat (go_big_quiet_step (first | (go_at_call 55; refine Calls.grow_of (IS.out _)) | (go_at_call 54; refine Calls.grow_of (AS.out _ (HFW.out.to (plus_below _ _))))))); refine wpQuiet_nil ?_; intro w1 hw1; have hb1 := below_of_plus hw1; clear hw1; obtain ⟨⟨hc1, hf1, hs1⟩, hz1⟩ := after hb1; (try simp only [World.size_alloc, World.size_setCell, World.size_drew] at hz1))
  have HB1 : Below w.heap.size w w1 := hb0.trans (hb1.mono hb0.size)
  have HX1 := Lib.hid (HXX.out.keep hb1)
  clear a0 a1 a2 a3 a4 a5 za hb1 hc1 hf1 hs1 hz1
  obtain ⟨wl, rfl⟩ : ∃ wl : World, wl = w1 := ⟨_, rfl⟩
  have a0 := HX1.out.cell (j := 0) rfl
  have a5 := HX1.out.cell (j := 5) rfl
  have za := HX1.out.lt
  have y0 : wl.cell? ⟨bb, off + n * 2, none⟩ = some (.slice sa sl.length sc) := (HB1.cell hbb).trans x0
  have zb : bb < wl.heap.size := cell_lt y0
  have mkI := mkInts ff.length (by omega)
  go_wp2_with fail
  obtain ⟨V, hV⟩ : ∃ V, V = wl.alloc (.cells (Array.replicate ff.length (vi 0)) 3) := ⟨_, rfl⟩
  have hbV : Below wl.heap.size wl V := by rw [hV]; exact below1 _ _
  have XL : Hid (CellsBox V wl.heap.size 3 ((addLK 1 (List.replicate ff.length 0) sl 0).map vi)) := by
    unfold Hid
    rw [hV, show addLK 1 (List.replicate ff.length 0) sl 0 = List.replicate ff.length 0 from by simp [addLK, addL], List.map_replicate]
    have := CellsBox.new wl 3 (List.replicate ff.length (vi 0))
    simpa using this
  have HBV : Below w.heap.size w V := HB1.trans (hbV.mono HB1.size)
  have HXV := Lib.hid (HX1.out.keep hbV)
  have zW := HX1.out.lt
  have HWL : Hid (w.heap.size < wl.heap.size) := zW
  have HSC : Hid (∀ (k : Nat) (x : SLine), sl[k]? = some x → addLK 1 (List.replicate ff.length 0) sl (k + 1) = (addLK 1 (List.replicate ff.length 0) sl k).set x.shelf.toNat ((addLK 1 (List.replicate ff.length 0) sl k)[x.shelf.toNat]?.getD 0 + 1 * x.many)) := fun k x hx => addLK_succ hx
  have HRG : Hid (∀ k : Nat, k ≤ sl.length → (addLK 1 (List.replicate ff.length 0) sl k).length = ff.length ∧ ∀ m ∈ addLK 1 (List.replicate ff.length 0) sl k, -240 ≤ m ∧ m ≤ 240) := fun k hk => by
    refine ⟨by unfold addLK; rw [addL_len, List.length_replicate], fun m hm => ?_⟩
    have := addL_range 1 0 (.inl rfl) (sl.take k) (List.replicate ff.length 0) (fun x hx => by
      obtain ⟨i, hi, rfl⟩ := List.mem_iff_getElem.1 (List.mem_of_mem_take hx)
      have := LA.out i _ (List.getElem?_eq_getElem hi)
      omega) (fun m hm => by rw [List.mem_replicate] at hm; omega) (by omega) m hm
    rw [List.length_take] at this
    omega
  obtain ⟨T, hT⟩ : ∃ T, T = addLK 1 (List.replicate ff.length 0) sl := ⟨_, rfl⟩
  have TE : Hid (T sl.length = addL 1 (List.replicate ff.length 0) sl) := by unfold Hid; rw [hT, addLK, List.take_length]
  rw [← hT] at XL HSC HRG
  rw [← hV]
  clear hV hT hbV a0 a5 za y0 zb mkI x0 x1
  go_loopw [11] (fun i wr => ∃ k : Nat, k ≤ sl.length ∧ i = .int .i64 k ∧ Below w.heap.size w wr ∧ V.heap.size ≤ wr.heap.size ∧ Hid (CellsBox wr w.heap.size 28 [.slice fA ff.length fC, vi slo, vi shi, .slice pA fp.length pC, vi fc, .slice (some ⟨bb, off, none⟩) fs.length sC] ∧ CellsBox wr wl.heap.size 3 ((T k).map vi))) (fun i _ => sl.length - (intOf i).toNat)
  case atStart => exact ⟨0, Nat.zero_le _, rfl, HBV, Nat.le_refl _, ⟨HXV.out, XL.out⟩⟩
  obtain ⟨k, hk, rfl, hB, hsz, HXR⟩ := hrel
  have zL := HXR.out.2.lt
  by_cases hlt : k < sl.length
  · obtain ⟨x, hx⟩ : ∃ x, sl[k]? = some x := ⟨_, List.getElem?_eq_getElem hlt⟩
    obtain ⟨⟨hx1, hx2⟩, ⟨hx3, hx4⟩, _⟩ := LA.out k x hx
    have HS1 := Lib.hid (HSC.out k x hx)
    obtain ⟨hr1, hr2⟩ := HRG.out k hk
    obtain ⟨lb, lo, rfl, hlb, l0, l1⟩ := row2 (HSE.out.to hB).row hx rfl
    obtain ⟨xs, xm⟩ := x
    simp only at hx1 hx2 hx3 hx4 l0 l1 HS1
    obtain ⟨j, rfl⟩ : ∃ j : Nat, xs = j := ⟨xs.toNat, by omega⟩
    rw [Int.toNat_natCast] at HS1
    have hjl : j < (T k).length := by omega
    obtain ⟨y, hy⟩ : ∃ y, (T k)[j]? = some y := ⟨_, List.getElem?_eq_getElem hjl⟩
    have hyr := hr2 y (List.mem_of_getElem? hy)
    rw [hy, Option.getD_some, Int.one_mul] at HS1
    have hyc := ints_box_at HXR.out.2 hy
    have hyf := HXR.out.2.frozen j
    have hkI : (k : Int) < sl.length := by omega
    have hk0 : (0 : Int) ≤ k := by omega
    have hj0 : (0 : Int) ≤ j := by omega
    have hwr : IntKind.wrap .i64 (y + xm) = y + xm := wrapI (by omega) (by omega)
    have zlb : lb < wr.heap.size := hlb
    clear hx hy hr1 hr2
    go_wp2_with fail
    go_region_with fail
    all_goals go_wp2_with fail
    all_goals go_roundw
    all_goals first
      | (simp [intOf]; omega)
      | (refine ⟨k + 1, by omega, by go_num, by (repeat (first | exact Below.refl _ _ | refine Below.setCell ?_ (by first | omega | (simp; omega) | (simp; done)) _ | refine Below.alloc ?_ (by first | omega | (simp; omega) | (simp; done)) _ | refine Below.drew ?_ | refine below_drewN ?_ _ | refine Below.trans ?_ (Below.mono (by assumption) (by first | omega | (simp; omega) | (simp; done))))), by simp; omega, ?_, ?_⟩
         · first | exact HXR.out.1.apart ⟨wl.heap.size, j, none⟩ (vi (y + xm)) (by simp only; omega) | exact HXR.out.1
         · rw [HS1.out, List.map_set]
           exact HXR.out.2.store j (vi (y + xm)))
  · obtain rfl : k = sl.length := by omega
    have XL := HXR.out.2
    rw [TE.out] at XL
    obtain ⟨P, hP⟩ : ∃ P, P = addL 1 (List.replicate ff.length 0) sl := ⟨_, rfl⟩
    rw [← hP] at XL TE
    go_wp2_with fail
    obtain ⟨wo, rfl⟩ : ∃ wo : World, wo = wr := ⟨_, rfl⟩
    have HPR : Hid (P.length = ff.length ∧ ∀ m ∈ P, -240 ≤ m ∧ m ≤ 240) := by unfold Hid; rw [← TE.out]; exact HRG.out _ (Nat.le_refl _)
    rw [← hP] at HAN
    have BAD : Hid (∀ k, k < ts.length → G k = false → an = false) := fun k hk hg => by
      have := all_no (b := true) hk hg
      rw [Bool.true_and] at this
      rw [HAN.out, this]; rfl
    have HXo := Lib.hid HXR.out.1
    have HLo := Lib.hid XL
    have hBo := hB
    have L0 : Hid (leftRK P ts 0 = P) := by unfold Hid leftRK leftR; simp
    have LE : Hid (leftRK P ts ts.length = leftR P ts) := by unfold Hid leftRK; rw [List.take_length]
    have LS : Hid (∀ (k : Nat) (t : STour), ts[k]? = some t → leftRK P ts (k + 1) = addL (-1) (leftRK P ts k) t.lines) := fun k t hk => leftRK_succ hk
    obtain ⟨S, hS⟩ : ∃ S, S = leftRK P ts := ⟨_, rfl⟩
    rw [← hS] at L0 LE LS
    clear hS hP XL HXR hB hlt hk TE HSC HRG
    go_loopw [12] (fun i wr => ∃ k : Nat, k ≤ ts.length ∧ i = .int .i64 k ∧ Below w.heap.size w wr ∧ wo.heap.size ≤ wr.heap.size ∧ Hid (CellsBox wr w.heap.size 28 [.slice fA ff.length fC, vi slo, vi shi, .slice pA fp.length pC, vi fc, .slice (some ⟨bb, off, none⟩) fs.length sC] ∧ CellsBox wr wl.heap.size 3 ((S k).map vi)) ∧ Hid ((S k).length = ff.length ∧ (∀ m ∈ S k, -(240 + 240 * (k : Int)) ≤ m ∧ m ≤ 240 + 240 * k) ∧ ∀ j, j < k → G j = true)) (fun i _ => ts.length - (intOf i).toNat)
    case atStart => exact ⟨0, Nat.zero_le _, rfl, hBo, Nat.le_refl _, ⟨HXo.out, by rw [L0.out]; exact HLo.out⟩, ⟨by rw [L0.out]; exact HPR.out.1, by rw [L0.out]; intro m hm; have := HPR.out.2 m hm; omega, fun j hj => absurd hj (by omega)⟩⟩
    obtain ⟨k, hk, rfl, hB, hszo, HXR, HSR⟩ := hrel
    by_cases hlt : k < ts.length
    · obtain ⟨t, htk⟩ : ∃ t, ts[k]? = some t := ⟨_, List.getElem?_eq_getElem hlt⟩
      have HGK := Lib.hid (HGT.out k t htk)
      have HSN := Lib.hid (LS.out k t htk)
      have hte := (HT.out.to hB).each t (List.mem_of_getElem? htk)
      have htw := HT.out.each t (List.mem_of_getElem? htk)
      obtain ⟨tb, tf, rfl, htb, t0⟩ := row1 HT.out.rows.row htk rfl
      have zwl0 : w.heap.size < wl.heap.size := HWL.out
      obtain ⟨tA, tc, tl⟩ := t
      simp only at hte HGK HSN htw
      replace t0 : w.cell? ⟨tb, tf + k, none⟩ = some (.slice tA tl.length tc) := t0
      have HT0 := Lib.hid t0
      have HTW := Lib.hid htw
      replace t0 : wr.cell? ⟨tb, tf + k, none⟩ = some (.slice tA tl.length tc) := (hB.cell htb).trans t0
      have ztb0 : tb < wr.heap.size := cell_lt t0
      have htc := hte.lens
      have HTE : Hid (SLinesAt wr wr.heap.size tA tl.length tl) := RowsAt.short hte
      have HTF := Lib.hid hte
      have hkI : (k : Int) < ts.length := by omega
      have hk0 : (0 : Int) ≤ k := by omega
      clear htk hte htw
      have a0 := HXR.out.1.cell (j := 0) rfl
      have a1 := HXR.out.1.cell (j := 1) rfl
      have a2 := HXR.out.1.cell (j := 2) rfl
      have a3 := HXR.out.1.cell (j := 3) rfl
      have a4 := HXR.out.1.cell (j := 4) rfl
      have a5 := HXR.out.1.cell (j := 5) rfl
      have za := HXR.out.1.lt
      by_cases hl0 : tl.length = 0
      · have hle : ((tl.length : Int) == 0) = true := by simp [hl0]
        have E : Hid (an = false) := BAD.out k hlt (by rw [HGK.out]; simp [hl0])
        have HL0 := Lib.hid hl0
        clear hl0
        go_wp2_with fail
        (refine wp_region_grow_lit (by kernel_rfl) (by kernel_rfl) ?_; (repeat (go_big_quiet_step (fail))); refine wpQuiet_nil ?_; intro w1 hw1; have hb1 := below_of_plus hw1; clear hw1; obtain ⟨⟨hc1, hf1, hs1⟩, hz1⟩ := after hb1; (try simp only [World.size_alloc, World.size_setCell, World.size_drew] at hz1))
        go_wp2_with fail
        go_ret2
        exact ⟨by rw [E.out]; rfl, gr_trans_w hB hb1⟩
      · have hle : ((tl.length : Int) == 0) = false := by rw [beq_eq_false_iff_ne]; omega
        obtain ⟨lv, hlv⟩ : ∃ lv, linesR ff.length tl = lv := ⟨_, rfl⟩
        have RLL := Lib.hid (RL.out tl lv hlv tA tc)
        have hle2 : (tl.length == 0) = false := by rw [beq_eq_false_iff_ne]; omega
        rw [hlv, hle2] at HGK
        rcases lv with _ | _
        · have E : Hid (an = false) := BAD.out k hlt (by rw [HGK.out]; rfl)
          clear hlv hle2
          go_wp2_with fail
          (refine wp_region_grow_lit (by kernel_rfl) (by kernel_rfl) ?_; (repeat (go_big_quiet_step ((go_at_call 56; refine Calls.grow_of (RLL.out _ (HTE.out.to (plus_below _ _))))))); refine wpQuiet_nil ?_; intro w1 hw1; have hb1 := below_of_plus hw1; clear hw1; obtain ⟨⟨hc1, hf1, hs1⟩, hz1⟩ := after hb1; (try simp only [World.size_alloc, World.size_setCell, World.size_drew] at hz1))
          go_wp2_with fail
          go_ret2
          exact ⟨by rw [E.out]; rfl, gr_trans_w hB hb1⟩
        · have hlr := linesR_at hlv
          have hln := linesR_len hlv
          have HLR := Lib.hid hlr
          clear hlv hle2 hlr
          go_wp2_with fail
          (refine wp_region_grow_lit (by kernel_rfl) (by kernel_rfl) ?_; (repeat (go_big_quiet_step ((go_at_call 56; refine Calls.grow_of (RLL.out _ (HTE.out.to (plus_below _ _))))))); refine wpQuiet_nil ?_; intro w1 hw1; have hb1 := below_of_plus hw1; clear hw1; obtain ⟨⟨hc1, hf1, hs1⟩, hz1⟩ := after hb1; (try simp only [World.size_alloc, World.size_setCell, World.size_drew] at hz1))
          obtain ⟨wt, rfl⟩ : ∃ wt : World, wt = w1 := ⟨_, rfl⟩
          have HB1 := gr_trans_w hB hb1
          have HXt := Lib.hid (HXR.out.1.keep hb1)
          have HLt := Lib.hid (HXR.out.2.keep hb1)
          have HTt := Lib.hid (HTF.out.to hb1)
          have t0t := cell_keep hb1 t0
          have hzt := hb1.size
          have ztb : tb < wt.heap.size := cell_lt t0t
          have LK : Hid (∀ (m : Nat) (x : SLine), tl[m]? = some x → addLK (-1) (S k) tl (m + 1) = (addLK (-1) (S k) tl m).set x.shelf.toNat ((addLK (-1) (S k) tl m)[x.shelf.toNat]?.getD 0 + -1 * x.many)) := fun m x hx => addLK_succ hx
          have LR : Hid (∀ m : Nat, m ≤ tl.length → (addLK (-1) (S k) tl m).length = ff.length ∧ ∀ q ∈ addLK (-1) (S k) tl m, -(480 + 240 * (k : Int)) ≤ q ∧ q ≤ 480 + 240 * k) := fun m hm => by
            refine ⟨by unfold addLK; rw [addL_len]; exact HSR.out.1, fun q hq => ?_⟩
            have := addL_range (-1) (240 + 240 * (k : Int)) (.inr rfl) (tl.take m) (S k) (fun x hx => by
              obtain ⟨i, hi, rfl⟩ := List.mem_iff_getElem.1 (List.mem_of_mem_take hx)
              have := HLR.out i _ (List.getElem?_eq_getElem hi)
              omega) HSR.out.2.1 (by omega) q hq
            rw [List.length_take] at this
            omega
          have K0 : Hid (addLK (-1) (S k) tl 0 = S k) := by unfold Hid addLK addL; simp
          have KE : Hid (addLK (-1) (S k) tl tl.length = S (k + 1)) := by unfold Hid; rw [HSN.out, addLK, List.take_length]
          have SK : Hid (∀ (m : Nat) (x : SLine), tl[m]? = some x → sumK tl (m + 1) = sumK tl m + x.many) := fun m x hx => sumK_succ hx
          have SKE := Lib.hid (sumK_all tl)
          have SK0 : Hid (sumK tl 0 = 0) := by unfold Hid sumK; simp
          obtain ⟨D, hD⟩ : ∃ D, D = addLK (-1) (S k) tl := ⟨_, rfl⟩
          obtain ⟨M, hM⟩ : ∃ M, M = sumK tl := ⟨_, rfl⟩
          rw [← hD] at LK LR K0 KE
          rw [← hM] at SK SKE SK0
          clear hD hM hb1 hc1 hf1 hs1 hz1 a0 a1 a2 a3 a4 a5 za t0
          go_wp2_with fail
          go_loopw [13, 14] (fun v i wr => ∃ (m : Nat) (p : Int), m ≤ tl.length ∧ i = .int .i64 m ∧ v = vi p ∧ Below w.heap.size w wr ∧ wt.heap.size ≤ wr.heap.size ∧ Hid (CellsBox wr w.heap.size 28 [.slice fA ff.length fC, vi slo, vi shi, .slice pA fp.length pC, vi fc, .slice (some ⟨bb, off, none⟩) fs.length sC] ∧ CellsBox wr wl.heap.size 3 ((D m).map vi)) ∧ Hid (M m = p) ∧ 0 ≤ p ∧ p ≤ 20 * m) (fun _ i _ => tl.length - (intOf i).toNat)
          case atStart => exact ⟨0, 0, Nat.zero_le _, rfl, rfl, HB1, Nat.le_refl _, ⟨HXt.out, by rw [K0.out]; exact HLt.out⟩, SK0.out, by omega, by omega⟩
          obtain ⟨m, p, hm, rfl, rfl, hBm, hszm, HXm, HMp, hp0, hp1⟩ := hrel
          have t0m : wr.cell? ⟨tb, tf + k, none⟩ = some (.slice tA tl.length tc) := (hBm.cell htb).trans HT0.out
          have ztm : tb < wr.heap.size := cell_lt t0m
          by_cases hltm : m < tl.length
          · obtain ⟨x, hx⟩ : ∃ x, tl[m]? = some x := ⟨_, List.getElem?_eq_getElem hltm⟩
            obtain ⟨⟨hx1, hx2⟩, hx3, hx4⟩ := HLR.out m x hx
            have HD1 := Lib.hid (LK.out m x hx)
            have HM1 := Lib.hid (SK.out m x hx)
            obtain ⟨hr1, hr2⟩ := LR.out m hm
            obtain ⟨lb, lo, rfl, hlb, l0, l1⟩ := row2 HTW.out.row hx rfl
            obtain ⟨xs, xm⟩ := x
            simp only at hx1 hx2 hx3 hx4 l0 l1 HD1 HM1
            obtain ⟨j, rfl⟩ : ∃ j : Nat, xs = j := ⟨xs.toNat, by omega⟩
            rw [Int.toNat_natCast] at HD1
            have hjl : j < (D m).length := by omega
            obtain ⟨y, hy⟩ : ∃ y, (D m)[j]? = some y := ⟨_, List.getElem?_eq_getElem hjl⟩
            have hyr := hr2 y (List.mem_of_getElem? hy)
            rw [hy, Option.getD_some, show y + -1 * xm = y - xm by omega] at HD1
            rw [HMp.out] at HM1
            have HYC := Lib.hid (ints_box_at HXm.out.2 hy)
            have hmI : (m : Int) < tl.length := by omega
            have hm0 : (0 : Int) ≤ m := by omega
            have hj0 : (0 : Int) ≤ j := by omega
            have hjI : (j : Int) < ff.length := by omega
            have hwr : IntKind.wrap .i64 (y - xm) = y - xm := wrapI (by omega) (by omega)
            have hwp : IntKind.wrap .i64 (p + xm) = p + xm := wrapI (by omega) (by omega)
            have l0m : wr.cell? ⟨lb, lo + m * 2, none⟩ = some (vi j) := (hBm.cell hlb).trans l0
            have l1m : wr.cell? ⟨lb, lo + m * 2 + 1, none⟩ = some (vi xm) := (hBm.cell hlb).trans l1
            have zlb : lb < wr.heap.size := cell_lt l0m
            have htl2 : tb < wl.heap.size := by omega
            have hll2 : lb < wl.heap.size := by omega
            have zL : wl.heap.size < wr.heap.size := HXm.out.2.lt
            clear hx hy hr1 hr2
            go_wp2_with fail
            refine' wp_region_box (fun w' => Below wl.heap.size wr w') (fun a b h h' => h.trans (h'.mono (by have := h.size; omega))) [0, 1, 2, 3, 4, 5, 6, 7, 8, 9, 11, 12, 13, 14, 15, 16, 17, 18] 4 131 (by kernel_rfl) (by kernel_rfl) rfl (by kernel_rfl) (by kernel_rfl) rfl (by kernel_rfl) ?hl5 (Below.refl _ _) ?hq5 ?hr5
            case hl5 =>
              simp only [List.map_cons, List.map_nil, List.getD_cons_zero, List.getD_cons_succ]
              exact rfl
            case hq5 =>
              intro w0 K
              have t0w : w0.cell? ⟨tb, tf + k, none⟩ = some (.slice (some ⟨lb, lo, none⟩) tl.length tc) := (K.cell htl2).trans t0m
              have l0w : w0.cell? ⟨lb, lo + m * 2, none⟩ = some (vi j) := (K.cell hll2).trans l0m
              have l1w : w0.cell? ⟨lb, lo + m * 2 + 1, none⟩ = some (vi xm) := (K.cell hll2).trans l1m
              have z1w : tb < w0.heap.size := cell_lt t0w
              have z2w : lb < w0.heap.size := cell_lt l0w
              (repeat (go_big_quiet_step (fail)))
              exact wpQuiet_nil rfl
            case hr5 =>
              refine wpUp_one (i := 10) (by kernel_rfl) rfl rfl (fun wa b1 b2 Ka hKa => ?_)
              have y0 : wa.cell? ⟨wl.heap.size, j, none⟩ = some (vi y) := cell_keep b1 HYC.out
              have zy : wl.heap.size < wa.heap.size := cell_lt y0
              go_simp
              refine hKa _ _ b2 ?_
              refine wpUp_one (i := 19) (by kernel_rfl) rfl rfl (fun wb c1 c2 Kb hKb => ?_)
              go_simp
              refine hKb _ _ c2 ?_
              refine wpUp_one (i := 20) (by kernel_rfl) rfl rfl (fun wx f1 f2 Kx hKx => ?_)
              go_simp
              refine hKx _ _ f2 ?_
              refine wpUp_one (i := 21) (by kernel_rfl) rfl rfl (fun wc d1 d2 Kc hKc => ?_)
              have HBc : Below wr.heap.size wr wc := gr_trans (gr_trans (gr_trans b1 c1) f1) d1
              have YB := HXm.out.2.keep HBc
              have y1 : wc.cell? ⟨wl.heap.size, j, none⟩ = some (vi y) := cell_keep HBc HYC.out
              have e1 := YB.frozen j
              have zc : wl.heap.size < wc.heap.size := YB.lt
              go_simp
              refine hKc _ _ (d2.setCell (Nat.le_refl _) _) (wpUp_done (by kernel_rfl) (fun W9 g1 g2 => NoPanic.normal ?_))
              have ZB := (YB.store j (vi (y - xm))).keep g1
              have ZF := ((HXm.out.1.keep HBc).apart ⟨wl.heap.size, j, none⟩ (vi (y - xm)) (by simp only; omega)).keep g1
              have Zw : Below w.heap.size w W9 := by
                have e2 := (gr_trans_w hBm HBc).setCell (p := ⟨wl.heap.size, j, none⟩) (by simp only; omega) (vi (y - xm))
                exact gr_trans_w e2 g1
              have Zs : wt.heap.size ≤ W9.heap.size := by have := g1.size; have := HBc.size; simp at *; omega
              have HZ : Hid (CellsBox W9 w.heap.size 28 [.slice fA ff.length fC, vi slo, vi shi, .slice pA fp.length pC, vi fc, .slice (some ⟨bb, off, none⟩) fs.length sC] ∧ CellsBox W9 wl.heap.size 3 ((D (m + 1)).map vi)) := ⟨ZF, by rw [HD1.out, List.map_set]; exact ZB⟩
              clear hKa hKb hKc hKx f1 f2 ZB ZF YB b1 b2 c1 c2 d1 d2 g1 g2 HBc y0 y1 zy zc e1 l0m l1m zlb t0m ztm
              go_wp2_with fail
              go_roundw
              case rel => exact ⟨m + 1, p + xm, by omega, by go_num, rfl, Zw, Zs, HZ, HM1.out, by omega, by omega⟩
              case measure => simp [intOf]; omega
          · obtain rfl : m = tl.length := by omega
            have HME : Hid (togetherF tl = p) := by unfold Hid; rw [← SKE.out, HMp.out]
            have HLK : Hid (CellsBox wr w.heap.size 28 [.slice fA ff.length fC, vi slo, vi shi, .slice pA fp.length pC, vi fc, .slice (some ⟨bb, off, none⟩) fs.length sC] ∧ CellsBox wr wl.heap.size 3 ((S (k + 1)).map vi)) := ⟨HXm.out.1, by rw [← KE.out]; exact HXm.out.2⟩
            have f3 := HXm.out.1.cell (j := 3) rfl
            have f4 := HXm.out.1.cell (j := 4) rfl
            have zf := HXm.out.1.lt
            by_cases hpc : p ≤ fc
            · have HOK : Hid ((S (k + 1)).length = ff.length ∧ (∀ m ∈ S (k + 1), -(240 + 240 * ((k + 1 : Nat) : Int)) ≤ m ∧ m ≤ 240 + 240 * ((k + 1 : Nat) : Int)) ∧ ∀ j, j < k + 1 → G j = true) := by
                refine ⟨by rw [← KE.out]; exact (LR.out _ (Nat.le_refl _)).1, fun q hq => ?_, upto_succ HSR.out.2.2 ?_⟩
                · rw [HSN.out] at hq
                  have := addL_range (-1) (240 + 240 * (k : Int)) (.inr rfl) tl (S k) (fun x hx => by
                    obtain ⟨i, hi, rfl⟩ := List.mem_iff_getElem.1 hx
                    have := HLR.out i _ (List.getElem?_eq_getElem hi)
                    omega) HSR.out.2.1 (by omega) q hq
                  omega
                · rw [HGK.out, HME.out]
                  simp [hpc]
              have hgt : decide (fc < p) = false := by simp; exact hpc
              clear hpc
              go_wp2_with fail
              go_roundw
              case rel => exact ⟨k + 1, by omega, by go_num, hBm, by omega, HLK.out, HOK.out⟩
              case measure => simp [intOf]; omega
            · have E : Hid (an = false) := BAD.out k hlt (by rw [HGK.out, HME.out]; simp [hpc])
              have hgt : decide (fc < p) = true := by simp; omega
              clear hpc
              go_wp2_with fail
              go_ret2
              exact ⟨by rw [E.out]; rfl, hBm⟩
    · obtain rfl : k = ts.length := by omega
      have HLL : Hid (CellsBox wr wl.heap.size 3 ((leftR P ts).map vi)) := by unfold Hid; rw [← LE.out]; exact HXR.out.2
      have HLN : Hid ((leftR P ts).length = ff.length) := by unfold Hid; rw [← LE.out]; exact HSR.out.1
      have HAA : Hid ((List.range ts.length).all G = true) := by
        unfold Hid; rw [List.all_eq_true]; exact fun j hj => HSR.out.2.2 j (List.mem_range.1 hj)
      have HAE : Hid (an = (leftR P ts).all (· == 0)) := by unfold Hid; rw [HAN.out, HAA.out, Bool.true_and]
      obtain ⟨Q, hQ⟩ : ∃ Q, Q = leftR P ts := ⟨_, rfl⟩
      rw [← hQ] at HLL HLN HAE
      obtain ⟨wp, rfl⟩ : ∃ wp : World, wp = wr := ⟨_, rfl⟩
      have HBp := hB
      clear hQ hB
      go_wp2_with fail
      go_loopw [15] (fun i wr => ∃ k : Nat, k ≤ ff.length ∧ i = .int .i64 k ∧ Below wp.heap.size wp wr ∧ Hid (∀ j y, j < k → Q[j]? = some y → y = 0)) (fun i _ => ff.length - (intOf i).toNat)
      case atStart => exact ⟨0, Nat.zero_le _, rfl, Below.refl _ _, fun j y hj => absurd hj (by omega)⟩
      obtain ⟨k, hk, rfl, hB, hz⟩ := hrel
      by_cases hlt : k < ff.length
      · obtain ⟨y, hy⟩ : ∃ y, Q[k]? = some y := ⟨_, List.getElem?_eq_getElem (by have := HLN.out; omega)⟩
        have hyc := ints_box_at (HLL.out.keep hB) hy
        have hkI : (k : Int) < ff.length := by omega
        have hk0 : (0 : Int) ≤ k := by omega
        have zk : wl.heap.size < wr.heap.size := cell_lt hyc
        by_cases h0 : y = 0
        · subst h0
          have HZ : Hid (∀ j y, j < k + 1 → Q[j]? = some y → y = 0) := fun j y' hj hy' => by
            by_cases e : j = k
            · subst e; rw [hy] at hy'; cases hy'; rfl
            · exact hz.out j y' (by omega) hy'
          clear hy hz
          go_wp2_with fail
          go_roundw
          case rel => exact ⟨k + 1, by omega, by go_num, hB, HZ.out⟩
          case measure => simp [intOf]; omega
        · have hne : (y != 0) = true := by simpa using h0
          have E : Hid (an = false) := by
            unfold Hid
            rw [HAE.out, List.all_eq_false]
            exact ⟨y, List.mem_of_getElem? hy, by simpa using h0⟩
          clear hy hz h0
          go_wp2_with fail
          go_ret2
          exact ⟨by rw [E.out]; rfl, gr_trans_w HBp hB⟩
      · obtain rfl : k = ff.length := by omega
        have E : Hid (an = true) := by
          unfold Hid
          rw [HAE.out, List.all_eq_true]
          intro y hy
          obtain ⟨j, hj, rfl⟩ := List.mem_iff_getElem.1 hy
          have := hz.out j _ (by rw [← HLN.out]; exact hj) (List.getElem?_eq_getElem hj)
          simpa using this
        go_wp2_with fail
        go_ret2
        exact ⟨by rw [E.out]; rfl, gr_trans_w HBp hB⟩
end Go.Proofs.YtomgnpfpaodpiaaDoor

