/- A floor as it reads, with what its slips' number can be. -/
import Derived.Test.YtomgnpfpaodpiaaDoorH11
import Derived.Test.YtomgnpfpaodpiaaDoorH44
import Derived.Test.YtomgnpfpaodpiaaDoorH10
import Derived.Test.YtomgnpfpaodpiaaDoorH42
import Derived.Test.YtomgnpfpaodpiaaDoorH46
import Derived.Test.YtomgnpfpaodpiaaDoorH18
import Derived.Test.YtomgnpfpaodpiaaDoorH36
set_option linter.unusedVariables false
set_option linter.unusedSimpArgs false
namespace Go.Proofs.YtomgnpfpaodpiaaDoor
open Go Go.RowKit Go.Deep Go.ChangeShapes Go.WideShapes
set_option maxHeartbeats 1000000
section
variable {H : Type} {enc : TypeId × Value → H} {w : World}
set_option maxRecDepth 100000 in
theorem read_floor2 {v : Value} {d : DataW H} {ps : List MemPlace} {base : Nat} (hv : Value.okWide Tryd.prog w .any base 28 v) (h : DataW.Trod enc Tryd.prog w 0 (fun _ => true) true 28 v d ps) (hd : Fair Tryd.prog 28 d) : ∃ f : Floor, v = f.val ∧ FloorAt w w.heap.size f ∧ f.slips.length ≤ 4398046511104 := by
  obtain ⟨cs, rfl, hsz⟩ := okWide_struct ur hv
  obtain ⟨n, h⟩ := h
  obtain ⟨hl, m, hm⟩ := read_fields (y := (d, ps)) ur lr h hd
  obtain ⟨c0, c1, c2, c3, c4, c5, hc⟩ := list6 (l := cs.toList) (by rw [Array.length_toList]; exact hsz.trans kr)
  obtain rfl : cs = #[c0, c1, c2, c3, c4, c5] := by rw [← Array.toArray_toList (xs := cs), hc]
  obtain ⟨z0, h0, y0⟩ := hm 0 _ _ rfl
  obtain ⟨z1, h1, y1⟩ := hm 1 _ _ rfl
  obtain ⟨z2, h2, y2⟩ := hm 2 _ _ rfl
  obtain ⟨z3, h3, _⟩ := hm 3 _ _ rfl
  obtain ⟨z4, h4, y4⟩ := hm 4 _ _ rfl
  rw [kl2] at h0
  rw [ks] at h1
  rw [kl3] at h2
  rw [ki] at h3
  rw [kl4] at h4
  obtain ⟨fA, fC, ff, e0, g0⟩ := read_ints h0 y0
  obtain ⟨slo, shi, e1⟩ := read_span h1 y1
  obtain ⟨pA, pC, fp, e2, g2⟩ := read_spans h2 y2
  obtain ⟨fc, e3⟩ := read_int h3
  obtain ⟨sA, sC, fs, e4, k2, k3, k4, k5, k6⟩ := open_rows (α := SSlip) SSlip.cells (fun x => SLinesAt w w.heap.size x.ad x.cap x.lines) Tryd.underlying26 kx (by omega) read_slip h4 y4
  simp [Value.cells] at e0 e1 e2 e3 e4
  obtain ⟨e1, e5⟩ := e1
  rw [bx] at k3
  have k7 := k3
  unfold reachBytes at k7
  exact ⟨⟨fA, fC, ff, slo, shi, pA, pC, fp, fc, sA, sC, fs⟩, by rw [e0, e1, e2, e3, e4, e5], ⟨g0, g2, rows_of k2 k3 k4 k5 (by omega), k6⟩, by simp only; omega⟩
end
end Go.Proofs.YtomgnpfpaodpiaaDoor

/- Contract of Total, of numbers that are 0 or 1; the specification's roster as lists of marks. -/
namespace Go.Proofs.YtomgnpfpaodpiaaDoor
open Go Go.RowKit
set_option maxHeartbeats 4000000
theorem sum_take_succ {l : List Int} {k : Nat} {x : Int} (h : l[k]? = some x) : (l.take (k + 1)).sum = (l.take k).sum + x := by
  obtain ⟨hk, rfl⟩ := List.getElem?_eq_some_iff.1 h
  rw [List.take_succ_eq_append_getElem hk, List.sum_append]
  simp
theorem sum_marks : ∀ (l : List Int), (∀ x ∈ l, 0 ≤ x ∧ x ≤ 1) → 0 ≤ l.sum ∧ l.sum ≤ l.length
  | [], _ => by simp
  | x :: l, h => by
    have h1 := h x (by simp)
    have h2 := sum_marks l (fun y hy => h y (by simp [hy]))
    simp only [List.sum_cons, List.length_cons]
    omega
theorem total_any (A : Option Addr) (cap : Nat) (l : List Int) (h01 : ∀ x ∈ l, 0 ≤ x ∧ x ≤ 1) (w : World) (h : IntsAt w w.heap.size A cap l) :
    Calls Tryd.prog 100 #[.slice A l.length cap] w fun e w' => e = .returned (vi l.sum) ∧ Below w.heap.size w w' := by
  have hll := h.lens
  have HH := Lib.hid h
  have HR : Hid (∀ k : Nat, 0 ≤ (l.take k).sum ∧ (l.take k).sum ≤ k) := fun k => by
    have := sum_marks (l.take k) (fun x hx => h01 x (List.mem_of_mem_take hx))
    rw [List.length_take] at this
    omega
  have HS : Hid (∀ (k : Nat) (x : Int), l[k]? = some x → (l.take (k + 1)).sum = (l.take k).sum + x ∧ 0 ≤ x ∧ x ≤ 1) := fun k x hx => ⟨sum_take_succ hx, h01 x (List.mem_of_getElem? hx)⟩
  have HE : Hid ((l.take l.length).sum = l.sum) := by unfold Hid; rw [List.take_length]
  obtain ⟨S, hS⟩ : ∃ S, S = fun k => (l.take k).sum := ⟨_, rfl⟩
  have e : ∀ k, (l.take k).sum = S k := fun k => by rw [hS]
  have S0 : Hid (S 0 = 0) := by unfold Hid; rw [hS]; simp
  simp only [e] at HR HS HE
  obtain ⟨an, han⟩ : ∃ an, an = l.sum := ⟨_, rfl⟩
  rw [← han] at HE ⊢
  clear h h01 hS e han
  go_enter Tryd.func100, Tryd.ntmps100
  go_wp2_with fail
  go_loopw [3, 4] (fun s i wr => ∃ k : Nat, k ≤ l.length ∧ i = .int .i64 k ∧ s = vi (S k) ∧ Below w.heap.size w wr) (fun _ i _ => l.length - (intOf i).toNat)
  case atStart => exact ⟨0, Nat.zero_le _, rfl, by rw [S0.out], Below.refl _ _⟩
  obtain ⟨k, hk, rfl, rfl, hB⟩ := hrel
  have hr := HR.out k
  by_cases hlt : k < l.length
  · obtain ⟨x, hx⟩ : ∃ x, l[k]? = some x := ⟨_, List.getElem?_eq_getElem hlt⟩
    obtain ⟨bb, off, rfl, hbb, x0⟩ := ints_at (HH.out.to hB) hx
    obtain ⟨hs, hx0, hx1⟩ := HS.out k x hx
    have HSK := Lib.hid hs
    have hkI : (k : Int) < l.length := by omega
    have h0k : (0 : Int) ≤ k := by omega
    have zbb : bb < wr.heap.size := hbb
    have hwr : IntKind.wrap .i64 (S k + x) = S k + x := wrapI (by omega) (by omega)
    clear hx hs
    go_wp2_with fail
    go_roundw
    case rel => exact ⟨k + 1, by omega, by go_num, by rw [HSK.out], hB⟩
    case measure => simp [intOf]; omega
  · obtain rfl : k = l.length := by omega
    go_wp2_with fail
    go_ret
    exact ⟨by rw [HE.out]; rfl, hB⟩
/-- one slip more on a roster: which slips are on it (none: it is no roster) -/
def stepQ (f : Floor) (o : Option (List Int)) (n : Int) : Option (List Int) := match o with | none => none | some l => if slipB f n && decide (l[n.toNat]?.getD 0 ≤ 0) then some (l.set n.toNat (l[n.toNat]?.getD 0 + 1)) else none
theorem stepQ_none (f : Floor) : ∀ l : List Int, l.foldl (stepQ f) none = none
  | [] => rfl
  | _ :: l => stepQ_none f l
def rowsQ (f : Floor) (o : Option (List Int)) (ts : List SRow) : Option (List Int) := ts.foldl (fun o t => t.slips.foldl (stepQ f) o) o
theorem rowsQ_none (f : Floor) : ∀ ts : List SRow, rowsQ f none ts = none
  | [] => rfl
  | t :: ts => by
    unfold rowsQ
    rw [List.foldl_cons, stepQ_none]
    exact rowsQ_none f ts
def rosterQ (f : Floor) (ts : List SRow) : Bool := match rowsQ f (some (List.replicate f.slips.length 0)) ts with | some l => (l.sum == (f.slips.length : Int)) | none => false
theorem rowsQ_succ {f : Floor} {o : Option (List Int)} {ts : List SRow} {k : Nat} {t : SRow} (h : ts[k]? = some t) : rowsQ f o (ts.take (k + 1)) = t.slips.foldl (stepQ f) (rowsQ f o (ts.take k)) := by
  obtain ⟨hk, rfl⟩ := List.getElem?_eq_some_iff.1 h
  unfold rowsQ
  rw [List.take_succ_eq_append_getElem hk, List.foldl_append]
  rfl
theorem rowsQ_rest {f : Floor} {o : Option (List Int)} {ts : List SRow} {k : Nat} (hk : rowsQ f o (ts.take k) = none) : rowsQ f o ts = none := by
  have e : rowsQ f o (ts.take k ++ ts.drop k) = rowsQ f (rowsQ f o (ts.take k)) (ts.drop k) := by unfold rowsQ; rw [List.foldl_append]
  rw [List.take_append_drop, hk, rowsQ_none] at e
  exact e
theorem stepQ_succ {f : Floor} {l : List Int} {j : Nat} {x : Int} (o : Option (List Int)) (h : l[j]? = some x) : (l.take (j + 1)).foldl (stepQ f) o = stepQ f ((l.take j).foldl (stepQ f) o) x := by
  obtain ⟨hj, rfl⟩ := List.getElem?_eq_some_iff.1 h
  rw [List.take_succ_eq_append_getElem hj, List.foldl_append]
  rfl
theorem stepQ_rest {f : Floor} {l : List Int} {j : Nat} {o : Option (List Int)} (hj : (l.take j).foldl (stepQ f) o = none) : l.foldl (stepQ f) o = none := by
  have e : (l.take j ++ l.drop j).foldl (stepQ f) o = (l.drop j).foldl (stepQ f) ((l.take j).foldl (stepQ f) o) := by rw [List.foldl_append]
  rw [List.take_append_drop, hj, stepQ_none] at e
  exact e
end Go.Proofs.YtomgnpfpaodpiaaDoor

/- Contract of the specification's isRoster. -/
namespace Go.Proofs.YtomgnpfpaodpiaaDoor
open Go Go.RowKit
set_option maxHeartbeats 4000000
theorem mkIntsB (n : Nat) (hn : n ≤ 4398046511104) (w : World) : (Instr.makeSlice 22 (.int .i64 n) (.int .i64 n)).run Tryd.prog w = .ok (.slice (some ⟨w.heap.size, 0, none⟩) n n) (w.alloc (.cells (List.replicate n (vi 0)).toArray 3)) := by
  obtain ⟨i0, hi, hy0, hy1, hy2⟩ := info_parts info_int
  have := run_make (P := Tryd.prog) w 22 3 i0 _ Tryd.underlying22 hi hy0 .i64 .i64 n n (by omega) (by omega) (by rw [hy2]; omega) (by omega)
  rw [this, hy1, Int.toNat_natCast, Nat.mul_one, madeCells_rep _ (vi 0)]
  · intro i hi
    have : i = 0 := by simp [Value.cells] at hi; omega
    subst this; rfl
  · simp [Value.cells]
theorem ints_of_box {W : World} {b : Nat} {l : List Int} (h : CellsBox W b 3 (l.map vi)) (hl : l.length ≤ 35184372088832) : IntsAt W W.heap.size (some ⟨b, 0, none⟩) l.length l :=
  ⟨by simp, by omega, by simpa using hl, fun _ => ⟨b, 0, rfl, h.lt, fun i r hr j u hj hu => by
    obtain rfl : j = 0 := by omega
    rw [List.getElem?_map] at hr
    cases hi : l[i]? with
    | none => rw [hi] at hr; cases hr
    | some x =>
      rw [hi] at hr
      simp only [Option.map_some, Option.some.injEq] at hr
      subst hr
      simp only [List.getElem?_cons_zero, Option.some.injEq] at hu
      subst hu
      simpa using ints_box_at h hi⟩⟩
set_option maxRecDepth 100000 in
theorem rIsRoster_any (f : Floor) (hf : f.slips.length ≤ 4398046511104) (A : Option Addr) (cap : Nat) (ts : List SRow) (w : World) (ht : RosterAt w w.heap.size A cap ts) :
    Calls Tryd.prog 67 #[f.val, .slice A ts.length cap] w fun e w' => e = .returned (.bool (rosterQ f ts)) ∧ Below w.heap.size w w' := by
  have htl := ht.rows.lens
  have HT := Lib.hid ht
  obtain ⟨an, han⟩ : ∃ an, an = rosterQ f ts := ⟨_, rfl⟩
  have BAD : Hid (∀ k, rowsQ f (some (List.replicate f.slips.length 0)) (ts.take k) = none → an = false) := fun k hk => by rw [han, rosterQ, rowsQ_rest hk]
  have HX : Hid (∀ (k : Nat) (t : SRow), ts[k]? = some t → rowsQ f (some (List.replicate f.slips.length 0)) (ts.take (k + 1)) = t.slips.foldl (stepQ f) (rowsQ f (some (List.replicate f.slips.length 0)) (ts.take k))) := fun k t hk => rowsQ_succ hk
  have FIN : Hid (∀ M : List Int, rowsQ f (some (List.replicate f.slips.length 0)) (ts.take ts.length) = some M → an = (M.sum == (f.slips.length : Int))) := fun M hM => by
    rw [List.take_length] at hM
    rw [han, rosterQ, hM]
  have SB := Lib.hid (fun (n : Int) (b : Bool) (hb : slipB f n = b) (W : World) => isSlip_is hb W (by omega : f.slips.length ≤ 35184372088832))
  have ST : Hid (∀ (M : List Int) (n : Int), stepQ f (some M) n = if slipB f n && decide (M[n.toNat]?.getD 0 ≤ 0) then some (M.set n.toNat (M[n.toNat]?.getD 0 + 1)) else none) := fun m n => rfl
  have SR : Hid (∀ n : Int, slipB f n = true → ∃ s : Nat, n = s ∧ s < f.slips.length) := fun n hn => by
    unfold slipB at hn
    simp only [Bool.and_eq_true, decide_eq_true_eq] at hn
    exact ⟨n.toNat, by omega, by omega⟩
  have H0 : Hid (rowsQ f (some (List.replicate f.slips.length 0)) (ts.take 0) = some (List.replicate f.slips.length 0)) := rfl
  rw [← han]
  clear han ht
  obtain ⟨st, hst⟩ : ∃ st, st = stepQ f := ⟨_, rfl⟩
  obtain ⟨sb, hsb⟩ : ∃ sb, sb = slipB f := ⟨_, rfl⟩
  obtain ⟨G, hG⟩ : ∃ G, G = fun k => rowsQ f (some (List.replicate f.slips.length 0)) (ts.take k) := ⟨_, rfl⟩
  have eG : ∀ k, rowsQ f (some (List.replicate f.slips.length 0)) (ts.take k) = G k := fun k => by rw [hG]
  have SUC : Hid (∀ (l : List Int) (j : Nat) (x : Int) (o : Option (List Int)), l[j]? = some x → (l.take (j + 1)).foldl st o = st ((l.take j).foldl st o) x) := fun l j x o h => by rw [hst]; exact stepQ_succ o h
  have RES : Hid (∀ (l : List Int) (j : Nat) (o : Option (List Int)), (l.take j).foldl st o = none → l.foldl st o = none) := fun l j o h => by rw [hst] at h ⊢; exact stepQ_rest h
  simp only [eG] at BAD HX FIN H0
  rw [← hst] at HX ST
  rw [← hsb] at SB ST SR
  clear hst hsb hG eG
  obtain ⟨fA, fC, ff, slo, shi, pA, pC, fp, fc, sA, sC, fs⟩ := f
  simp only at hf FIN SR H0 SB
  show Calls Tryd.prog 67 #[.agg #[.slice fA ff.length fC, vi slo, vi shi, .slice pA fp.length pC, vi fc, .slice sA fs.length sC], .slice A ts.length cap] w _
  have hb0 := below1 w (.cells #[.slice fA ff.length fC, vi slo, vi shi, .slice pA fp.length pC, vi fc, .slice sA fs.length sC] 28)
  have X0 := CellsBox.new w 28 [.slice fA ff.length fC, vi slo, vi shi, .slice pA fp.length pC, vi fc, .slice sA fs.length sC]
  have mkI := mkIntsB fs.length hf
  go_enter Tryd.func67, Tryd.ntmps67
  go_wp2_with fail
  obtain ⟨wl, hW⟩ : ∃ W, W = w.alloc (.cells #[.slice fA ff.length fC, vi slo, vi shi, .slice pA fp.length pC, vi fc, .slice sA fs.length sC] 28) := ⟨_, rfl⟩
  have hsw : w.heap.size + 1 = wl.heap.size := by rw [hW]; simp
  rw [← hW] at hb0 ⊢
  have HX1 : Hid (CellsBox wl w.heap.size 28 [.slice fA ff.length fC, vi slo, vi shi, .slice pA fp.length pC, vi fc, .slice sA fs.length sC]) := by unfold Hid; rw [hW]; exact X0
  have za := HX1.out.lt
  rw [hsw]
  clear hW X0 hsw
  obtain ⟨V, hV⟩ : ∃ V, V = wl.alloc (.cells (Array.replicate fs.length (vi 0)) 3) := ⟨_, rfl⟩
  have hbV : Below wl.heap.size wl V := by rw [hV]; exact below1 _ _
  have XL : Hid (CellsBox V wl.heap.size 3 ((List.replicate fs.length 0).map vi)) := by
    unfold Hid
    rw [hV, List.map_replicate]
    have := CellsBox.new wl 3 (List.replicate fs.length (vi 0))
    simpa using this
  have HBV : Below w.heap.size w V := hb0.trans (hbV.mono hb0.size)
  have HXV := Lib.hid (HX1.out.keep hbV)
  have HWL : Hid (w.heap.size < wl.heap.size) := za
  have HM0 : Hid ((List.replicate fs.length (0 : Int)).length = fs.length ∧ ∀ x ∈ List.replicate fs.length (0 : Int), 0 ≤ x ∧ x ≤ 1) := ⟨List.length_replicate, fun x hx => by rw [List.mem_replicate] at hx; omega⟩
  obtain ⟨M0, hM0⟩ : ∃ M0 : List Int, M0 = List.replicate fs.length 0 := ⟨_, rfl⟩
  rw [← hM0] at XL HM0 H0
  rw [← hV]
  clear hV hbV za mkI hM0 hb0
  go_loopw [6] (fun i wr => ∃ (k : Nat) (M : List Int), k ≤ ts.length ∧ i = .int .i64 k ∧ Below w.heap.size w wr ∧ V.heap.size ≤ wr.heap.size ∧ Hid (CellsBox wr w.heap.size 28 [.slice fA ff.length fC, vi slo, vi shi, .slice pA fp.length pC, vi fc, .slice sA fs.length sC] ∧ CellsBox wr wl.heap.size 3 (M.map vi)) ∧ Hid (M.length = fs.length ∧ ∀ x ∈ M, 0 ≤ x ∧ x ≤ 1) ∧ Hid (G k = some M)) (fun i _ => ts.length - (intOf i).toNat)
  case atStart => exact ⟨0, M0, Nat.zero_le _, rfl, HBV, Nat.le_refl _, ⟨HXV.out, XL.out⟩, HM0, H0⟩
  obtain ⟨k, M, hk, rfl, hB, hsz, HXR, HM, HG⟩ := hrel
  by_cases hlt : k < ts.length
  · obtain ⟨t, ht⟩ : ∃ t, ts[k]? = some t := ⟨_, List.getElem?_eq_getElem hlt⟩
    have HTL := Lib.hid (HT.out.each t (List.mem_of_getElem? ht))
    obtain ⟨tb, tf, rfl, htb, t0⟩ := row1 HT.out.rows.row ht rfl
    have HXk := Lib.hid (HX.out k t ht)
    have hln := HTL.out.lens
    have hkI : (k : Int) < ts.length := by omega
    have h0k : (0 : Int) ≤ k := by omega
    clear ht
    obtain ⟨tA, tC, tl⟩ := t
    simp only at HTL HXk hln
    replace t0 : w.cell? ⟨tb, tf + k, none⟩ = some (.slice tA tl.length tC) := t0
    have HT0 := Lib.hid t0
    clear t0
    go_wp2_with fail
    obtain ⟨wo, rfl⟩ : ∃ wo : World, wo = wr := ⟨_, rfl⟩
    go_loopw [7] (fun i wr => ∃ (j : Nat) (L : List Int), j ≤ tl.length ∧ i = .int .i64 j ∧ Below w.heap.size w wr ∧ wo.heap.size ≤ wr.heap.size ∧ Hid (CellsBox wr w.heap.size 28 [.slice fA ff.length fC, vi slo, vi shi, .slice pA fp.length pC, vi fc, .slice sA fs.length sC] ∧ CellsBox wr wl.heap.size 3 (L.map vi)) ∧ Hid (L.length = fs.length ∧ ∀ x ∈ L, 0 ≤ x ∧ x ≤ 1) ∧ Hid ((tl.take j).foldl st (some M) = some L)) (fun i _ => tl.length - (intOf i).toNat)
    case atStart => exact ⟨0, M, Nat.zero_le _, rfl, hB, Nat.le_refl _, HXR, HM, rfl⟩
    obtain ⟨j, L, hj, rfl, hB2, hsz2, HXL, HL, HJ⟩ := hrel
    have t0 : wr.cell? ⟨tb, tf + k, none⟩ = some (.slice tA tl.length tC) := (hB2.cell htb).trans HT0.out
    have ztb : tb < wr.heap.size := cell_lt t0
    by_cases hjl : j < tl.length
    · obtain ⟨x, hx⟩ : ∃ x, tl[j]? = some x := ⟨_, List.getElem?_eq_getElem hjl⟩
      obtain ⟨bc, oc, rfl, hbc, y0⟩ := ints_at (HTL.out.to hB2) hx
      have SX := SUC.out tl j x (some M) hx
      rw [HJ.out, ST.out L x] at SX
      have SXX := Lib.hid SX
      have hjI : (j : Int) < tl.length := by omega
      have h0j : (0 : Int) ≤ j := by omega
      have zbc : bc < wr.heap.size := cell_lt y0
      have a0 := HXL.out.1.cell (j := 0) rfl
      have a1 := HXL.out.1.cell (j := 1) rfl
      have a2 := HXL.out.1.cell (j := 2) rfl
      have a3 := HXL.out.1.cell (j := 3) rfl
      have a4 := HXL.out.1.cell (j := 4) rfl
      have a5 := HXL.out.1.cell (j := 5) rfl
      have za := HXL.out.1.lt
      have NONE : Hid ((tl.take (j + 1)).foldl st (some M) = none → an = false) := fun h => BAD.out (k + 1) (by rw [HXk.out, HG.out]; exact RES.out tl (j + 1) (some M) h)
      clear hx SX
      rcases hs : sb x with _ | _
      · have E : Hid (an = false) := NONE.out (by rw [SXX.out, hs]; rfl)
        have SB1 := Lib.hid (SB.out x false hs)
        clear hs
        go_wp2_with fail
        refine (SB1.out _).mono ?_
        rintro e W3 ⟨rfl, hb3⟩
        go_wp2_with fail
        go_ret
        exact ⟨retB E.out.symm, gr_trans_w hB2 hb3⟩
      · have SB1 := Lib.hid (SB.out x true hs)
        obtain ⟨s, rfl, s9⟩ := SR.out x hs
        have HSX := Lib.hid hs
        obtain ⟨y, hy⟩ : ∃ y, L[s]? = some y := ⟨_, List.getElem?_eq_getElem (by rw [HL.out.1]; exact s9)⟩
        have hyr := HL.out.2 y (List.mem_of_getElem? hy)
        have hyc := ints_box_at HXL.out.2 hy
        have hyf := HXL.out.2.frozen s
        have zL := HXL.out.2.lt
        have hsI : (s : Int) < fs.length := by omega
        have hs0 : (0 : Int) ≤ s := by omega
        rw [Int.toNat_natCast, hy, Option.getD_some] at SXX
        clear hs hy
        have hyy : y = 0 ∨ y = 1 := by omega
        rcases hyy with rfl | rfl
        · have NEXT : Hid ((tl.take (j + 1)).foldl st (some M) = some (L.set s 1)) := by unfold Hid; rw [SXX.out, HSX.out]; simp
          go_wp2_with fail
          refine (SB1.out _).mono ?_
          rintro e W3 ⟨rfl, hb3⟩
          have hyc3 := cell_keep hb3 hyc
          have HX3 := Lib.hid (And.intro (HXL.out.1.keep hb3) (HXL.out.2.keep hb3))
          have hyf3 := HX3.out.2.frozen s
          have z3 := HX3.out.2.lt
          clear hyc hyf a0 a1 a2 a3 a4 a5
          have hB3 := gr_trans_w hB2 hb3
          have hz3 := hb3.size
          have HLS : Hid ((L.set s 1).length = fs.length ∧ ∀ x ∈ L.set s 1, 0 ≤ x ∧ x ≤ 1) := ⟨by rw [List.length_set]; exact HL.out.1, fun x hx => by
            rcases List.mem_or_eq_of_mem_set hx with hx | rfl
            · exact HL.out.2 x hx
            · omega⟩
          have zwl : w.heap.size < wl.heap.size := HWL.out
          clear hb3
          go_wp2_with fail
          go_roundw
          case rel =>
            refine ⟨j + 1, L.set s 1, by omega, by go_num, by (repeat (first | exact Below.refl _ _ | refine Below.setCell ?_ (by first | omega | (simp; omega) | (simp; done)) _ | refine Below.alloc ?_ (by first | omega | (simp; omega) | (simp; done)) _ | refine Below.drew ?_ | refine below_drewN ?_ _ | refine Below.trans ?_ (Below.mono (by assumption) (by first | omega | (simp; omega) | (simp; done))))), by simp; omega, ⟨HX3.out.1.apart ⟨wl.heap.size, s, none⟩ (vi 1) (by simp only; omega), ?_⟩, HLS.out, NEXT.out⟩
            rw [List.map_set]
            exact HX3.out.2.store s (vi 1)
          case measure => simp [intOf]; omega
        · have E : Hid (an = false) := NONE.out (by rw [SXX.out, HSX.out]; simp)
          go_wp2_with fail
          refine (SB1.out _).mono ?_
          rintro e W3 ⟨rfl, hb3⟩
          have hyc3 := cell_keep hb3 hyc
          have z3 := cell_lt hyc3
          clear hyc hyf a0 a1 a2 a3 a4 a5
          go_wp2_with fail
          go_ret
          exact ⟨retB E.out.symm, gr_trans_w hB2 hb3⟩
    · obtain rfl : j = tl.length := by omega
      have EK : Hid (G (k + 1) = some L) := by
        unfold Hid
        have := HJ.out
        rw [List.take_length] at this
        rw [HXk.out, HG.out, this]
      go_wp2_with fail
      go_roundw
      case rel => exact ⟨k + 1, L, by omega, by go_num, hB2, by omega, HXL, HL, EK⟩
      case measure => simp [intOf]; omega
  · obtain rfl : k = ts.length := by omega
    have E := Lib.hid (FIN.out M HG.out)
    have a5 := HXR.out.1.cell (j := 5) rfl
    have za := HXR.out.1.lt
    have TI := Lib.hid (ints_of_box HXR.out.2 (by have := HM.out.1; omega))
    have TA := Lib.hid (fun (W : World) hW => total_any (some ⟨wl.heap.size, 0, none⟩) M.length M HM.out.2 W hW)
    rw [HM.out.1] at TI TA
    go_wp2_with fail
    (refine wp_region_grow_lit (by kernel_rfl) (by kernel_rfl) ?_; (repeat (go_big_quiet_step ((go_at_call 100; refine Calls.grow_of (TA.out _ (TI.out.to (plus_below _ _))))))); refine wpQuiet_nil ?_; intro w1 hw1; have hb1 := below_of_plus hw1; clear hw1; obtain ⟨⟨hc1, hf1, hs1⟩, hz1⟩ := after hb1; (try simp only [World.size_alloc, World.size_setCell, World.size_drew] at hz1))
    go_wp2_with fail
    go_ret
    exact ⟨retB E.out.symm, gr_trans_w hB hb1⟩
end Go.Proofs.YtomgnpfpaodpiaaDoor

/- The specification's roster is the program's. -/
namespace Go.Proofs.YtomgnpfpaodpiaaDoor
open Go Go.RowKit
set_option maxHeartbeats 2000000
def bitsL (n m : Nat) : List Int := (List.range n).map fun s => if m.testBit s then (1 : Int) else 0
theorem bitsL_at {n m s : Nat} (h : s < n) : (bitsL n m)[s]? = some (if m.testBit s then (1 : Int) else 0) := by
  unfold bitsL
  rw [List.getElem?_map, List.getElem?_range h]
  rfl
theorem bitsL_zero (n : Nat) : bitsL n 0 = List.replicate n 0 := by
  apply List.ext_getElem?
  intro i
  by_cases h : i < n
  · rw [bitsL_at h, List.getElem?_replicate, if_pos h]
    simp
  · rw [List.getElem?_eq_none (by simp [bitsL]; omega), List.getElem?_eq_none (by simp; omega)]
theorem bitsL_set {n m s : Nat} (h : s < n) : (bitsL n m).set s 1 = bitsL n (m ||| 2 ^ s) := by
  apply List.ext_getElem?
  intro i
  rw [List.getElem?_set]
  by_cases hi : i < n
  · rw [bitsL_at hi, bitsL_at hi, Nat.testBit_or, Nat.testBit_two_pow]
    by_cases hsi : s = i
    · subst hsi
      simp [bitsL, h]
    · simp [hsi]
  · rw [List.getElem?_eq_none (by simp [bitsL]; omega), List.getElem?_eq_none (by simp [bitsL]; omega), if_neg (by omega)]
theorem stepQ_bits (f : Floor) (m : Nat) (x : Int) : stepQ f (some (bitsL f.slips.length m)) x = (stepR f (some m) x).map (bitsL f.slips.length) := by
  unfold stepQ stepR
  cases hs : slipB f x with
  | false => simp
  | true =>
    have hs2 := hs
    unfold slipB at hs2
    simp only [Bool.and_eq_true, decide_eq_true_eq] at hs2
    have hlt : x.toNat < f.slips.length := by omega
    simp only [bitsL_at hlt, Option.getD_some]
    cases hb : m.testBit x.toNat with
    | true => simp
    | false =>
      simp
      exact bitsL_set hlt
theorem rowQ_bits (f : Floor) : ∀ (l : List Int) (o : Option Nat), l.foldl (stepQ f) (o.map (bitsL f.slips.length)) = (l.foldl (stepR f) o).map (bitsL f.slips.length)
  | [], _ => rfl
  | x :: l, o => by
    rw [List.foldl_cons, List.foldl_cons, ← rowQ_bits f l]
    congr 1
    cases o with
    | none => rfl
    | some m => exact stepQ_bits f m x
theorem rowsQ_bits (f : Floor) : ∀ (ts : List SRow) (o : Option Nat), rowsQ f (o.map (bitsL f.slips.length)) ts = (rowsR f o ts).map (bitsL f.slips.length)
  | [], _ => rfl
  | t :: ts, o => by
    unfold rowsQ rowsR
    rw [List.foldl_cons, List.foldl_cons, rowQ_bits]
    exact rowsQ_bits f ts _
theorem row_lt (f : Floor) : ∀ (l : List Int) (o : Option Nat), (∀ m, o = some m → m < 2 ^ f.slips.length) → ∀ m, l.foldl (stepR f) o = some m → m < 2 ^ f.slips.length
  | [], _, h, m, hm => h m hm
  | x :: l, o, h, m, hm => by
    refine row_lt f l (stepR f o x) (fun k hk => ?_) m hm
    cases o with
    | none => cases hk
    | some j =>
      unfold stepR at hk
      simp only at hk
      split at hk
      · rename_i hc
        simp only [Option.some.injEq] at hk
        subst hk
        rw [Bool.and_eq_true] at hc
        have hc1 := hc.1
        unfold slipB at hc1
        simp only [Bool.and_eq_true, decide_eq_true_eq] at hc1
        exact Nat.or_lt_two_pow (h j rfl) (Nat.pow_lt_pow_right (by omega) (by omega))
      · cases hk
theorem rows_lt (f : Floor) : ∀ (ts : List SRow) (o : Option Nat), (∀ m, o = some m → m < 2 ^ f.slips.length) → ∀ m, rowsR f o ts = some m → m < 2 ^ f.slips.length
  | [], _, h, m, hm => h m hm
  | t :: ts, o, h, m, hm => by
    unfold rowsR at hm
    rw [List.foldl_cons] at hm
    exact rows_lt f ts _ (row_lt f t.slips o h) m hm
theorem sum_ones : ∀ (l : List Int), (∀ x ∈ l, 0 ≤ x ∧ x ≤ 1) → (l.sum = l.length ↔ ∀ x ∈ l, x = 1)
  | [], _ => by simp
  | x :: l, h => by
    have h1 := h x (by simp)
    have h2 := sum_marks l (fun y hy => h y (by simp [hy]))
    have h3 := sum_ones l (fun y hy => h y (by simp [hy]))
    simp only [List.sum_cons, List.length_cons, List.mem_cons, forall_eq_or_imp]
    rw [← h3]
    omega
theorem bits_full {n m : Nat} (hm : m < 2 ^ n) : ((bitsL n m).sum == (n : Int)) = (m == 2 ^ n - 1) := by
  have hl : (bitsL n m).length = n := by simp [bitsL]
  have h01 : ∀ x ∈ bitsL n m, 0 ≤ x ∧ x ≤ 1 := fun x hx => by
    unfold bitsL at hx
    obtain ⟨s, _, rfl⟩ := List.mem_map.1 hx
    split <;> omega
  have hk := sum_ones _ h01
  rw [hl] at hk
  rw [Bool.eq_iff_iff, beq_iff_eq, beq_iff_eq, hk]
  constructor
  · intro h
    apply Nat.eq_of_testBit_eq
    intro i
    rw [Nat.testBit_two_pow_sub_one]
    by_cases hi : i < n
    · have := h _ (List.mem_of_getElem? (bitsL_at (m := m) hi))
      cases hb : m.testBit i with
      | true => simp [hi]
      | false => rw [hb] at this; simp at this
    · rw [Nat.testBit_lt_two_pow (Nat.lt_of_lt_of_le hm (Nat.pow_le_pow_right (by omega) (by omega)))]
      simp [hi]
  · intro h x hx
    unfold bitsL at hx
    obtain ⟨s, hs, rfl⟩ := List.mem_map.1 hx
    rw [h, Nat.testBit_two_pow_sub_one]
    simp [List.mem_range.1 hs]
theorem rosterQ_is (f : Floor) (ts : List SRow) : (hasB 1 5 ts.length && rosterQ f ts) = rosterB f ts := by
  unfold rosterB rosterQ
  congr 1
  have e := rowsQ_bits f ts (some 0)
  rw [Option.map_some, bitsL_zero] at e
  rw [e]
  cases h : rowsR f (some 0) ts with
  | none => rfl
  | some m =>
    have := rows_lt f ts (some 0) (fun m hm => by cases hm; exact Nat.two_pow_pos _) m h
    simp only [Option.map_some]
    rw [bits_full this]
    rfl
end Go.Proofs.YtomgnpfpaodpiaaDoor

/- Contract of the specification's byOne. -/
namespace Go.Proofs.YtomgnpfpaodpiaaDoor
open Go Go.RowKit
set_option maxHeartbeats 4000000
def tillQ (f : Floor) (i : Nat) : Int := ((f.slips[i]?).map SSlip.till).getD 0
theorem tillQ_at {f : Floor} {i : Nat} {s : SSlip} (h : f.slips[i]? = some s) : tillQ f i = s.till := by unfold tillQ; rw [h]; rfl
/-- of the first slips of a set the one that must be done soonest -/
def nextQ (f : Floor) (m : Nat) : Nat → Option Nat
  | 0 => none
  | i + 1 => if m.testBit i then (match nextQ f m i with | none => some i | some j => if tillQ f i < tillQ f j then some i else some j) else nextQ f m i
def byQ (f : Floor) : Nat → Nat → Int → Bool
  | 0, _, _ => true
  | k + 1, m, now => if m = 0 then true else match nextQ f m f.slips.length with | none => true | some s => if tillQ f s < now + (tkF f s).2 then false else byQ f k (m - 2 ^ s) (now + (tkF f s).2)
theorem nextQ_some {f : Floor} {m : Nat} : ∀ (i s : Nat), nextQ f m i = some s → s < i ∧ m.testBit s = true
  | 0, _, h => by cases h
  | i + 1, s, h => by
    rw [nextQ] at h
    split at h
    · rename_i hb
      split at h
      · simp only [Option.some.injEq] at h; subst h; exact ⟨by omega, hb⟩
      · rename_i j hj
        have := nextQ_some i j hj
        split at h
        · simp only [Option.some.injEq] at h; subst h; exact ⟨by omega, hb⟩
        · simp only [Option.some.injEq] at h; subst h; exact ⟨by omega, this.2⟩
    · have := nextQ_some i s h
      exact ⟨by omega, this.2⟩
theorem nextQ_none {f : Floor} {m : Nat} : ∀ i : Nat, nextQ f m i = none → ∀ j, j < i → m.testBit j = false
  | 0, _, j, hj => by omega
  | i + 1, h, j, hj => by
    rw [nextQ] at h
    split at h
    · split at h
      · cases h
      · split at h <;> cases h
    · rename_i hb
      by_cases e : j = i
      · subst e; simpa using hb
      · exact nextQ_none i h j (by omega)
theorem nextQ_full {f : Floor} {m n : Nat} (hm : m < 2 ^ n) (h0 : m ≠ 0) : ∃ s, nextQ f m n = some s ∧ s < n ∧ m.testBit s = true := by
  cases h : nextQ f m n with
  | some s => exact ⟨s, rfl, nextQ_some n s h⟩
  | none =>
    exfalso
    apply h0
    apply Nat.eq_of_testBit_eq
    intro i
    rw [Nat.zero_testBit]
    by_cases hi : i < n
    · exact nextQ_none n h i hi
    · exact Nat.testBit_lt_two_pow (Nat.lt_of_lt_of_le hm (Nat.pow_le_pow_right (by omega) (by omega)))
theorem sub_fact : ∀ s : Fin 9, ∀ m : Fin 512, m.val.testBit s.val = true → (2 ^ s.val ≤ m.val ∧ wrap64 ((m.val : Int) - wrap64 (2 ^ s.val)) = ((m.val - 2 ^ s.val : Nat) : Int)) := by decide +kernel
def nextV (o : Option Nat) : Int := match o with | none => -1 | some s => s
set_option maxRecDepth 100000 in
theorem byOne_any (f : Floor) (hv : validB f = true) (m0 : Nat) (hm0 : m0 < 2 ^ f.slips.length) (w : World) (h : FloorAt w w.heap.size f) :
    Calls Tryd.prog 116 #[f.val, vi m0] w fun e w' => e = .returned (.bool (byQ f m0 m0 0)) ∧ Below w.heap.size w w' := by
  have hn9 := (fine hv).slips9
  have HF := Lib.hid h
  have h3l := h.slips.lens
  have HTL : Hid (∀ (i : Nat) (s : SSlip), f.slips[i]? = some s → tillQ f i = s.till ∧ 0 ≤ s.till ∧ s.till ≤ 100000) := fun i s hs => by
    have := (valid_parts hv).2.2.2.2.2.2 i s hs
    exact ⟨tillQ_at hs, this.1⟩
  have HTK : Hid (∀ (n : Nat) (s : SSlip), f.slips[n]? = some s → ∀ p, tkF f n = p → ∀ W : World, FloorAt W W.heap.size f → Calls Tryd.prog 62 #[f.val, vi n] W fun e w' => e = .returned (.agg #[vi p.1, vi p.2]) ∧ Below W.heap.size W w') := fun n s hs p hp W hW => by
    have := rtakes_any f hv n s hs W hW
    rw [takes_same hv hs, show takesF f s = p from by rw [← hp]; unfold tkF; rw [Int.toNat_natCast, hs]] at this
    exact this
  have HTR := Lib.hid (fun (x : Int) => tk_range hv x)
  have HNF : Hid (∀ m : Nat, m < 2 ^ f.slips.length → m ≠ 0 → ∃ s, nextQ f m f.slips.length = some s ∧ s < f.slips.length ∧ m.testBit s = true) := fun m hm h0 => nextQ_full hm h0
  have HNS : Hid (∀ (m i : Nat), nextQ f m (i + 1) = if m.testBit i then (match nextQ f m i with | none => some i | some j => if tillQ f i < tillQ f j then some i else some j) else nextQ f m i) := fun m i => rfl
  have HN0 : Hid (∀ m : Nat, nextQ f m 0 = none) := fun m => rfl
  have HNB : Hid (∀ (m i s : Nat), nextQ f m i = some s → s < i ∧ m.testBit s = true) := fun m i s h => nextQ_some i s h
  have HBY : Hid (∀ (k m : Nat) (now : Int), byQ f (k + 1) m now = if m = 0 then true else match nextQ f m f.slips.length with | none => true | some s => if tillQ f s < now + (tkF f s).2 then false else byQ f k (m - 2 ^ s) (now + (tkF f s).2)) := fun k m now => rfl
  have HBZ : Hid (∀ (k : Nat) (now : Int), byQ f k 0 now = true) := fun k now => by cases k <;> simp [byQ]
  have H512 : Hid (∀ m : Nat, m < 2 ^ f.slips.length → m < 512) := fun m hm => by
    have : 2 ^ f.slips.length ≤ 2 ^ 9 := Nat.pow_le_pow_right (by omega) hn9
    omega
  obtain ⟨BY, hBY⟩ : ∃ BY, BY = byQ f := ⟨_, rfl⟩
  obtain ⟨NX, hNX⟩ : ∃ NX, NX = nextQ f := ⟨_, rfl⟩
  obtain ⟨TQ, hTQ⟩ : ∃ TQ, TQ = tillQ f := ⟨_, rfl⟩
  obtain ⟨TK, hTK⟩ : ∃ TK, TK = tkF f := ⟨_, rfl⟩
  rw [← hBY, ← hNX, ← hTQ, ← hTK] at HBY
  rw [← hBY] at HBZ ⊢
  rw [← hNX] at HNF HNS HN0 HNB
  rw [← hTQ] at HNS HTL
  rw [← hTK] at HTK HTR
  clear hBY hNX hTQ hTK h hv
  obtain ⟨an, han⟩ : ∃ an, an = BY m0 m0 0 := ⟨_, rfl⟩
  rw [← han]
  have HAN := Lib.hid han
  clear han
  obtain ⟨fA, fC, ff, slo, shi, pA, pC, fp, fc, sA, sC, fs⟩ := f
  simp only at hm0 hn9 h3l HTL HTK HNF HBY H512
  show Calls Tryd.prog 116 #[.agg #[.slice fA ff.length fC, vi slo, vi shi, .slice pA fp.length pC, vi fc, .slice sA fs.length sC], vi m0] w _
  have hb0 := below1 w (.cells #[.slice fA ff.length fC, vi slo, vi shi, .slice pA fp.length pC, vi fc, .slice sA fs.length sC] 28)
  have X0 := CellsBox.new w 28 [.slice fA ff.length fC, vi slo, vi shi, .slice pA fp.length pC, vi fc, .slice sA fs.length sC]
  go_enter Tryd.func116, Tryd.ntmps116
  go_wp2_with fail
  obtain ⟨wl, hW⟩ : ∃ W, W = w.alloc (.cells #[.slice fA ff.length fC, vi slo, vi shi, .slice pA fp.length pC, vi fc, .slice sA fs.length sC] 28) := ⟨_, rfl⟩
  rw [← hW] at hb0 ⊢
  have HX1 : Hid (CellsBox wl w.heap.size 28 [.slice fA ff.length fC, vi slo, vi shi, .slice pA fp.length pC, vi fc, .slice sA fs.length sC]) := by unfold Hid; rw [hW]; exact X0
  clear hW X0
  go_loopw [1, 5, 6, 7] (fun sv nv x6 x7 wr => ∃ (m k : Nat) (now : Int), sv = vi m ∧ nv = vi now ∧ m < 2 ^ fs.length ∧ m ≤ k ∧ 0 ≤ now ∧ now ≤ 100000 ∧ Below wl.heap.size wl wr ∧ Hid (BY k m now = an)) (fun sv _ _ _ _ => (intOf sv).toNat)
  case atStart => exact ⟨m0, m0, 0, rfl, rfl, hm0, Nat.le_refl _, by omega, by omega, Below.refl _ _, HAN.out.symm⟩
  obtain ⟨m, k, now, rfl, rfl, hm, hmk, hn0, hn1, hB, HK⟩ := hrel
  have HBr : Below w.heap.size w wr := hb0.trans (hB.mono hb0.size)
  have HXr := Lib.hid (HX1.out.keep hB)
  have hm512 := H512.out m hm
  by_cases hz : m = 0
  · have E : Hid (an = true) := by
      unfold Hid
      rw [← HK.out, hz]
      exact HBZ.out k now
    have hz0 : decide ((0 : Int) < m) = false := by simp [hz]
    have hz1 : decide (0 < m) = false := by simp [hz]
    clear hz HK
    go_wp2_with fail
    go_ret
    exact ⟨retB E.out.symm, HBr⟩
  · have hz0 : decide ((0 : Int) < m) = true := by simp; omega
    have hz1 : decide (0 < m) = true := by simp; omega
    obtain ⟨k', rfl⟩ : ∃ k', k = k' + 1 := ⟨k - 1, by omega⟩
    have HKE := Lib.hid (HBY.out k' m now)
    have HKN := Lib.hid (HNF.out m hm hz)
    rw [if_neg hz, HK.out] at HKE
    clear HK
    go_wp2_with fail
    obtain ⟨wo, rfl⟩ : ∃ wo : World, wo = wr := ⟨_, rfl⟩
    have HBo := Lib.hid HBr
    have hBo := Lib.hid hB
    clear hB HBr
    go_loopw [6, 7] (fun v i wr => ∃ (j : Nat) (o : Option Nat), j ≤ fs.length ∧ i = .int .i64 j ∧ v = vi (nextV o) ∧ NX m j = o ∧ Below wo.heap.size wo wr) (fun _ i _ => fs.length - (intOf i).toNat)
    case atStart => exact ⟨0, none, Nat.zero_le _, rfl, rfl, HN0.out m, Below.refl _ _⟩
    obtain ⟨j, o, hj, rfl, rfl, ho, hB2⟩ := hrel
    have HO := Lib.hid ho
    have HB2 : Below w.heap.size w wr := gr_trans_w HBo.out hB2
    have HXj := Lib.hid (HXr.out.keep hB2)
    clear ho
    have a0 := HXj.out.cell (j := 0) rfl
    have a1 := HXj.out.cell (j := 1) rfl
    have a2 := HXj.out.cell (j := 2) rfl
    have a3 := HXj.out.cell (j := 3) rfl
    have a4 := HXj.out.cell (j := 4) rfl
    have a5 := HXj.out.cell (j := 5) rfl
    have za := HXj.out.lt
    by_cases hjl : j < fs.length
    · have hjI : (j : Int) < fs.length := by omega
      have h0j : (0 : Int) ≤ j := by omega
      have HNJ := Lib.hid (HNS.out m j)
      rw [HO.out] at HNJ
      rcases hbt : m.testBit j with _ | _
      · have HI := Lib.hid (in_is hbt hm512 (by omega))
        have NEXT : Hid (NX m (j + 1) = o) := by unfold Hid; rw [HNJ.out, hbt]; rfl
        clear hbt
        go_wp2_with fail
        (refine wp_region_grow_lit (by kernel_rfl) (by kernel_rfl) ?_; (repeat (go_big_quiet_step ((go_at_call 84; refine Calls.grow_same (HI.out _))))); refine wpQuiet_nil ?_; intro w1 hw1; have hb1 := below_of_plus hw1; clear hw1; obtain ⟨⟨hc1, hf1, hs1⟩, hz1⟩ := after hb1; (try simp only [World.size_alloc, World.size_setCell, World.size_drew] at hz1))
        go_wp2_with fail
        go_roundw
        case rel => exact ⟨j + 1, o, by omega, by go_num, rfl, NEXT.out, gr_trans hB2 (by (repeat (first | exact Below.refl _ _ | refine Below.setCell ?_ (by first | omega | (simp; omega) | (simp; done)) _ | refine Below.alloc ?_ (by first | omega | (simp; omega) | (simp; done)) _ | refine Below.drew ?_ | refine below_drewN ?_ _ | refine Below.trans ?_ (Below.mono (by assumption) (by first | omega | (simp; omega) | (simp; done))))))⟩
        case measure => simp [intOf]; omega
      · have HI := Lib.hid (in_is hbt hm512 (by omega))
        rw [hbt] at HNJ
        clear hbt
        obtain ⟨x, hx⟩ : ∃ x, fs[j]? = some x := ⟨_, List.getElem?_eq_getElem hjl⟩
        obtain ⟨bb, off, rfl, hbb, x0, x1⟩ := row2 (HF.out.slips.to HB2).row hx rfl
        obtain ⟨tx, _, _⟩ := HTL.out j x hx
        obtain ⟨xa, xc, xl, xt⟩ := x
        simp only at x0 x1 tx
        have TX := Lib.hid tx
        have zbb : bb < wr.heap.size := hbb
        clear hx tx
        rcases o with _ | i
        · have NEXT : Hid (NX m (j + 1) = some j) := HNJ.out
          simp only [nextV]
          go_wp2_with fail
          (refine wp_region_grow_lit (by kernel_rfl) (by kernel_rfl) ?_; (repeat (go_big_quiet_step ((go_at_call 84; refine Calls.grow_same (HI.out _))))); refine wpQuiet_nil ?_; intro w1 hw1; have hb1 := below_of_plus hw1; clear hw1; obtain ⟨⟨hc1, hf1, hs1⟩, hz1⟩ := after hb1; (try simp only [World.size_alloc, World.size_setCell, World.size_drew] at hz1))
          go_wp2_with fail
          go_roundw
          case rel => exact ⟨j + 1, some j, by omega, by go_num, rfl, NEXT.out, gr_trans hB2 (by (repeat (first | exact Below.refl _ _ | refine Below.setCell ?_ (by first | omega | (simp; omega) | (simp; done)) _ | refine Below.alloc ?_ (by first | omega | (simp; omega) | (simp; done)) _ | refine Below.drew ?_ | refine below_drewN ?_ _ | refine Below.trans ?_ (Below.mono (by assumption) (by first | omega | (simp; omega) | (simp; done))))))⟩
          case measure => simp [intOf]; omega
        · obtain ⟨hi1, hi2⟩ := HNB.out m j i HO.out
          obtain ⟨y, hy⟩ : ∃ y, fs[i]? = some y := ⟨_, List.getElem?_eq_getElem (by omega)⟩
          obtain ⟨b', off', e', hbb', y0, y1⟩ := row2 (HF.out.slips.to HB2).row hy rfl
          simp only [Option.some.injEq, Addr.mk.injEq, and_true] at e'
          obtain ⟨rfl, rfl⟩ := e'
          obtain ⟨ty, _, _⟩ := HTL.out i y hy
          obtain ⟨ya, yc, yl, yt⟩ := y
          simp only at y0 y1 ty
          have TY := Lib.hid ty
          have hiI : (i : Int) < fs.length := by omega
          have h0i : (0 : Int) ≤ i := by omega
          have hneg : decide ((i : Int) < 0) = false := by simp
          clear hy ty hi2
          have HNJ2 : Hid (NX m (j + 1) = if xt < yt then some j else some i) := by unfold Hid; rw [HNJ.out, ← TX.out, ← TY.out]; rfl
          simp only [nextV]
          rcases hd : decide (xt < yt) with _ | _
          · have NEXT : Hid (NX m (j + 1) = some i) := by unfold Hid; rw [HNJ2.out, if_neg (by simpa using hd)]
            go_wp2_with fail
            (refine wp_region_grow_lit (by kernel_rfl) (by kernel_rfl) ?_; (repeat (go_big_quiet_step ((go_at_call 84; refine Calls.grow_same (HI.out _))))); refine wpQuiet_nil ?_; intro w1 hw1; have hb1 := below_of_plus hw1; clear hw1; obtain ⟨⟨hc1, hf1, hs1⟩, hz1⟩ := after hb1; (try simp only [World.size_alloc, World.size_setCell, World.size_drew] at hz1))
            go_wp2_with fail
            go_roundw
            case rel => exact ⟨j + 1, some i, by omega, by go_num, rfl, NEXT.out, gr_trans hB2 (by (repeat (first | exact Below.refl _ _ | refine Below.setCell ?_ (by first | omega | (simp; omega) | (simp; done)) _ | refine Below.alloc ?_ (by first | omega | (simp; omega) | (simp; done)) _ | refine Below.drew ?_ | refine below_drewN ?_ _ | refine Below.trans ?_ (Below.mono (by assumption) (by first | omega | (simp; omega) | (simp; done))))))⟩
            case measure => simp [intOf]; omega
          · have NEXT : Hid (NX m (j + 1) = some j) := by unfold Hid; rw [HNJ2.out, if_pos (by simpa using hd)]
            go_wp2_with fail
            (refine wp_region_grow_lit (by kernel_rfl) (by kernel_rfl) ?_; (repeat (go_big_quiet_step ((go_at_call 84; refine Calls.grow_same (HI.out _))))); refine wpQuiet_nil ?_; intro w1 hw1; have hb1 := below_of_plus hw1; clear hw1; obtain ⟨⟨hc1, hf1, hs1⟩, hz1⟩ := after hb1; (try simp only [World.size_alloc, World.size_setCell, World.size_drew] at hz1))
            go_wp2_with fail
            go_roundw
            case rel => exact ⟨j + 1, some j, by omega, by go_num, rfl, NEXT.out, gr_trans hB2 (by (repeat (first | exact Below.refl _ _ | refine Below.setCell ?_ (by first | omega | (simp; omega) | (simp; done)) _ | refine Below.alloc ?_ (by first | omega | (simp; omega) | (simp; done)) _ | refine Below.drew ?_ | refine below_drewN ?_ _ | refine Below.trans ?_ (Below.mono (by assumption) (by first | omega | (simp; omega) | (simp; done))))))⟩
            case measure => simp [intOf]; omega
    · obtain rfl : j = fs.length := by omega
      obtain ⟨s, hs1, hs2, hs3⟩ := HKN.out
      have ho := HO.out
      rw [hs1] at ho
      subst ho
      have HKF := HKE.out
      rw [hs1] at HKF
      obtain ⟨x, hx⟩ : ∃ x, fs[s]? = some x := ⟨_, List.getElem?_eq_getElem hs2⟩
      obtain ⟨p, hp⟩ : ∃ p, TK s = p := ⟨_, rfl⟩
      have HT1 := Lib.hid (HTK.out s x hx p hp)
      have hpr := (HTR.out s).2
      rw [hp] at hpr
      have hff : TQ s = x.till := (HTL.out s x hx).1
      have htill := (HTL.out s x hx).2
      simp only [hp, hff] at HKF
      have HKG := Lib.hid HKF
      obtain ⟨bb, off, rfl, hbb, x0, x1⟩ := row2 HF.out.slips.row hx rfl
      have hxc := Lib.hid x1
      obtain ⟨q, T⟩ := p
      simp only at hpr HKG HT1
      have hwt : IntKind.wrap .i64 (now + T) = now + T := wrapI (by omega) (by omega)
      have hfd : ∀ W : World, (Instr.field 24 (.agg #[vi q, vi T]) 1).run Tryd.prog W = .ok (vi T) W := fun W => by (show (_ : Result _) = _); kernel_rfl
      have hsI : (s : Int) < fs.length := by omega
      have h0s : (0 : Int) ≤ s := by omega
      obtain ⟨hsb1, hsb2⟩ := sub_fact ⟨s, by omega⟩ ⟨m, hm512⟩ hs3
      simp only at hsb1 hsb2
      have HSB := Lib.hid hsb2
      clear HKF hx hp hff x0 x1 hs1 hsb2 HKN HKE HO
      simp only [nextV]
      go_wp2_with fail
      refine (HT1.out _ (HF.out.to HB2)).mono ?_
      rintro e W3 ⟨rfl, hb3⟩
      have hB3 : Below w.heap.size w W3 := gr_trans_w HB2 hb3
      have hX3 := Lib.hid (HXj.out.keep hb3)
      have c5 := hX3.out.cell (j := 5) rfl
      have zc := hX3.out.lt
      have y1 : W3.cell? ⟨bb, off + s * 2 + 1, none⟩ = some (vi x.till) := (hB3.cell hbb).trans hxc.out
      have zbb : bb < W3.heap.size := cell_lt y1
      clear a0 a1 a2 a3 a4 a5
      rcases hd : decide (x.till < now + T) with _ | _
      · have hge : ¬ x.till < now + T := by simpa using hd
        have NEXT : Hid (BY k' (m - 2 ^ s) (now + T) = an) := by
          have := HKG.out
          rw [if_neg hge] at this
          exact this.symm
        go_wp2_with fail
        go_roundw
        case rel => exact ⟨m - 2 ^ s, k', now + T, congrArg vi HSB.out, rfl, Nat.lt_of_le_of_lt (Nat.sub_le _ _) hm, by have := Nat.two_pow_pos s; omega, by omega, by omega, gr_trans (gr_trans hBo.out hB2) hb3, NEXT.out⟩
        case measure =>
          have hpos := Nat.two_pow_pos s
          have key : (((m - 2 ^ s : Nat) : Int)).toNat < ((m : Nat) : Int).toNat := by rw [Int.toNat_natCast, Int.toNat_natCast]; omega
          rw [HSB.out]
          exact key
      · have hlt : x.till < now + T := by simpa using hd
        have E : Hid (an = false) := by
          have := HKG.out
          rw [if_pos hlt] at this
          exact this
        go_wp2_with fail
        go_ret
        exact ⟨retB E.out.symm, hB3⟩
end Go.Proofs.YtomgnpfpaodpiaaDoor

/- What one picker can do in time: the specification's byOne is the order of the desk. -/
namespace Go.Proofs.YtomgnpfpaodpiaaDoor
open Go Go.RowKit
set_option maxHeartbeats 2000000
theorem next_min {f : Floor} {m : Nat} : ∀ (i s : Nat), nextQ f m i = some s → ∀ t, t < i → m.testBit t = true → tillQ f s < tillQ f t ∨ (tillQ f s = tillQ f t ∧ s ≤ t)
  | 0, _, h, _, _, _ => by cases h
  | i + 1, s, h, t, ht, hb => by
    rw [nextQ] at h
    split at h
    · rename_i hi
      split at h
      · rename_i hn
        simp only [Option.some.injEq] at h
        subst h
        by_cases e : t = i
        · subst e; exact .inr ⟨rfl, Nat.le_refl _⟩
        · have := nextQ_none i hn t (by omega)
          rw [hb] at this; cases this
      · rename_i j hj
        have hji := (nextQ_some i j hj).1
        have ih := next_min i j hj
        split at h
        · simp only [Option.some.injEq] at h
          subst h
          by_cases e : t = i
          · subst e; exact .inr ⟨rfl, Nat.le_refl _⟩
          · have := ih t (by omega) hb
            left; omega
        · simp only [Option.some.injEq] at h
          subst h
          by_cases e : t = i
          · subst e; omega
          · exact ih t (by omega) hb
    · rename_i hi
      by_cases e : t = i
      · subst e; exact absurd hb hi
      · exact next_min i s h t (by omega) hb
theorem till_due (f : Floor) (i : Nat) : tillQ f i = dueF f i := by
  unfold tillQ dueF keyF
  rw [Int.toNat_natCast]
  cases f.slips[i]? <;> rfl
theorem sec_tk (f : Floor) (s : Nat) : (tkF f s).2 = secF f s := by
  unfold tkF secF secsL
  rw [Int.toNat_natCast, List.getElem?_map]
  cases f.slips[s]? <;> rfl
theorem two_bit (s i : Nat) : (2 ^ s).testBit i = decide (s = i) := Nat.testBit_two_pow
theorem part_two {m s : Nat} (h : m.testBit s = true) : PM.Part (2 ^ s) m := fun i hi => by
  rw [two_bit, decide_eq_true_eq] at hi
  subst hi; exact h
theorem pick_next {f : Floor} (h9 : f.slips.length ≤ 9) {m s : Nat} (hs : s < f.slips.length) (hb : m.testBit s = true) (hmin : ∀ t, t < f.slips.length → m.testBit t = true → before f s t = true) : PM.pick m (ordN f) = s :: PM.pick (m - 2 ^ s) (ordN f) := by
  have hd := desk_is h9
  rw [← PM.less_sub (part_two hb)]
  refine PM.sorted_unique (before f) (ord_is f).anti ?_ (hd.sorted.sublist List.filter_sublist) ?_
  · refine (List.perm_ext_iff_of_nodup (hd.nodup.sublist List.filter_sublist) ?_).2 fun t => ?_
    · rw [List.nodup_cons]
      refine ⟨fun hm => ?_, hd.nodup.sublist List.filter_sublist⟩
      have := (List.mem_filter.1 hm).2
      rw [PM.less_bit, two_bit] at this
      simp at this
    · simp only [PM.pick, List.mem_filter, List.mem_cons, PM.less_bit, two_bit, Bool.and_eq_true, Bool.not_eq_true', decide_eq_false_iff_not]
      constructor
      · rintro ⟨h1, h2⟩
        by_cases e : t = s
        · exact .inl e
        · exact .inr ⟨h1, h2, fun e2 => e e2.symm⟩
      · rintro (rfl | ⟨h1, h2, _⟩)
        · exact ⟨(hd.mem _).2 hs, hb⟩
        · exact ⟨h1, h2⟩
  · rw [List.pairwise_cons]
    refine ⟨fun t ht => ?_, hd.sorted.sublist List.filter_sublist⟩
    obtain ⟨h1, h2⟩ := List.mem_filter.1 ht
    rw [PM.less_bit, Bool.and_eq_true] at h2
    exact hmin t ((hd.mem t).1 h1) h2.1
theorem by_is {f : Floor} (h9 : f.slips.length ≤ 9) : ∀ (k m : Nat) (now : Int), m ≤ k → m < 2 ^ f.slips.length → (byQ f k m now = true ↔ PM.inT (secF f) (dueF f) now (PM.pick m (ordN f)))
  | 0, m, now, hk, _ => by
    obtain rfl : m = 0 := by omega
    have : PM.pick 0 (ordN f) = [] := by unfold PM.pick; simp
    rw [this]
    simp [byQ, PM.inT]
  | k + 1, m, now, hk, hm => by
    by_cases h0 : m = 0
    · subst h0
      have : PM.pick 0 (ordN f) = [] := by unfold PM.pick; simp
      rw [this]
      simp [byQ, PM.inT]
    · obtain ⟨s, hs, hs1, hs2⟩ := nextQ_full (f := f) hm h0
      have hmin : ∀ t, t < f.slips.length → m.testBit t = true → before f s t = true := fun t ht hb => by
        have := next_min _ s hs t ht hb
        rw [till_due, till_due] at this
        exact (before_iff f s t).2 this
      have hp := Nat.two_pow_pos s
      have ih := by_is h9 k (m - 2 ^ s) (now + secF f s) (by omega) (by omega)
      rw [pick_next h9 hs1 hs2 hmin, PM.inT, ← ih, byQ, if_neg h0, hs]
      simp only [sec_tk, till_due]
      split
      · rename_i hlt
        constructor
        · intro h; cases h
        · intro h; omega
      · rename_i hlt
        constructor
        · intro h; exact ⟨by omega, h⟩
        · intro h; exact h.2
/-- which sets of slips one picker has in time -/
def aloneQ (f : Floor) (m : Nat) : Bool := byQ f m m 0
theorem alone_is {f : Floor} (h9 : f.slips.length ≤ 9) (x : Nat) (hx : ∀ i, x.testBit i = true → i < f.slips.length) : aloneQ f x = true ↔ PM.inT (secF f) (dueF f) 0 (PM.pick x (ordN f)) :=
  by_is h9 x x 0 (Nat.le_refl _) (Nat.lt_pow_two_of_testBit x fun i hi => by
    cases hb : x.testBit i with
    | false => rfl
    | true => have := hx i hb; omega)
/-- how few pickers have a set of slips in time, as the specification counts them -/
def fewQ (f : Floor) (m : Nat) : Int := PM.fewG (aloneQ f) m
theorem fewQ_fit {f : Floor} (hv : validB f = true) (p m : Nat) (hp : p < 99) (hm : ∀ i, m.testBit i = true → i < f.slips.length) : fewQ f m ≤ (p : Int) ↔ canF f p m = true := by
  have h9 := (fine hv).slips9
  rw [can_fit hv p m hm]
  exact PM.few_fit (desk_is h9) (ord_is f) (sec_nonneg hv) (aloneQ f) (alone_is h9) p m hp hm
end Go.Proofs.YtomgnpfpaodpiaaDoor

