/- Contract of Total, of numbers that are 0 or 1; the specification's roster as lists of marks. -/
import Derived.Test.YtomgnpfpaodpiaaDoorJ13
import Derived.Test.YtomgnpfpaodpiaaDoorJ03
import Derived.Test.YtomgnpfpaodpiaaDoorJ12
import Derived.Test.YtomgnpfpaodpiaaDoorJ05
import Derived.Test.YtomgnpfpaodpiaaDoorJ11
set_option linter.unusedVariables false
set_option linter.unusedSimpArgs false
namespace Go.Proofs.YtomgnpfpaodpiaaDoor
open Go Go.RowKit
set_option maxHeartbeats 4000000
theorem sum_take_succ {l : List Int} {k : Nat} {x : Int} (h : l[k]? = some x) : (l.take (k + 1)).sum = (l.take k).sum + x := by
  obtain ⟨hk, rfl⟩ := List.getElem?_eq_some_iff.1 h
  rw [List.take_succ_eq_append_getElem hk, List.sum_append]
  simp
theorem sum_marks : ∀ (l : List Int), (∀ x ∈ l, 0 ≤ x ∧ x ≤ 1) → 0 ≤ l.sum ∧ l.sum ≤ l.length
  | [], _ => by simp
  | x :: l, h => by
    have h1 := h x (by simp)
    have h2 := sum_marks l (fun y hy => h y (by simp [hy]))
    simp only [List.sum_cons, List.length_cons]
    omega
theorem total_any (A : Option Addr) (cap : Nat) (l : List Int) (h01 : ∀ x ∈ l, 0 ≤ x ∧ x ≤ 1) (w : World) (h : IntsAt w w.heap.size A cap l) :
    Calls Tryd.prog 100 #[.slice A l.length cap] w fun e w' => e = .returned (vi l.sum) ∧ Below w.heap.size w w' := by
  have hll := h.lens
  have HH := Lib.hid h
  have HR : Hid (∀ k : Nat, 0 ≤ (l.take k).sum ∧ (l.take k).sum ≤ k) := fun k => by
    have := sum_marks (l.take k) (fun x hx => h01 x (List.mem_of_mem_take hx))
    rw [List.length_take] at this
    omega
  have HS : Hid (∀ (k : Nat) (x : Int), l[k]? = some x → (l.take (k + 1)).sum = (l.take k).sum + x ∧ 0 ≤ x ∧ x ≤ 1) := fun k x hx => ⟨sum_take_succ hx, h01 x (List.mem_of_getElem? hx)⟩
  have HE : Hid ((l.take l.length).sum = l.sum) := by unfold Hid; rw [List.take_length]
  obtain ⟨S, hS⟩ : ∃ S, S = fun k => (l.take k).sum := ⟨_, rfl⟩
  have e : ∀ k, (l.take k).sum = S k := fun k => by rw [hS]
  have S0 : Hid (S 0 = 0) := by unfold Hid; rw [hS]; simp
  simp only [e] at HR HS HE
  obtain ⟨an, han⟩ : ∃ an, an = l.sum := ⟨_, rfl⟩
  rw [← han] at HE ⊢
  clear h h01 hS e han
  go_enter Tryd.func100, Tryd.ntmps100
  go_wp2_with fail
  go_loopw [3, 4] (fun s i wr => ∃ k : Nat, k ≤ l.length ∧ i = .int .i64 k ∧ s = vi (S k) ∧ Below w.heap.size w wr) (fun _ i _ => l.length - (intOf i).toNat)
  case atStart => exact ⟨0, Nat.zero_le _, rfl, by rw [S0.out], Below.refl _ _⟩
  obtain ⟨k, hk, rfl, rfl, hB⟩ := hrel
  have hr := HR.out k
  by_cases hlt : k < l.length
  · obtain ⟨x, hx⟩ : ∃ x, l[k]? = some x := ⟨_, List.getElem?_eq_getElem hlt⟩
    obtain ⟨bb, off, rfl, hbb, x0⟩ := ints_at (HH.out.to hB) hx
    obtain ⟨hs, hx0, hx1⟩ := HS.out k x hx
    have HSK := Lib.hid hs
    have hkI : (k : Int) < l.length := by omega
    have h0k : (0 : Int) ≤ k := by omega
    have zbb : bb < wr.heap.size := hbb
    have hwr : IntKind.wrap .i64 (S k + x) = S k + x := wrapI (by omega) (by omega)
    clear hx hs
    go_wp2_with fail
    go_roundw
    case rel => exact ⟨k + 1, by omega, by go_num, by rw [HSK.out], hB⟩
    case measure => simp [intOf]; omega
  · obtain rfl : k = l.length := by omega
    go_wp2_with fail
    go_ret
    exact ⟨by rw [HE.out]; rfl, hB⟩
/-- one slip more on a roster: which slips are on it (none: it is no roster) -/
def stepQ (f : Floor) (o : Option (List Int)) (n : Int) : Option (List Int) := match o with | none => none | some l => if slipB f n && decide (l[n.toNat]?.getD 0 ≤ 0) then some (l.set n.toNat (l[n.toNat]?.getD 0 + 1)) else none
theorem stepQ_none (f : Floor) : ∀ l : List Int, l.foldl (stepQ f) none = none
  | [] => rfl
  | _ :: l => stepQ_none f l
def rowsQ (f : Floor) (o : Option (List Int)) (ts : List SRow) : Option (List Int) := ts.foldl (fun o t => t.slips.foldl (stepQ f) o) o
theorem rowsQ_none (f : Floor) : ∀ ts : List SRow, rowsQ f none ts = none
  | [] => rfl
  | t :: ts => by
    unfold rowsQ
    rw [List.foldl_cons, stepQ_none]
    exact rowsQ_none f ts
def rosterQ (f : Floor) (ts : List SRow) : Bool := match rowsQ f (some (List.replicate f.slips.length 0)) ts with | some l => (l.sum == (f.slips.length : Int)) | none => false
theorem rowsQ_succ {f : Floor} {o : Option (List Int)} {ts : List SRow} {k : Nat} {t : SRow} (h : ts[k]? = some t) : rowsQ f o (ts.take (k + 1)) = t.slips.foldl (stepQ f) (rowsQ f o (ts.take k)) := by
  obtain ⟨hk, rfl⟩ := List.getElem?_eq_some_iff.1 h
  unfold rowsQ
  rw [List.take_succ_eq_append_getElem hk, List.foldl_append]
  rfl
theorem rowsQ_rest {f : Floor} {o : Option (List Int)} {ts : List SRow} {k : Nat} (hk : rowsQ f o (ts.take k) = none) : rowsQ f o ts = none := by
  have e : rowsQ f o (ts.take k ++ ts.drop k) = rowsQ f (rowsQ f o (ts.take k)) (ts.drop k) := by unfold rowsQ; rw [List.foldl_append]
  rw [List.take_append_drop, hk, rowsQ_none] at e
  exact e
theorem stepQ_succ {f : Floor} {l : List Int} {j : Nat} {x : Int} (o : Option (List Int)) (h : l[j]? = some x) : (l.take (j + 1)).foldl (stepQ f) o = stepQ f ((l.take j).foldl (stepQ f) o) x := by
  obtain ⟨hj, rfl⟩ := List.getElem?_eq_some_iff.1 h
  rw [List.take_succ_eq_append_getElem hj, List.foldl_append]
  rfl
theorem stepQ_rest {f : Floor} {l : List Int} {j : Nat} {o : Option (List Int)} (hj : (l.take j).foldl (stepQ f) o = none) : l.foldl (stepQ f) o = none := by
  have e : (l.take j ++ l.drop j).foldl (stepQ f) o = (l.drop j).foldl (stepQ f) ((l.take j).foldl (stepQ f) o) := by rw [List.foldl_append]
  rw [List.take_append_drop, hj, stepQ_none] at e
  exact e
end Go.Proofs.YtomgnpfpaodpiaaDoor

/- Contract of the specification's isRoster. -/
namespace Go.Proofs.YtomgnpfpaodpiaaDoor
open Go Go.RowKit
set_option maxHeartbeats 4000000
theorem mkIntsB (n : Nat) (hn : n ≤ 4398046511104) (w : World) : (Instr.makeSlice 22 (.int .i64 n) (.int .i64 n)).run Tryd.prog w = .ok (.slice (some ⟨w.heap.size, 0, none⟩) n n) (w.alloc (.cells (List.replicate n (vi 0)).toArray 3)) := by
  obtain ⟨i0, hi, hy0, hy1, hy2⟩ := info_parts info_int
  have := run_make (P := Tryd.prog) w 22 3 i0 _ Tryd.underlying22 hi hy0 .i64 .i64 n n (by omega) (by omega) (by rw [hy2]; omega) (by omega)
  rw [this, hy1, Int.toNat_natCast, Nat.mul_one, madeCells_rep _ (vi 0)]
  · intro i hi
    have : i = 0 := by simp [Value.cells] at hi; omega
    subst this; rfl
  · simp [Value.cells]
theorem ints_of_box {W : World} {b : Nat} {l : List Int} (h : CellsBox W b 3 (l.map vi)) (hl : l.length ≤ 35184372088832) : IntsAt W W.heap.size (some ⟨b, 0, none⟩) l.length l :=
  ⟨by simp, by omega, by simpa using hl, fun _ => ⟨b, 0, rfl, h.lt, fun i r hr j u hj hu => by
    obtain rfl : j = 0 := by omega
    rw [List.getElem?_map] at hr
    cases hi : l[i]? with
    | none => rw [hi] at hr; cases hr
    | some x =>
      rw [hi] at hr
      simp only [Option.map_some, Option.some.injEq] at hr
      subst hr
      simp only [List.getElem?_cons_zero, Option.some.injEq] at hu
      subst hu
      simpa using ints_box_at h hi⟩⟩
set_option maxRecDepth 100000 in
theorem rIsRoster_any (f : Floor) (hf : f.slips.length ≤ 4398046511104) (A : Option Addr) (cap : Nat) (ts : List SRow) (w : World) (ht : RosterAt w w.heap.size A cap ts) :
    Calls Tryd.prog 67 #[f.val, .slice A ts.length cap] w fun e w' => e = .returned (.bool (rosterQ f ts)) ∧ Below w.heap.size w w' := by
  have htl := ht.rows.lens
  have HT := Lib.hid ht
  obtain ⟨an, han⟩ : ∃ an, an = rosterQ f ts := ⟨_, rfl⟩
  have BAD : Hid (∀ k, rowsQ f (some (List.replicate f.slips.length 0)) (ts.take k) = none → an = false) := fun k hk => by rw [han, rosterQ, rowsQ_rest hk]
  have HX : Hid (∀ (k : Nat) (t : SRow), ts[k]? = some t → rowsQ f (some (List.replicate f.slips.length 0)) (ts.take (k + 1)) = t.slips.foldl (stepQ f) (rowsQ f (some (List.replicate f.slips.length 0)) (ts.take k))) := fun k t hk => rowsQ_succ hk
  have FIN : Hid (∀ M : List Int, rowsQ f (some (List.replicate f.slips.length 0)) (ts.take ts.length) = some M → an = (M.sum == (f.slips.length : Int))) := fun M hM => by
    rw [List.take_length] at hM
    rw [han, rosterQ, hM]
  have SB := Lib.hid (fun (n : Int) (b : Bool) (hb : slipB f n = b) (W : World) => isSlip_is hb W (by omega : f.slips.length ≤ 35184372088832))
  have ST : Hid (∀ (M : List Int) (n : Int), stepQ f (some M) n = if slipB f n && decide (M[n.toNat]?.getD 0 ≤ 0) then some (M.set n.toNat (M[n.toNat]?.getD 0 + 1)) else none) := fun m n => rfl
  have SR : Hid (∀ n : Int, slipB f n = true → ∃ s : Nat, n = s ∧ s < f.slips.length) := fun n hn => by
    unfold slipB at hn
    simp only [Bool.and_eq_true, decide_eq_true_eq] at hn
    exact ⟨n.toNat, by omega, by omega⟩
  have H0 : Hid (rowsQ f (some (List.replicate f.slips.length 0)) (ts.take 0) = some (List.replicate f.slips.length 0)) := rfl
  rw [← han]
  clear han ht
  obtain ⟨st, hst⟩ : ∃ st, st = stepQ f := ⟨_, rfl⟩
  obtain ⟨sb, hsb⟩ : ∃ sb, sb = slipB f := ⟨_, rfl⟩
  obtain ⟨G, hG⟩ : ∃ G, G = fun k => rowsQ f (some (List.replicate f.slips.length 0)) (ts.take k) := ⟨_, rfl⟩
  have eG : ∀ k, rowsQ f (some (List.replicate f.slips.length 0)) (ts.take k) = G k := fun k => by rw [hG]
  have SUC : Hid (∀ (l : List Int) (j : Nat) (x : Int) (o : Option (List Int)), l[j]? = some x → (l.take (j + 1)).foldl st o = st ((l.take j).foldl st o) x) := fun l j x o h => by rw [hst]; exact stepQ_succ o h
  have RES : Hid (∀ (l : List Int) (j : Nat) (o : Option (List Int)), (l.take j).foldl st o = none → l.foldl st o = none) := fun l j o h => by rw [hst] at h ⊢; exact stepQ_rest h
  simp only [eG] at BAD HX FIN H0
  rw [← hst] at HX ST
  rw [← hsb] at SB ST SR
  clear hst hsb hG eG
  obtain ⟨fA, fC, ff, slo, shi, pA, pC, fp, fc, sA, sC, fs⟩ := f
  simp only at hf FIN SR H0 SB
  show Calls Tryd.prog 67 #[.agg #[.slice fA ff.length fC, vi slo, vi shi, .slice pA fp.length pC, vi fc, .slice sA fs.length sC], .slice A ts.length cap] w _
  have hb0 := below1 w (.cells #[.slice fA ff.length fC, vi slo, vi shi, .slice pA fp.length pC, vi fc, .slice sA fs.length sC] 28)
  have X0 := CellsBox.new w 28 [.slice fA ff.length fC, vi slo, vi shi, .slice pA fp.length pC, vi fc, .slice sA fs.length sC]
  have mkI := mkIntsB fs.length hf
  go_enter Tryd.func67, Tryd.ntmps67
  go_wp2_with fail
  obtain ⟨wl, hW⟩ : ∃ W, W = w.alloc (.cells #[.slice fA ff.length fC, vi slo, vi shi, .slice pA fp.length pC, vi fc, .slice sA fs.length sC] 28) := ⟨_, rfl⟩
  have hsw : w.heap.size + 1 = wl.heap.size := by rw [hW]; simp
  rw [← hW] at hb0 ⊢
  have HX1 : Hid (CellsBox wl w.heap.size 28 [.slice fA ff.length fC, vi slo, vi shi, .slice pA fp.length pC, vi fc, .slice sA fs.length sC]) := by unfold Hid; rw [hW]; exact X0
  have za := HX1.out.lt
  rw [hsw]
  clear hW X0 hsw
  obtain ⟨V, hV⟩ : ∃ V, V = wl.alloc (.cells (Array.replicate fs.length (vi 0)) 3) := ⟨_, rfl⟩
  have hbV : Below wl.heap.size wl V := by rw [hV]; exact below1 _ _
  have XL : Hid (CellsBox V wl.heap.size 3 ((List.replicate fs.length 0).map vi)) := by
    unfold Hid
    rw [hV, List.map_replicate]
    have := CellsBox.new wl 3 (List.replicate fs.length (vi 0))
    simpa using this
  have HBV : Below w.heap.size w V := hb0.trans (hbV.mono hb0.size)
  have HXV := Lib.hid (HX1.out.keep hbV)
  have HWL : Hid (w.heap.size < wl.heap.size) := za
  have HM0 : Hid ((List.replicate fs.length (0 : Int)).length = fs.length ∧ ∀ x ∈ List.replicate fs.length (0 : Int), 0 ≤ x ∧ x ≤ 1) := ⟨List.length_replicate, fun x hx => by rw [List.mem_replicate] at hx; omega⟩
  obtain ⟨M0, hM0⟩ : ∃ M0 : List Int, M0 = List.replicate fs.length 0 := ⟨_, rfl⟩
  rw [← hM0] at XL HM0 H0
  rw [← hV]
  clear hV hbV za mkI hM0 hb0
  go_loopw [6] (fun i wr => ∃ (k : Nat) (M : List Int), k ≤ ts.length ∧ i = .int .i64 k ∧ Below w.heap.size w wr ∧ V.heap.size ≤ wr.heap.size ∧ Hid (CellsBox wr w.heap.size 28 [.slice fA ff.length fC, vi slo, vi shi, .slice pA fp.length pC, vi fc, .slice sA fs.length sC] ∧ CellsBox wr wl.heap.size 3 (M.map vi)) ∧ Hid (M.length = fs.length ∧ ∀ x ∈ M, 0 ≤ x ∧ x ≤ 1) ∧ Hid (G k = some M)) (fun i _ => ts.length - (intOf i).toNat)
  case atStart => exact ⟨0, M0, Nat.zero_le _, rfl, HBV, Nat.le_refl _, ⟨HXV.out, XL.out⟩, HM0, H0⟩
  obtain ⟨k, M, hk, rfl, hB, hsz, HXR, HM, HG⟩ := hrel
  by_cases hlt : k < ts.length
  · obtain ⟨t, ht⟩ : ∃ t, ts[k]? = some t := ⟨_, List.getElem?_eq_getElem hlt⟩
    have HTL := Lib.hid (HT.out.each t (List.mem_of_getElem? ht))
    obtain ⟨tb, tf, rfl, htb, t0⟩ := row1 HT.out.rows.row ht rfl
    have HXk := Lib.hid (HX.out k t ht)
    have hln := HTL.out.lens
    have hkI : (k : Int) < ts.length := by omega
    have h0k : (0 : Int) ≤ k := by omega
    clear ht
    obtain ⟨tA, tC, tl⟩ := t
    simp only at HTL HXk hln
    replace t0 : w.cell? ⟨tb, tf + k, none⟩ = some (.slice tA tl.length tC) := t0
    have HT0 := Lib.hid t0
    clear t0
    go_wp2_with fail
    obtain ⟨wo, rfl⟩ : ∃ wo : World, wo = wr := ⟨_, rfl⟩
    go_loopw [7] (fun i wr => ∃ (j : Nat) (L : List Int), j ≤ tl.length ∧ i = .int .i64 j ∧ Below w.heap.size w wr ∧ wo.heap.size ≤ wr.heap.size ∧ Hid (CellsBox wr w.heap.size 28 [.slice fA ff.length fC, vi slo, vi shi, .slice pA fp.length pC, vi fc, .slice sA fs.length sC] ∧ CellsBox wr wl.heap.size 3 (L.map vi)) ∧ Hid (L.length = fs.length ∧ ∀ x ∈ L, 0 ≤ x ∧ x ≤ 1) ∧ Hid ((tl.take j).foldl st (some M) = some L)) (fun i _ => tl.length - (intOf i).toNat)
    case atStart => exact ⟨0, M, Nat.zero_le _, rfl, hB, Nat.le_refl _, HXR, HM, rfl⟩
    obtain ⟨j, L, hj, rfl, hB2, hsz2, HXL, HL, HJ⟩ := hrel
    have t0 : wr.cell? ⟨tb, tf + k, none⟩ = some (.slice tA tl.length tC) := (hB2.cell htb).trans HT0.out
    have ztb : tb < wr.heap.size := cell_lt t0
    by_cases hjl : j < tl.length
    · obtain ⟨x, hx⟩ : ∃ x, tl[j]? = some x := ⟨_, List.getElem?_eq_getElem hjl⟩
      obtain ⟨bc, oc, rfl, hbc, y0⟩ := ints_at (HTL.out.to hB2) hx
      have SX := SUC.out tl j x (some M) hx
      rw [HJ.out, ST.out L x] at SX
      have SXX := Lib.hid SX
      have hjI : (j : Int) < tl.length := by omega
      have h0j : (0 : Int) ≤ j := by omega
      have zbc : bc < wr.heap.size := cell_lt y0
      have a0 := HXL.out.1.cell (j := 0) rfl
      have a1 := HXL.out.1.cell (j := 1) rfl
      have a2 := HXL.out.1.cell (j := 2) rfl
      have a3 := HXL.out.1.cell (j := 3) rfl
      have a4 := HXL.out.1.cell (j := 4) rfl
      have a5 := HXL.out.1.cell (j := 5) rfl
      have za := HXL.out.1.lt
      have NONE : Hid ((tl.take (j + 1)).foldl st (some M) = none → an = false) := fun h => BAD.out (k + 1) (by rw [HXk.out, HG.out]; exact RES.out tl (j + 1) (some M) h)
      clear hx SX
      rcases hs : sb x with _ | _
      · have E : Hid (an = false) := NONE.out (by rw [SXX.out, hs]; rfl)
        have SB1 := Lib.hid (SB.out x false hs)
        clear hs
        go_wp2_with fail
        refine (SB1.out _).mono ?_
        rintro e W3 ⟨rfl, hb3⟩
        go_wp2_with fail
        go_ret
        exact ⟨retB E.out.symm, gr_trans_w hB2 hb3⟩
      · have SB1 := Lib.hid (SB.out x true hs)
        obtain ⟨s, rfl, s9⟩ := SR.out x hs
        have HSX := Lib.hid hs
        obtain ⟨y, hy⟩ : ∃ y, L[s]? = some y := ⟨_, List.getElem?_eq_getElem (by rw [HL.out.1]; exact s9)⟩
        have hyr := HL.out.2 y (List.mem_of_getElem? hy)
        have hyc := ints_box_at HXL.out.2 hy
        have hyf := HXL.out.2.frozen s
        have zL := HXL.out.2.lt
        have hsI : (s : Int) < fs.length := by omega
        have hs0 : (0 : Int) ≤ s := by omega
        rw [Int.toNat_natCast, hy, Option.getD_some] at SXX
        clear hs hy
        have hyy : y = 0 ∨ y = 1 := by omega
        rcases hyy with rfl | rfl
        · have NEXT : Hid ((tl.take (j + 1)).foldl st (some M) = some (L.set s 1)) := by unfold Hid; rw [SXX.out, HSX.out]; simp
          go_wp2_with fail
          refine (SB1.out _).mono ?_
          rintro e W3 ⟨rfl, hb3⟩
          have hyc3 := cell_keep hb3 hyc
          have HX3 := Lib.hid (And.intro (HXL.out.1.keep hb3) (HXL.out.2.keep hb3))
          have hyf3 := HX3.out.2.frozen s
          have z3 := HX3.out.2.lt
          clear hyc hyf a0 a1 a2 a3 a4 a5
          have hB3 := gr_trans_w hB2 hb3
          have hz3 := hb3.size
          have HLS : Hid ((L.set s 1).length = fs.length ∧ ∀ x ∈ L.set s 1, 0 ≤ x ∧ x ≤ 1) := ⟨by rw [List.length_set]; exact HL.out.1, fun x hx => by
            rcases List.mem_or_eq_of_mem_set hx with hx | rfl
            · exact HL.out.2 x hx
            · omega⟩
          have zwl : w.heap.size < wl.heap.size := HWL.out
          clear hb3
          go_wp2_with fail
          go_roundw
          case rel =>
            refine ⟨j + 1, L.set s 1, by omega, by go_num, by (repeat (first | exact Below.refl _ _ | refine Below.setCell ?_ (by first | omega | (simp; omega) | (simp; done)) _ | refine Below.alloc ?_ (by first | omega | (simp; omega) | (simp; done)) _ | refine Below.drew ?_ | refine below_drewN ?_ _ | refine Below.trans ?_ (Below.mono (by assumption) (by first | omega | (simp; omega) | (simp; done))))), by simp; omega, ⟨HX3.out.1.apart ⟨wl.heap.size, s, none⟩ (vi 1) (by simp only; omega), ?_⟩, HLS.out, NEXT.out⟩
            rw [List.map_set]
            exact HX3.out.2.store s (vi 1)
          case measure => simp [intOf]; omega
        · have E : Hid (an = false) := NONE.out (by rw [SXX.out, HSX.out]; simp)
          go_wp2_with fail
          refine (SB1.out _).mono ?_
          rintro e W3 ⟨rfl, hb3⟩
          have hyc3 := cell_keep hb3 hyc
          have z3 := cell_lt hyc3
          clear hyc hyf a0 a1 a2 a3 a4 a5
          go_wp2_with fail
          go_ret
          exact ⟨retB E.out.symm, gr_trans_w hB2 hb3⟩
    · obtain rfl : j = tl.length := by omega
      have EK : Hid (G (k + 1) = some L) := by
        unfold Hid
        have := HJ.out
        rw [List.take_length] at this
        rw [HXk.out, HG.out, this]
      go_wp2_with fail
      go_roundw
      case rel => exact ⟨k + 1, L, by omega, by go_num, hB2, by omega, HXL, HL, EK⟩
      case measure => simp [intOf]; omega
  · obtain rfl : k = ts.length := by omega
    have E := Lib.hid (FIN.out M HG.out)
    have a5 := HXR.out.1.cell (j := 5) rfl
    have za := HXR.out.1.lt
    have TI := Lib.hid (ints_of_box HXR.out.2 (by have := HM.out.1; omega))
    have TA := Lib.hid (fun (W : World) hW => total_any (some ⟨wl.heap.size, 0, none⟩) M.length M HM.out.2 W hW)
    rw [HM.out.1] at TI TA
    go_wp2_with fail
    (refine wp_region_grow_lit (by kernel_rfl) (by kernel_rfl) ?_; (repeat (go_big_quiet_step ((go_at_call 100; refine Calls.grow_of (TA.out _ (TI.out.to (plus_below _ _))))))); refine wpQuiet_nil ?_; intro w1 hw1; have hb1 := below_of_plus hw1; clear hw1; obtain ⟨⟨hc1, hf1, hs1⟩, hz1⟩ := after hb1; (try simp only [World.size_alloc, World.size_setCell, World.size_drew] at hz1))
    go_wp2_with fail
    go_ret
    exact ⟨retB E.out.symm, gr_trans_w hB hb1⟩
end Go.Proofs.YtomgnpfpaodpiaaDoor

/- The specification's roster is the program's. -/
namespace Go.Proofs.YtomgnpfpaodpiaaDoor
open Go Go.RowKit
set_option maxHeartbeats 2000000
def bitsL (n m : Nat) : List Int := (List.range n).map fun s => if m.testBit s then (1 : Int) else 0
theorem bitsL_at {n m s : Nat} (h : s < n) : (bitsL n m)[s]? = some (if m.testBit s then (1 : Int) else 0) := by
  unfold bitsL
  rw [List.getElem?_map, List.getElem?_range h]
  rfl
theorem bitsL_zero (n : Nat) : bitsL n 0 = List.replicate n 0 := by
  apply List.ext_getElem?
  intro i
  by_cases h : i < n
  · rw [bitsL_at h, List.getElem?_replicate, if_pos h]
    simp
  · rw [List.getElem?_eq_none (by simp [bitsL]; omega), List.getElem?_eq_none (by simp; omega)]
theorem bitsL_set {n m s : Nat} (h : s < n) : (bitsL n m).set s 1 = bitsL n (m ||| 2 ^ s) := by
  apply List.ext_getElem?
  intro i
  rw [List.getElem?_set]
  by_cases hi : i < n
  · rw [bitsL_at hi, bitsL_at hi, Nat.testBit_or, Nat.testBit_two_pow]
    by_cases hsi : s = i
    · subst hsi
      simp [bitsL, h]
    · simp [hsi]
  · rw [List.getElem?_eq_none (by simp [bitsL]; omega), List.getElem?_eq_none (by simp [bitsL]; omega), if_neg (by omega)]
theorem stepQ_bits (f : Floor) (m : Nat) (x : Int) : stepQ f (some (bitsL f.slips.length m)) x = (stepR f (some m) x).map (bitsL f.slips.length) := by
  unfold stepQ stepR
  cases hs : slipB f x with
  | false => simp
  | true =>
    have hs2 := hs
    unfold slipB at hs2
    simp only [Bool.and_eq_true, decide_eq_true_eq] at hs2
    have hlt : x.toNat < f.slips.length := by omega
    simp only [bitsL_at hlt, Option.getD_some]
    cases hb : m.testBit x.toNat with
    | true => simp
    | false =>
      simp
      exact bitsL_set hlt
theorem rowQ_bits (f : Floor) : ∀ (l : List Int) (o : Option Nat), l.foldl (stepQ f) (o.map (bitsL f.slips.length)) = (l.foldl (stepR f) o).map (bitsL f.slips.length)
  | [], _ => rfl
  | x :: l, o => by
    rw [List.foldl_cons, List.foldl_cons, ← rowQ_bits f l]
    congr 1
    cases o with
    | none => rfl
    | some m => exact stepQ_bits f m x
theorem rowsQ_bits (f : Floor) : ∀ (ts : List SRow) (o : Option Nat), rowsQ f (o.map (bitsL f.slips.length)) ts = (rowsR f o ts).map (bitsL f.slips.length)
  | [], _ => rfl
  | t :: ts, o => by
    unfold rowsQ rowsR
    rw [List.foldl_cons, List.foldl_cons, rowQ_bits]
    exact rowsQ_bits f ts _
theorem row_lt (f : Floor) : ∀ (l : List Int) (o : Option Nat), (∀ m, o = some m → m < 2 ^ f.slips.length) → ∀ m, l.foldl (stepR f) o = some m → m < 2 ^ f.slips.length
  | [], _, h, m, hm => h m hm
  | x :: l, o, h, m, hm => by
    refine row_lt f l (stepR f o x) (fun k hk => ?_) m hm
    cases o with
    | none => cases hk
    | some j =>
      unfold stepR at hk
      simp only at hk
      split at hk
      · rename_i hc
        simp only [Option.some.injEq] at hk
        subst hk
        rw [Bool.and_eq_true] at hc
        have hc1 := hc.1
        unfold slipB at hc1
        simp only [Bool.and_eq_true, decide_eq_true_eq] at hc1
        exact Nat.or_lt_two_pow (h j rfl) (Nat.pow_lt_pow_right (by omega) (by omega))
      · cases hk
theorem rows_lt (f : Floor) : ∀ (ts : List SRow) (o : Option Nat), (∀ m, o = some m → m < 2 ^ f.slips.length) → ∀ m, rowsR f o ts = some m → m < 2 ^ f.slips.length
  | [], _, h, m, hm => h m hm
  | t :: ts, o, h, m, hm => by
    unfold rowsR at hm
    rw [List.foldl_cons] at hm
    exact rows_lt f ts _ (row_lt f t.slips o h) m hm
theorem sum_ones : ∀ (l : List Int), (∀ x ∈ l, 0 ≤ x ∧ x ≤ 1) → (l.sum = l.length ↔ ∀ x ∈ l, x = 1)
  | [], _ => by simp
  | x :: l, h => by
    have h1 := h x (by simp)
    have h2 := sum_marks l (fun y hy => h y (by simp [hy]))
    have h3 := sum_ones l (fun y hy => h y (by simp [hy]))
    simp only [List.sum_cons, List.length_cons, List.mem_cons, forall_eq_or_imp]
    rw [← h3]
    omega
theorem bits_full {n m : Nat} (hm : m < 2 ^ n) : ((bitsL n m).sum == (n : Int)) = (m == 2 ^ n - 1) := by
  have hl : (bitsL n m).length = n := by simp [bitsL]
  have h01 : ∀ x ∈ bitsL n m, 0 ≤ x ∧ x ≤ 1 := fun x hx => by
    unfold bitsL at hx
    obtain ⟨s, _, rfl⟩ := List.mem_map.1 hx
    split <;> omega
  have hk := sum_ones _ h01
  rw [hl] at hk
  rw [Bool.eq_iff_iff, beq_iff_eq, beq_iff_eq, hk]
  constructor
  · intro h
    apply Nat.eq_of_testBit_eq
    intro i
    rw [Nat.testBit_two_pow_sub_one]
    by_cases hi : i < n
    · have := h _ (List.mem_of_getElem? (bitsL_at (m := m) hi))
      cases hb : m.testBit i with
      | true => simp [hi]
      | false => rw [hb] at this; simp at this
    · rw [Nat.testBit_lt_two_pow (Nat.lt_of_lt_of_le hm (Nat.pow_le_pow_right (by omega) (by omega)))]
      simp [hi]
  · intro h x hx
    unfold bitsL at hx
    obtain ⟨s, hs, rfl⟩ := List.mem_map.1 hx
    rw [h, Nat.testBit_two_pow_sub_one]
    simp [List.mem_range.1 hs]
theorem rosterQ_is (f : Floor) (ts : List SRow) : (hasB 1 5 ts.length && rosterQ f ts) = rosterB f ts := by
  unfold rosterB rosterQ
  congr 1
  have e := rowsQ_bits f ts (some 0)
  rw [Option.map_some, bitsL_zero] at e
  rw [e]
  cases h : rowsR f (some 0) ts with
  | none => rfl
  | some m =>
    have := rows_lt f ts (some 0) (fun m hm => by cases hm; exact Nat.two_pow_pos _) m h
    simp only [Option.map_some]
    rw [bits_full this]
    rfl
end Go.Proofs.YtomgnpfpaodpiaaDoor

/- Contract of the specification's byOne. -/
namespace Go.Proofs.YtomgnpfpaodpiaaDoor
open Go Go.RowKit
set_option maxHeartbeats 4000000
def tillQ (f : Floor) (i : Nat) : Int := ((f.slips[i]?).map SSlip.till).getD 0
theorem tillQ_at {f : Floor} {i : Nat} {s : SSlip} (h : f.slips[i]? = some s) : tillQ f i = s.till := by unfold tillQ; rw [h]; rfl
/-- of the first slips of a set the one that must be done soonest -/
def nextQ (f : Floor) (m : Nat) : Nat → Option Nat
  | 0 => none
  | i + 1 => if m.testBit i then (match nextQ f m i with | none => some i | some j => if tillQ f i < tillQ f j then some i else some j) else nextQ f m i
def byQ (f : Floor) : Nat → Nat → Int → Bool
  | 0, _, _ => true
  | k + 1, m, now => if m = 0 then true else match nextQ f m f.slips.length with | none => true | some s => if tillQ f s < now + (tkF f s).2 then false else byQ f k (m - 2 ^ s) (now + (tkF f s).2)
theorem nextQ_some {f : Floor} {m : Nat} : ∀ (i s : Nat), nextQ f m i = some s → s < i ∧ m.testBit s = true
  | 0, _, h => by cases h
  | i + 1, s, h => by
    rw [nextQ] at h
    split at h
    · rename_i hb
      split at h
      · simp only [Option.some.injEq] at h; subst h; exact ⟨by omega, hb⟩
      · rename_i j hj
        have := nextQ_some i j hj
        split at h
        · simp only [Option.some.injEq] at h; subst h; exact ⟨by omega, hb⟩
        · simp only [Option.some.injEq] at h; subst h; exact ⟨by omega, this.2⟩
    · have := nextQ_some i s h
      exact ⟨by omega, this.2⟩
theorem nextQ_none {f : Floor} {m : Nat} : ∀ i : Nat, nextQ f m i = none → ∀ j, j < i → m.testBit j = false
  | 0, _, j, hj => by omega
  | i + 1, h, j, hj => by
    rw [nextQ] at h
    split at h
    · split at h
      · cases h
      · split at h <;> cases h
    · rename_i hb
      by_cases e : j = i
      · subst e; simpa using hb
      · exact nextQ_none i h j (by omega)
theorem nextQ_full {f : Floor} {m n : Nat} (hm : m < 2 ^ n) (h0 : m ≠ 0) : ∃ s, nextQ f m n = some s ∧ s < n ∧ m.testBit s = true := by
  cases h : nextQ f m n with
  | some s => exact ⟨s, rfl, nextQ_some n s h⟩
  | none =>
    exfalso
    apply h0
    apply Nat.eq_of_testBit_eq
    intro i
    rw [Nat.zero_testBit]
    by_cases hi : i < n
    · exact nextQ_none n h i hi
    · exact Nat.testBit_lt_two_pow (Nat.lt_of_lt_of_le hm (Nat.pow_le_pow_right (by omega) (by omega)))
theorem sub_fact : ∀ s : Fin 9, ∀ m : Fin 512, m.val.testBit s.val = true → (2 ^ s.val ≤ m.val ∧ wrap64 ((m.val : Int) - wrap64 (2 ^ s.val)) = ((m.val - 2 ^ s.val : Nat) : Int)) := by decide +kernel
def nextV (o : Option Nat) : Int := match o with | none => -1 | some s => s
set_option maxRecDepth 100000 in
theorem byOne_any (f : Floor) (hv : validB f = true) (m0 : Nat) (hm0 : m0 < 2 ^ f.slips.length) (w : World) (h : FloorAt w w.heap.size f) :
    Calls Tryd.prog 116 #[f.val, vi m0] w fun e w' => e = .returned (.bool (byQ f m0 m0 0)) ∧ Below w.heap.size w w' := by
  have hn9 := (fine hv).slips9
  have HF := Lib.hid h
  have h3l := h.slips.lens
  have HTL : Hid (∀ (i : Nat) (s : SSlip), f.slips[i]? = some s → tillQ f i = s.till ∧ 0 ≤ s.till ∧ s.till ≤ 100000) := fun i s hs => by
    have := (valid_parts hv).2.2.2.2.2.2 i s hs
    exact ⟨tillQ_at hs, this.1⟩
  have HTK : Hid (∀ (n : Nat) (s : SSlip), f.slips[n]? = some s → ∀ p, tkF f n = p → ∀ W : World, FloorAt W W.heap.size f → Calls Tryd.prog 62 #[f.val, vi n] W fun e w' => e = .returned (.agg #[vi p.1, vi p.2]) ∧ Below W.heap.size W w') := fun n s hs p hp W hW => by
    have := rtakes_any f hv n s hs W hW
    rw [takes_same hv hs, show takesF f s = p from by rw [← hp]; unfold tkF; rw [Int.toNat_natCast, hs]] at this
    exact this
  have HTR := Lib.hid (fun (x : Int) => tk_range hv x)
  have HNF : Hid (∀ m : Nat, m < 2 ^ f.slips.length → m ≠ 0 → ∃ s, nextQ f m f.slips.length = some s ∧ s < f.slips.length ∧ m.testBit s = true) := fun m hm h0 => nextQ_full hm h0
  have HNS : Hid (∀ (m i : Nat), nextQ f m (i + 1) = if m.testBit i then (match nextQ f m i with | none => some i | some j => if tillQ f i < tillQ f j then some i else some j) else nextQ f m i) := fun m i => rfl
  have HN0 : Hid (∀ m : Nat, nextQ f m 0 = none) := fun m => rfl
  have HNB : Hid (∀ (m i s : Nat), nextQ f m i = some s → s < i ∧ m.testBit s = true) := fun m i s h => nextQ_some i s h
  have HBY : Hid (∀ (k m : Nat) (now : Int), byQ f (k + 1) m now = if m = 0 then true else match nextQ f m f.slips.length with | none => true | some s => if tillQ f s < now + (tkF f s).2 then false else byQ f k (m - 2 ^ s) (now + (tkF f s).2)) := fun k m now => rfl
  have HBZ : Hid (∀ (k : Nat) (now : Int), byQ f k 0 now = true) := fun k now => by cases k <;> simp [byQ]
  have H512 : Hid (∀ m : Nat, m < 2 ^ f.slips.length → m < 512) := fun m hm => by
    have : 2 ^ f.slips.length ≤ 2 ^ 9 := Nat.pow_le_pow_right (by omega) hn9
    omega
  obtain ⟨BY, hBY⟩ : ∃ BY, BY = byQ f := ⟨_, rfl⟩
  obtain ⟨NX, hNX⟩ : ∃ NX, NX = nextQ f := ⟨_, rfl⟩
  obtain ⟨TQ, hTQ⟩ : ∃ TQ, TQ = tillQ f := ⟨_, rfl⟩
  obtain ⟨TK, hTK⟩ : ∃ TK, TK = tkF f := ⟨_, rfl⟩
  rw [← hBY, ← hNX, ← hTQ, ← hTK] at HBY
  rw [← hBY] at HBZ ⊢
  rw [← hNX] at HNF HNS HN0 HNB
  rw [← hTQ] at HNS HTL
  rw [← hTK] at HTK HTR
  clear hBY hNX hTQ hTK h hv
  obtain ⟨an, han⟩ : ∃ an, an = BY m0 m0 0 := ⟨_, rfl⟩
  rw [← han]
  have HAN := Lib.hid han
  clear han
  obtain ⟨fA, fC, ff, slo, shi, pA, pC, fp, fc, sA, sC, fs⟩ := f
  simp only at hm0 hn9 h3l HTL HTK HNF HBY H512
  show Calls Tryd.prog 116 #[.agg #[.slice fA ff.length fC, vi slo, vi shi, .slice pA fp.length pC, vi fc, .slice sA fs.length sC], vi m0] w _
  have hb0 := below1 w (.cells #[.slice fA ff.length fC, vi slo, vi shi, .slice pA fp.length pC, vi fc, .slice sA fs.length sC] 28)
  have X0 := CellsBox.new w 28 [.slice fA ff.length fC, vi slo, vi shi, .slice pA fp.length pC, vi fc, .slice sA fs.length sC]
  go_enter Tryd.func116, Tryd.ntmps116
  go_wp2_with fail
  obtain ⟨wl, hW⟩ : ∃ W, W = w.alloc (.cells #[.slice fA ff.length fC, vi slo, vi shi, .slice pA fp.length pC, vi fc, .slice sA fs.length sC] 28) := ⟨_, rfl⟩
  rw [← hW] at hb0 ⊢
  have HX1 : Hid (CellsBox wl w.heap.size 28 [.slice fA ff.length fC, vi slo, vi shi, .slice pA fp.length pC, vi fc, .slice sA fs.length sC]) := by unfold Hid; rw [hW]; exact X0
  clear hW X0
  go_loopw [1, 5, 6, 7] (fun sv nv x6 x7 wr => ∃ (m k : Nat) (now : Int), sv = vi m ∧ nv = vi now ∧ m < 2 ^ fs.length ∧ m ≤ k ∧ 0 ≤ now ∧ now ≤ 100000 ∧ Below wl.heap.size wl wr ∧ Hid (BY k m now = an)) (fun sv _ _ _ _ => (intOf sv).toNat)
  case atStart => exact ⟨m0, m0, 0, rfl, rfl, hm0, Nat.le_refl _, by omega, by omega, Below.refl _ _, HAN.out.symm⟩
  obtain ⟨m, k, now, rfl, rfl, hm, hmk, hn0, hn1, hB, HK⟩ := hrel
  have HBr : Below w.heap.size w wr := hb0.trans (hB.mono hb0.size)
  have HXr := Lib.hid (HX1.out.keep hB)
  have hm512 := H512.out m hm
  by_cases hz : m = 0
  · have E : Hid (an = true) := by
      unfold Hid
      rw [← HK.out, hz]
      exact HBZ.out k now
    have hz0 : decide ((0 : Int) < m) = false := by simp [hz]
    have hz1 : decide (0 < m) = false := by simp [hz]
    clear hz HK
    go_wp2_with fail
    go_ret
    exact ⟨retB E.out.symm, HBr⟩
  · have hz0 : decide ((0 : Int) < m) = true := by simp; omega
    have hz1 : decide (0 < m) = true := by simp; omega
    obtain ⟨k', rfl⟩ : ∃ k', k = k' + 1 := ⟨k - 1, by omega⟩
    have HKE := Lib.hid (HBY.out k' m now)
    have HKN := Lib.hid (HNF.out m hm hz)
    rw [if_neg hz, HK.out] at HKE
    clear HK
    go_wp2_with fail
    obtain ⟨wo, rfl⟩ : ∃ wo : World, wo = wr := ⟨_, rfl⟩
    have HBo := Lib.hid HBr
    have hBo := Lib.hid hB
    clear hB HBr
    go_loopw [6, 7] (fun v i wr => ∃ (j : Nat) (o : Option Nat), j ≤ fs.length ∧ i = .int .i64 j ∧ v = vi (nextV o) ∧ NX m j = o ∧ Below wo.heap.size wo wr) (fun _ i _ => fs.length - (intOf i).toNat)
    case atStart => exact ⟨0, none, Nat.zero_le _, rfl, rfl, HN0.out m, Below.refl _ _⟩
    obtain ⟨j, o, hj, rfl, rfl, ho, hB2⟩ := hrel
    have HO := Lib.hid ho
    have HB2 : Below w.heap.size w wr := gr_trans_w HBo.out hB2
    have HXj := Lib.hid (HXr.out.keep hB2)
    clear ho
    have a0 := HXj.out.cell (j := 0) rfl
    have a1 := HXj.out.cell (j := 1) rfl
    have a2 := HXj.out.cell (j := 2) rfl
    have a3 := HXj.out.cell (j := 3) rfl
    have a4 := HXj.out.cell (j := 4) rfl
    have a5 := HXj.out.cell (j := 5) rfl
    have za := HXj.out.lt
    by_cases hjl : j < fs.length
    · have hjI : (j : Int) < fs.length := by omega
      have h0j : (0 : Int) ≤ j := by omega
      have HNJ := Lib.hid (HNS.out m j)
      rw [HO.out] at HNJ
      rcases hbt : m.testBit j with _ | _
      · have HI := Lib.hid (in_is hbt hm512 (by omega))
        have NEXT : Hid (NX m (j + 1) = o) := by unfold Hid; rw [HNJ.out, hbt]; rfl
        clear hbt
        go_wp2_with fail
        (refine wp_region_grow_lit (by kernel_rfl) (by kernel_rfl) ?_; (repeat (go_big_quiet_step ((go_at_call 84; refine Calls.grow_same (HI.out _))))); refine wpQuiet_nil ?_; intro w1 hw1; have hb1 := below_of_plus hw1; clear hw1; obtain ⟨⟨hc1, hf1, hs1⟩, hz1⟩ := after hb1; (try simp only [World.size_alloc, World.size_setCell, World.size_drew] at hz1))
        go_wp2_with fail
        go_roundw
        case rel => exact ⟨j + 1, o, by omega, by go_num, rfl, NEXT.out, gr_trans hB2 (by (repeat (first | exact Below.refl _ _ | refine Below.setCell ?_ (by first | omega | (simp; omega) | (simp; done)) _ | refine Below.alloc ?_ (by first | omega | (simp; omega) | (simp; done)) _ | refine Below.drew ?_ | refine below_drewN ?_ _ | refine Below.trans ?_ (Below.mono (by assumption) (by first | omega | (simp; omega) | (simp; done))))))⟩
        case measure => simp [intOf]; omega
      · have HI := Lib.hid (in_is hbt hm512 (by omega))
        rw [hbt] at HNJ
        clear hbt
        obtain ⟨x, hx⟩ : ∃ x, fs[j]? = some x := ⟨_, List.getElem?_eq_getElem hjl⟩
        obtain ⟨bb, off, rfl, hbb, x0, x1⟩ := row2 (HF.out.slips.to HB2).row hx rfl
        obtain ⟨tx, _, _⟩ := HTL.out j x hx
        obtain ⟨xa, xc, xl, xt⟩ := x
        simp only at x0 x1 tx
        have TX := Lib.hid tx
        have zbb : bb < wr.heap.size := hbb
        clear hx tx
        rcases o with _ | i
        · have NEXT : Hid (NX m (j + 1) = some j) := HNJ.out
          simp only [nextV]
          go_wp2_with fail
          (refine wp_region_grow_lit (by kernel_rfl) (by kernel_rfl) ?_; (repeat (go_big_quiet_step ((go_at_call 84; refine Calls.grow_same (HI.out _))))); refine wpQuiet_nil ?_; intro w1 hw1; have hb1 := below_of_plus hw1; clear hw1; obtain ⟨⟨hc1, hf1, hs1⟩, hz1⟩ := after hb1; (try simp only [World.size_alloc, World.size_setCell, World.size_drew] at hz1))
          go_wp2_with fail
          go_roundw
          case rel => exact ⟨j + 1, some j, by omega, by go_num, rfl, NEXT.out, gr_trans hB2 (by (repeat (first | exact Below.refl _ _ | refine Below.setCell ?_ (by first | omega | (simp; omega) | (simp; done)) _ | refine Below.alloc ?_ (by first | omega | (simp; omega) | (simp; done)) _ | refine Below.drew ?_ | refine below_drewN ?_ _ | refine Below.trans ?_ (Below.mono (by assumption) (by first | omega | (simp; omega) | (simp; done))))))⟩
          case measure => simp [intOf]; omega
        · obtain ⟨hi1, hi2⟩ := HNB.out m j i HO.out
          obtain ⟨y, hy⟩ : ∃ y, fs[i]? = some y := ⟨_, List.getElem?_eq_getElem (by omega)⟩
          obtain ⟨b', off', e', hbb', y0, y1⟩ := row2 (HF.out.slips.to HB2).row hy rfl
          simp only [Option.some.injEq, Addr.mk.injEq, and_true] at e'
          obtain ⟨rfl, rfl⟩ := e'
          obtain ⟨ty, _, _⟩ := HTL.out i y hy
          obtain ⟨ya, yc, yl, yt⟩ := y
          simp only at y0 y1 ty
          have TY := Lib.hid ty
          have hiI : (i : Int) < fs.length := by omega
          have h0i : (0 : Int) ≤ i := by omega
          have hneg : decide ((i : Int) < 0) = false := by simp
          clear hy ty hi2
          have HNJ2 : Hid (NX m (j + 1) = if xt < yt then some j else some i) := by unfold Hid; rw [HNJ.out, ← TX.out, ← TY.out]; rfl
          simp only [nextV]
          rcases hd : decide (xt < yt) with _ | _
          · have NEXT : Hid (NX m (j + 1) = some i) := by unfold Hid; rw [HNJ2.out, if_neg (by simpa using hd)]
            go_wp2_with fail
            (refine wp_region_grow_lit (by kernel_rfl) (by kernel_rfl) ?_; (repeat (go_big_quiet_step ((go_at_call 84; refine Calls.grow_same (HI.out _))))); refine wpQuiet_nil ?_; intro w1 hw1; have hb1 := below_of_plus hw1; clear hw1; obtain ⟨⟨hc1, hf1, hs1⟩, hz1⟩ := after hb1; (try simp only [World.size_alloc, World.size_setCell, World.size_drew] at hz1))
            go_wp2_with fail
            go_roundw
            case rel => exact ⟨j + 1, some i, by omega, by go_num, rfl, NEXT.out, gr_trans hB2 (by (repeat (first | exact Below.refl _ _ | refine Below.setCell ?_ (by first | omega | (simp; omega) | (simp; done)) _ | refine Below.alloc ?_ (by first | omega | (simp; omega) | (simp; done)) _ | refine Below.drew ?_ | refine below_drewN ?_ _ | refine Below.trans ?_ (Below.mono (by assumption) (by first | omega | (simp; omega) | (simp; done))))))⟩
            case measure => simp [intOf]; omega
          · have NEXT : Hid (NX m (j + 1) = some j) := by unfold Hid; rw [HNJ2.out, if_pos (by simpa using hd)]
            go_wp2_with fail
            (refine wp_region_grow_lit (by kernel_rfl) (by kernel_rfl) ?_; (repeat (go_big_quiet_step ((go_at_call 84; refine Calls.grow_same (HI.out _))))); refine wpQuiet_nil ?_; intro w1 hw1; have hb1 := below_of_plus hw1; clear hw1; obtain ⟨⟨hc1, hf1, hs1⟩, hz1⟩ := after hb1; (try simp only [World.size_alloc, World.size_setCell, World.size_drew] at hz1))
            go_wp2_with fail
            go_roundw
            case rel => exact ⟨j + 1, some j, by omega, by go_num, rfl, NEXT.out, gr_trans hB2 (by (repeat (first | exact Below.refl _ _ | refine Below.setCell ?_ (by first | omega | (simp; omega) | (simp; done)) _ | refine Below.alloc ?_ (by first | omega | (simp; omega) | (simp; done)) _ | refine Below.drew ?_ | refine below_drewN ?_ _ | refine Below.trans ?_ (Below.mono (by assumption) (by first | omega | (simp; omega) | (simp; done))))))⟩
            case measure => simp [intOf]; omega
    · obtain rfl : j = fs.length := by omega
      obtain ⟨s, hs1, hs2, hs3⟩ := HKN.out
      have ho := HO.out
      rw [hs1] at ho
      subst ho
      have HKF := HKE.out
      rw [hs1] at HKF
      obtain ⟨x, hx⟩ : ∃ x, fs[s]? = some x := ⟨_, List.getElem?_eq_getElem hs2⟩
      obtain ⟨p, hp⟩ : ∃ p, TK s = p := ⟨_, rfl⟩
      have HT1 := Lib.hid (HTK.out s x hx p hp)
      have hpr := (HTR.out s).2
      rw [hp] at hpr
      have hff : TQ s = x.till := (HTL.out s x hx).1
      have htill := (HTL.out s x hx).2
      simp only [hp, hff] at HKF
      have HKG := Lib.hid HKF
      obtain ⟨bb, off, rfl, hbb, x0, x1⟩ := row2 HF.out.slips.row hx rfl
      have hxc := Lib.hid x1
      obtain ⟨q, T⟩ := p
      simp only at hpr HKG HT1
      have hwt : IntKind.wrap .i64 (now + T) = now + T := wrapI (by omega) (by omega)
      have hfd : ∀ W : World, (Instr.field 24 (.agg #[vi q, vi T]) 1).run Tryd.prog W = .ok (vi T) W := fun W => by (show (_ : Result _) = _); kernel_rfl
      have hsI : (s : Int) < fs.length := by omega
      have h0s : (0 : Int) ≤ s := by omega
      obtain ⟨hsb1, hsb2⟩ := sub_fact ⟨s, by omega⟩ ⟨m, hm512⟩ hs3
      simp only at hsb1 hsb2
      have HSB := Lib.hid hsb2
      clear HKF hx hp hff x0 x1 hs1 hsb2 HKN HKE HO
      simp only [nextV]
      go_wp2_with fail
      refine (HT1.out _ (HF.out.to HB2)).mono ?_
      rintro e W3 ⟨rfl, hb3⟩
      have hB3 : Below w.heap.size w W3 := gr_trans_w HB2 hb3
      have hX3 := Lib.hid (HXj.out.keep hb3)
      have c5 := hX3.out.cell (j := 5) rfl
      have zc := hX3.out.lt
      have y1 : W3.cell? ⟨bb, off + s * 2 + 1, none⟩ = some (vi x.till) := (hB3.cell hbb).trans hxc.out
      have zbb : bb < W3.heap.size := cell_lt y1
      clear a0 a1 a2 a3 a4 a5
      rcases hd : decide (x.till < now + T) with _ | _
      · have hge : ¬ x.till < now + T := by simpa using hd
        have NEXT : Hid (BY k' (m - 2 ^ s) (now + T) = an) := by
          have := HKG.out
          rw [if_neg hge] at this
          exact this.symm
        go_wp2_with fail
        go_roundw
        case rel => exact ⟨m - 2 ^ s, k', now + T, congrArg vi HSB.out, rfl, Nat.lt_of_le_of_lt (Nat.sub_le _ _) hm, by have := Nat.two_pow_pos s; omega, by omega, by omega, gr_trans (gr_trans hBo.out hB2) hb3, NEXT.out⟩
        case measure =>
          have hpos := Nat.two_pow_pos s
          have key : (((m - 2 ^ s : Nat) : Int)).toNat < ((m : Nat) : Int).toNat := by rw [Int.toNat_natCast, Int.toNat_natCast]; omega
          rw [HSB.out]
          exact key
      · have hlt : x.till < now + T := by simpa using hd
        have E : Hid (an = false) := by
          have := HKG.out
          rw [if_pos hlt] at this
          exact this
        go_wp2_with fail
        go_ret
        exact ⟨retB E.out.symm, hB3⟩
end Go.Proofs.YtomgnpfpaodpiaaDoor

/- What one picker can do in time: the specification's byOne is the order of the desk. -/
namespace Go.Proofs.YtomgnpfpaodpiaaDoor
open Go Go.RowKit
set_option maxHeartbeats 2000000
theorem next_min {f : Floor} {m : Nat} : ∀ (i s : Nat), nextQ f m i = some s → ∀ t, t < i → m.testBit t = true → tillQ f s < tillQ f t ∨ (tillQ f s = tillQ f t ∧ s ≤ t)
  | 0, _, h, _, _, _ => by cases h
  | i + 1, s, h, t, ht, hb => by
    rw [nextQ] at h
    split at h
    · rename_i hi
      split at h
      · rename_i hn
        simp only [Option.some.injEq] at h
        subst h
        by_cases e : t = i
        · subst e; exact .inr ⟨rfl, Nat.le_refl _⟩
        · have := nextQ_none i hn t (by omega)
          rw [hb] at this; cases this
      · rename_i j hj
        have hji := (nextQ_some i j hj).1
        have ih := next_min i j hj
        split at h
        · simp only [Option.some.injEq] at h
          subst h
          by_cases e : t = i
          · subst e; exact .inr ⟨rfl, Nat.le_refl _⟩
          · have := ih t (by omega) hb
            left; omega
        · simp only [Option.some.injEq] at h
          subst h
          by_cases e : t = i
          · subst e; omega
          · exact ih t (by omega) hb
    · rename_i hi
      by_cases e : t = i
      · subst e; exact absurd hb hi
      · exact next_min i s h t (by omega) hb
theorem till_due (f : Floor) (i : Nat) : tillQ f i = dueF f i := by
  unfold tillQ dueF keyF
  rw [Int.toNat_natCast]
  cases f.slips[i]? <;> rfl
theorem sec_tk (f : Floor) (s : Nat) : (tkF f s).2 = secF f s := by
  unfold tkF secF secsL
  rw [Int.toNat_natCast, List.getElem?_map]
  cases f.slips[s]? <;> rfl
theorem two_bit (s i : Nat) : (2 ^ s).testBit i = decide (s = i) := Nat.testBit_two_pow
theorem part_two {m s : Nat} (h : m.testBit s = true) : PM.Part (2 ^ s) m := fun i hi => by
  rw [two_bit, decide_eq_true_eq] at hi
  subst hi; exact h
theorem pick_next {f : Floor} (h9 : f.slips.length ≤ 9) {m s : Nat} (hs : s < f.slips.length) (hb : m.testBit s = true) (hmin : ∀ t, t < f.slips.length → m.testBit t = true → before f s t = true) : PM.pick m (ordN f) = s :: PM.pick (m - 2 ^ s) (ordN f) := by
  have hd := desk_is h9
  rw [← PM.less_sub (part_two hb)]
  refine PM.sorted_unique (before f) (ord_is f).anti ?_ (hd.sorted.sublist List.filter_sublist) ?_
  · refine (List.perm_ext_iff_of_nodup (hd.nodup.sublist List.filter_sublist) ?_).2 fun t => ?_
    · rw [List.nodup_cons]
      refine ⟨fun hm => ?_, hd.nodup.sublist List.filter_sublist⟩
      have := (List.mem_filter.1 hm).2
      rw [PM.less_bit, two_bit] at this
      simp at this
    · simp only [PM.pick, List.mem_filter, List.mem_cons, PM.less_bit, two_bit, Bool.and_eq_true, Bool.not_eq_true', decide_eq_false_iff_not]
      constructor
      · rintro ⟨h1, h2⟩
        by_cases e : t = s
        · exact .inl e
        · exact .inr ⟨h1, h2, fun e2 => e e2.symm⟩
      · rintro (rfl | ⟨h1, h2, _⟩)
        · exact ⟨(hd.mem _).2 hs, hb⟩
        · exact ⟨h1, h2⟩
  · rw [List.pairwise_cons]
    refine ⟨fun t ht => ?_, hd.sorted.sublist List.filter_sublist⟩
    obtain ⟨h1, h2⟩ := List.mem_filter.1 ht
    rw [PM.less_bit, Bool.and_eq_true] at h2
    exact hmin t ((hd.mem t).1 h1) h2.1
theorem by_is {f : Floor} (h9 : f.slips.length ≤ 9) : ∀ (k m : Nat) (now : Int), m ≤ k → m < 2 ^ f.slips.length → (byQ f k m now = true ↔ PM.inT (secF f) (dueF f) now (PM.pick m (ordN f)))
  | 0, m, now, hk, _ => by
    obtain rfl : m = 0 := by omega
    have : PM.pick 0 (ordN f) = [] := by unfold PM.pick; simp
    rw [this]
    simp [byQ, PM.inT]
  | k + 1, m, now, hk, hm => by
    by_cases h0 : m = 0
    · subst h0
      have : PM.pick 0 (ordN f) = [] := by unfold PM.pick; simp
      rw [this]
      simp [byQ, PM.inT]
    · obtain ⟨s, hs, hs1, hs2⟩ := nextQ_full (f := f) hm h0
      have hmin : ∀ t, t < f.slips.length → m.testBit t = true → before f s t = true := fun t ht hb => by
        have := next_min _ s hs t ht hb
        rw [till_due, till_due] at this
        exact (before_iff f s t).2 this
      have hp := Nat.two_pow_pos s
      have ih := by_is h9 k (m - 2 ^ s) (now + secF f s) (by omega) (by omega)
      rw [pick_next h9 hs1 hs2 hmin, PM.inT, ← ih, byQ, if_neg h0, hs]
      simp only [sec_tk, till_due]
      split
      · rename_i hlt
        constructor
        · intro h; cases h
        · intro h; omega
      · rename_i hlt
        constructor
        · intro h; exact ⟨by omega, h⟩
        · intro h; exact h.2
/-- which sets of slips one picker has in time -/
def aloneQ (f : Floor) (m : Nat) : Bool := byQ f m m 0
theorem alone_is {f : Floor} (h9 : f.slips.length ≤ 9) (x : Nat) (hx : ∀ i, x.testBit i = true → i < f.slips.length) : aloneQ f x = true ↔ PM.inT (secF f) (dueF f) 0 (PM.pick x (ordN f)) :=
  by_is h9 x x 0 (Nat.le_refl _) (Nat.lt_pow_two_of_testBit x fun i hi => by
    cases hb : x.testBit i with
    | false => rfl
    | true => have := hx i hb; omega)
/-- how few pickers have a set of slips in time, as the specification counts them -/
def fewQ (f : Floor) (m : Nat) : Int := PM.fewG (aloneQ f) m
theorem fewQ_fit {f : Floor} (hv : validB f = true) (p m : Nat) (hp : p < 99) (hm : ∀ i, m.testBit i = true → i < f.slips.length) : fewQ f m ≤ (p : Int) ↔ canF f p m = true := by
  have h9 := (fine hv).slips9
  rw [can_fit hv p m hm]
  exact PM.few_fit (desk_is h9) (ord_is f) (sec_nonneg hv) (aloneQ f) (alone_is h9) p m hp hm
end Go.Proofs.YtomgnpfpaodpiaaDoor

/- The lists of a roster: who has what, in time; when each slip is done. Plain mathematics. -/
namespace Go.Proofs.YtomgnpfpaodpiaaDoor
open Go Go.RowKit
set_option maxHeartbeats 2000000
theorem natsC_mem {l : List Nat} {x : Int} : x ∈ natsC l ↔ ∃ s ∈ l, (s : Int) = x := by
  unfold natsC
  rw [List.mem_map]
/-- what one of a crew is given is in time, and the others have the rest -/
theorem one_spec {f : Floor} (hv : validB f = true) {p m : Nat} (hm : ∀ i, m.testBit i = true → i < f.slips.length) (hc : canF f (p + 1) m = true) :
    PM.Part (oneF f (p + 1) m) m ∧ PM.inT (secF f) (dueF f) 0 (sortedF (oneF f (p + 1) m) (ordN f)) ∧ canF f p (lessF m (oneF f (p + 1) m)) = true := by
  have hd := desk_is (fine hv).slips9
  by_cases h0 : m = 0
  · subst h0
    rw [oneF, if_pos rfl, PM.less_zero]
    refine ⟨fun i hi => hi, ?_, can_zero f p⟩
    have : sortedF 0 (ordN f) = [] := by unfold sortedF; simp
    rw [this]; trivial
  · rw [oneF, if_neg h0]
    rw [canF, Bool.or_eq_true, List.any_eq_true] at hc
    rcases hc with hc | ⟨y, hy, hcy⟩
    · exact absurd (by simpa using hc) h0
    · unfold shareF
      rw [Nat.add_sub_cancel]
      cases hf : (givenF f m).find? fun x => canF f p (lessF m x) with
      | none =>
        have := List.find?_eq_none.1 hf y hy
        exact absurd hcy this
      | some x =>
        rw [Option.getD_some]
        have h1 : canF f p (lessF m x) = true := by
          have := List.find?_some hf
          simpa using this
        have h2 := List.mem_of_find?_eq_some hf
        rw [givenF, loop_is] at h2
        obtain ⟨_, sub, g1, g2, g3, g4⟩ := (PM.loop_mem m (ordN f) 0 0 x).1 h2
        rw [Nat.zero_or] at g4
        subst g4
        refine ⟨fun i hi => ?_, ?_, h1⟩
        · rw [PM.setF_bit, decide_eq_true_eq] at hi
          exact g2 i hi
        · have e := hd.pick_sort (ord_is f) (hd.nodup.sublist g1) (fun s hs => hm s (g2 s hs))
          have : sortedF (setF sub) (ordN f) = PM.pick (setF sub) (ordN f) := rfl
          rw [this, e]
          exact PM.inT_sort (sec_nonneg hv) (before f) (ord_is f).till sub 0 g3
/-- the lists of a crew that can: each in time, each slip on just one of them -/
theorem roster_spec {f : Floor} (hv : validB f = true) : ∀ (p m : Nat), (∀ i, m.testBit i = true → i < f.slips.length) → canF f p m = true →
    (∀ l ∈ rosterF f p m, PM.inT (secF f) (dueF f) 0 l) ∧ (rosterF f p m).flatten.Nodup ∧ ∀ s, s ∈ (rosterF f p m).flatten ↔ m.testBit s = true
  | 0, m, hm, hc => by
    rw [canF] at hc
    obtain rfl : m = 0 := by simpa using hc
    refine ⟨by simp [rosterF], by simp [rosterF], fun s => by simp [rosterF]⟩
  | p + 1, m, hm, hc => by
    have hd := desk_is (fine hv).slips9
    obtain ⟨h1, h2, h3⟩ := one_spec hv hm hc
    obtain ⟨g1, g2, g3⟩ := roster_spec hv p (lessF m (oneF f (p + 1) m)) (fun i hi => hm i (PM.Part.less m _ i hi)) h3
    have hmem : ∀ s, s ∈ sortedF (oneF f (p + 1) m) (ordN f) ↔ (oneF f (p + 1) m).testBit s = true := fun s => by
      unfold sortedF
      rw [List.mem_filter, hd.mem]
      exact ⟨fun h => h.2, fun h => ⟨hm s (h1 s h), h⟩⟩
    rw [rosterF, List.flatten_cons]
    refine ⟨fun l hl => ?_, ?_, fun s => ?_⟩
    · rcases List.mem_cons.1 hl with rfl | hl
      · exact h2
      · exact g1 l hl
    · rw [List.nodup_append]
      refine ⟨hd.nodup.sublist List.filter_sublist, g2, fun a ha b hb hab => ?_⟩
      subst hab
      have h4 := (hmem a).1 ha
      have h5 := (g3 a).1 hb
      rw [PM.less_bit, h4] at h5
      simp at h5
    · rw [List.mem_append, hmem, g3, PM.less_bit]
      cases hb : (oneF f (p + 1) m).testBit s with
      | true => simp [h1 s hb]
      | false => simp
/-- a list of slips, each one once, goes onto a roster -/
theorem step_nats {f : Floor} : ∀ (l : List Nat) (m : Nat), l.Nodup → (∀ s ∈ l, s < f.slips.length ∧ m.testBit s = false) → (natsC l).foldl (stepR f) (some m) = some (m ||| setF l)
  | [], m, _, _ => by simp [natsC, setF]
  | s :: l, m, hn, h => by
    obtain ⟨n1, n2⟩ := List.nodup_cons.1 hn
    obtain ⟨h1, h2⟩ := h s (by simp)
    have e : natsC (s :: l) = (s : Int) :: natsC l := rfl
    have e2 : stepR f (some m) (s : Int) = some (m ||| 2 ^ s) := by
      unfold stepR slipB
      simp [h2]
      omega
    rw [e, List.foldl_cons, e2, step_nats l (m ||| 2 ^ s) n2 fun t ht => ⟨(h t (by simp [ht])).1, ?_⟩, PM.setF_cons, Nat.or_assoc]
    rw [Nat.testBit_or, (h t (by simp [ht])).2, two_bit]
    have : s ≠ t := fun e => by subst e; exact n1 ht
    simp [this]
theorem rows_flat (f : Floor) : ∀ (ts : List SRow) (o : Option Nat), rowsR f o ts = ((ts.map SRow.slips).flatten).foldl (stepR f) o
  | [], _ => rfl
  | t :: ts, o => by
    unfold rowsR
    rw [List.foldl_cons, List.map_cons, List.flatten_cons, List.foldl_append]
    exact rows_flat f ts _
theorem flat_nats : ∀ rows : List (List Nat), (rows.map natsC).flatten = natsC rows.flatten
  | [] => rfl
  | r :: rows => by
    rw [List.map_cons, List.flatten_cons, List.flatten_cons, flat_nats rows]
    unfold natsC
    rw [List.map_append]
theorem roster_yes {f : Floor} {ts : List SRow} {rows : List (List Nat)} (h : ts.map SRow.slips = rows.map natsC) (hl : 1 ≤ ts.length ∧ ts.length ≤ 5) (hn : rows.flatten.Nodup) (hm : ∀ s, s ∈ rows.flatten ↔ s < f.slips.length) : rosterB f ts = true := by
  unfold rosterB
  rw [rows_flat, h, flat_nats, step_nats _ 0 hn (fun s hs => ⟨(hm s).1 hs, Nat.zero_testBit s⟩), Nat.zero_or]
  have e : setF rows.flatten = 2 ^ f.slips.length - 1 := by
    apply Nat.eq_of_testBit_eq
    intro i
    rw [PM.setF_bit, Nat.testBit_two_pow_sub_one]
    exact decide_eq_decide.2 (hm i)
  rw [e, Bool.and_eq_true]
  exact ⟨hasB_iff.2 (by omega), by simp⟩
/- when slips are done -/
def sumT (tk : Int → Int × Int) (t : Int × Int) (l : List Int) : Int × Int := l.foldl (fun t x => addS t (tk x)) t
theorem row_now (tk : Int → Int × Int) : ∀ (row : List Int) (st : (Int × Int) × List (Int × Int)), (row.foldl (stepD tk) st).1 = sumT tk st.1 row
  | [], _ => rfl
  | x :: row, st => by
    rw [List.foldl_cons, row_now tk row]
    rfl
theorem row_miss (tk : Int → Int × Int) (k : Nat) : ∀ (row : List Int) (st : (Int × Int) × List (Int × Int)), (∀ x ∈ row, x.toNat ≠ k) → (row.foldl (stepD tk) st).2[k]? = st.2[k]?
  | [], _, _ => rfl
  | x :: row, st, h => by
    rw [List.foldl_cons, row_miss tk k row _ (fun y hy => h y (by simp [hy]))]
    exact List.getElem?_set_ne (h x (by simp))
theorem row_hit (tk : Int → Int × Int) (a b : List Int) (x : Int) (st : (Int × Int) × List (Int × Int)) (hlt : x.toNat < st.2.length) (hb : ∀ y ∈ b, y.toNat ≠ x.toNat) : ((a ++ x :: b).foldl (stepD tk) st).2[x.toNat]? = some (sumT tk st.1 (a ++ [x])) := by
  rw [List.foldl_append, List.foldl_cons, row_miss tk x.toNat b _ hb]
  unfold sumT
  rw [List.foldl_append]
  show ((a.foldl (stepD tk) st).2.set x.toNat (addS (a.foldl (stepD tk) st).1 (tk x)))[x.toNat]? = _
  rw [List.getElem?_set_self (by rw [row_len]; exact hlt), row_now]
  rfl
theorem rows_miss (tk : Int → Int × Int) (k : Nat) : ∀ (rows : List (List Int)) (out : List (Int × Int)), (∀ x ∈ rows.flatten, x.toNat ≠ k) → (rows.foldl (rowD tk) out)[k]? = out[k]?
  | [], _, _ => rfl
  | r :: rows, out, h => by
    rw [List.flatten_cons] at h
    rw [List.foldl_cons, rows_miss tk k rows _ (fun y hy => h y (by simp [hy]))]
    exact row_miss tk k r _ (fun y hy => h y (by simp [hy]))
theorem done_hit {f : Floor} {A B : List (List Int)} {a b : List Int} {x : Int} (h0 : x.toNat < f.slips.length) (hb : ∀ y ∈ b, y.toNat ≠ x.toNat) (hB : ∀ y ∈ B.flatten, y.toNat ≠ x.toNat) : (doneF f (A ++ (a ++ x :: b) :: B))[x.toNat]? = some (sumT (tkF f) (0, 0) (a ++ [x])) := by
  unfold doneF
  rw [List.foldl_append, List.foldl_cons, rows_miss (tkF f) x.toNat B _ hB]
  unfold rowD
  rw [row_hit (tkF f) a b x _ ?_ hb]
  show x.toNat < (A.foldl (rowD (tkF f)) _).length
  rw [done_len, List.length_replicate]
  exact h0
/-- on a roster of numbers each slip is done behind those before it -/
theorem done_nats {f : Floor} {rows : List (List Nat)} (hn : rows.flatten.Nodup) {A B : List (List Nat)} {a b : List Nat} {s : Nat} (he : rows = A ++ (a ++ s :: b) :: B) (hs : s < f.slips.length) : (doneF f (rows.map natsC))[s]? = some (sumT (tkF f) (0, 0) (natsC (a ++ [s]))) := by
  subst he
  rw [List.flatten_append, List.flatten_cons, List.nodup_append] at hn
  obtain ⟨_, hn, _⟩ := hn
  rw [List.nodup_append] at hn
  obtain ⟨hn1, hn2, hn3⟩ := hn
  rw [List.nodup_append] at hn1
  obtain ⟨_, hn4, hn5⟩ := hn1
  have e : (A ++ (a ++ s :: b) :: B).map natsC = A.map natsC ++ (natsC a ++ (s : Int) :: natsC b) :: B.map natsC := by
    rw [List.map_append, List.map_cons]
    unfold natsC
    rw [List.map_append]
    rfl
  have e2 : natsC (a ++ [s]) = natsC a ++ [(s : Int)] := by unfold natsC; rw [List.map_append]; rfl
  have key := done_hit (f := f) (A := A.map natsC) (B := B.map natsC) (a := natsC a) (b := natsC b) (x := (s : Int)) (by simpa using hs) (fun y hy => ?_) (fun y hy => ?_)
  · rw [e, e2]
    simpa using key
  · obtain ⟨t, ht, rfl⟩ := natsC_mem.1 hy
    intro h
    obtain rfl : t = s := by simpa using h
    exact (List.nodup_cons.1 hn4).1 ht
  · rw [flat_nats] at hy
    obtain ⟨t, ht, rfl⟩ := natsC_mem.1 hy
    intro h
    obtain rfl : t = s := by simpa using h
    exact hn3 t (by simp) t ht rfl
theorem sum_snd (f : Floor) : ∀ (l : List Nat) (t : Int × Int), (sumT (tkF f) t (natsC l)).2 = t.2 + (l.map (secF f)).sum
  | [], t => by simp [natsC, sumT]
  | s :: l, t => by
    have e : natsC (s :: l) = (s : Int) :: natsC l := rfl
    rw [e]
    unfold sumT
    rw [List.foldl_cons]
    have := sum_snd f l (addS t (tkF f s))
    unfold sumT at this
    rw [this, List.map_cons, List.sum_cons]
    show t.2 + (tkF f s).2 + _ = _
    rw [sec_tk]
    omega
theorem split_flat {α : Type} {rows : List (List α)} {s : α} (h : s ∈ rows.flatten) : ∃ A B a b, rows = A ++ (a ++ s :: b) :: B := by
  obtain ⟨r, hr, hs⟩ := List.mem_flatten.1 h
  obtain ⟨A, B, e⟩ := List.append_of_mem hr
  obtain ⟨a, b, e2⟩ := List.append_of_mem hs
  exact ⟨A, B, a, b, by rw [e, e2]⟩
theorem inT_at {sec till : Nat → Int} {a b : List Nat} {s : Nat} {t : Int} (h : PM.inT sec till t (a ++ s :: b)) : t + ((a ++ [s]).map sec).sum ≤ till s := by
  have := ((PM.inT_app a (s :: b) t).1 h).2.1
  simp only [List.map_append, List.sum_append, List.map_cons, List.map_nil, List.sum_cons, List.sum_nil]
  omega
/-- all that is told of a roster -/
theorem roster_told {f : Floor} (hv : validB f = true) {p : Nat} (hp : fewF f = some p) {ts : List SRow} (h : ts.map SRow.slips = (rosterF f p (allF f)).map natsC) :
    rosterB f ts = true ∧ ts.length = p ∧ (doneF f (ts.map SRow.slips)).length = f.slips.length ∧ ∀ (s : Nat) (d : Int × Int), (doneF f (ts.map SRow.slips))[s]? = some d → d.2 ≤ dueF f s := by
  obtain ⟨h1, h5, hc⟩ := few_can hp
  obtain ⟨g1, g2, g3⟩ := roster_spec hv p (allF f) (all_in f) hc
  have hlen : ts.length = p := by
    have := congrArg List.length h
    rwa [List.length_map, List.length_map, roster_len] at this
  have hm : ∀ s, s ∈ (rosterF f p (allF f)).flatten ↔ s < f.slips.length := fun s => by rw [g3, all_bit, decide_eq_true_eq]
  have hdl : (doneF f (ts.map SRow.slips)).length = f.slips.length := by
    unfold doneF
    rw [done_len, List.length_replicate]
  refine ⟨roster_yes h (by omega) g2 hm, hlen, hdl, fun s d hd => ?_⟩
  have hs : s < f.slips.length := by rw [← hdl]; exact (List.getElem?_eq_some_iff.1 hd).1
  obtain ⟨A, B, a, b, e⟩ := split_flat ((hm s).2 hs)
  rw [h, done_nats g2 e hs] at hd
  obtain rfl := Option.some.inj hd
  rw [sum_snd]
  have h6 := inT_at (g1 (a ++ s :: b) (by rw [e]; simp))
  simpa using h6
end Go.Proofs.YtomgnpfpaodpiaaDoor

/- The specification's fewest pickers, late slips and least Until are the program's. Plain mathematics. -/
namespace Go.Proofs.YtomgnpfpaodpiaaDoor
open Go Go.RowKit
set_option maxHeartbeats 2000000
/-- the least number of pickers, as the specification tells it -/
def manyQ (f : Floor) : Int := max 1 (fewQ f (allF f))
def PickersV (f : Floor) : Int × Int := if checkV f = 0 then (if 5 < manyQ f then (0, 4) else (manyQ f, 0)) else (0, checkV f)
theorem few_below {f : Floor} {p : Nat} (h : fewF f = some p) : ∀ j, 1 ≤ j → j < p → canF f j (allF f) = false := by
  intro j h1 hj
  obtain ⟨p1, p5, _⟩ := few_can h
  cases hc : canF f j (allF f) with
  | false => rfl
  | true =>
    exfalso
    unfold fewF at h
    rw [List.find?_eq_some_iff_append] at h
    obtain ⟨_, l1, l2, he, hall⟩ := h
    have : j ∈ l1 := by
      obtain rfl | rfl | rfl | rfl | rfl : p = 1 ∨ p = 2 ∨ p = 3 ∨ p = 4 ∨ p = 5 := by omega
      all_goals
        rcases l1 with _ | ⟨a1, _ | ⟨a2, _ | ⟨a3, _ | ⟨a4, _ | ⟨a5, l1⟩⟩⟩⟩⟩ <;> simp at he ⊢ <;> omega
    have := hall j this
    rw [hc] at this
    simp at this
theorem few_no {f : Floor} (h : fewF f = none) : ∀ j, 1 ≤ j → j ≤ 5 → canF f j (allF f) = false := by
  intro j h1 hj
  unfold fewF at h
  rw [List.find?_eq_none] at h
  have := h j (by obtain rfl | rfl | rfl | rfl | rfl : j = 1 ∨ j = 2 ∨ j = 3 ∨ j = 4 ∨ j = 5 := by omega
                  all_goals simp)
  simpa using this
theorem many_is {f : Floor} (hv : validB f = true) : (fewF f = none ∧ 5 < manyQ f) ∨ ∃ p : Nat, fewF f = some p ∧ manyQ f = p ∧ 1 ≤ p ∧ p ≤ 5 := by
  have key : ∀ p : Nat, p < 99 → (fewQ f (allF f) ≤ (p : Int) ↔ canF f p (allF f) = true) := fun p hp => fewQ_fit hv p (allF f) hp (all_in f)
  cases h : fewF f with
  | none =>
    left
    refine ⟨rfl, ?_⟩
    have h5 := few_no h 5 (by omega) (by omega)
    have := key 5 (by omega)
    rw [h5] at this
    unfold manyQ
    have : ¬ fewQ f (allF f) ≤ (5 : Nat) := fun hh => by have := this.1 hh; cases this
    omega
  | some p =>
    right
    obtain ⟨p1, p5, hc⟩ := few_can h
    refine ⟨p, rfl, ?_, p1, p5⟩
    have h1 := (key p (by omega)).2 hc
    unfold manyQ
    by_cases he : p = 1
    · omega
    · have h2 := few_below h (p - 1) (by omega) (by omega)
      have h3 := key (p - 1) (by omega)
      rw [h2] at h3
      have : ¬ fewQ f (allF f) ≤ ((p - 1 : Nat) : Int) := fun hh => by have := h3.1 hh; cases this
      omega
/- late slips -/
def lateM (f : Floor) (m : Nat) : List Int := natsC (membersK m f.slips.length)
def passQ (f : Floor) (p : Int) (best : List Int) (m : Nat) : List Int := if decide (fewQ f (allF f - m) ≤ p) && PM.prefB (lateM f m) best then lateM f m else best
def lateQ (f : Floor) (p : Int) : List Int := (List.range (allF f + 1)).foldl (passQ f p) (lateM f (allF f))
def rLateV (f : Floor) (n : Int) : List Int × Int := if checkV f = 0 then (if hasB 1 5 n then (lateQ f n, 0) else ([], 31)) else ([], checkV f)
theorem membersK_mem (m s : Nat) : ∀ n : Nat, s ∈ membersK m n ↔ s < n ∧ m.testBit s = true
  | 0 => by simp [show membersK m 0 = [] from rfl]
  | n + 1 => by
    rw [membersK_succ, List.mem_append, membersK_mem m s n]
    cases hb : m.testBit n with
    | false =>
      simp only [Bool.false_eq_true, if_false, List.not_mem_nil, or_false]
      constructor
      · rintro ⟨h1, h2⟩; exact ⟨by omega, h2⟩
      · rintro ⟨h1, h2⟩
        have : s ≠ n := fun e => by subst e; rw [hb] at h2; cases h2
        exact ⟨by omega, h2⟩
    | true =>
      simp only [if_true, List.mem_singleton]
      constructor
      · rintro (⟨h1, h2⟩ | rfl)
        · exact ⟨by omega, h2⟩
        · exact ⟨by omega, hb⟩
      · rintro ⟨h1, h2⟩
        by_cases e : s = n
        · exact .inr e
        · exact .inl ⟨by omega, h2⟩
theorem membersK_lt (m : Nat) : ∀ n : Nat, (membersK m n).Pairwise (· < ·)
  | 0 => by simp [show membersK m 0 = [] from rfl]
  | n + 1 => by
    rw [membersK_succ, List.pairwise_append]
    refine ⟨membersK_lt m n, by cases m.testBit n <;> simp, fun a ha b hb => ?_⟩
    have h1 := ((membersK_mem m a n).1 ha).1
    cases h : m.testBit n with
    | false => rw [h] at hb; simp at hb
    | true => rw [h] at hb; simp at hb; omega
/-- strictly increasing lists with the same members are the same -/
theorem lt_unique : ∀ {a b : List Int}, a.Pairwise (· < ·) → b.Pairwise (· < ·) → (∀ x, x ∈ a ↔ x ∈ b) → a = b := by
  intro a
  induction a with
  | nil =>
    intro b _ _ h
    cases b with
    | nil => rfl
    | cons y b => exact absurd ((h y).2 (by simp)) (by simp)
  | cons x a ih =>
    intro b ha hb h
    cases b with
    | nil => exact absurd ((h x).1 (by simp)) (by simp)
    | cons y b =>
      obtain ⟨a1, a2⟩ := List.pairwise_cons.1 ha
      obtain ⟨b1, b2⟩ := List.pairwise_cons.1 hb
      have hxy : x = y := by
        have h1 := (h x).1 (by simp)
        have h2 := (h y).2 (by simp)
        rcases List.mem_cons.1 h1 with e | h1
        · exact e
        · rcases List.mem_cons.1 h2 with e | h2
          · exact e.symm
          · have := a1 y h2; have := b1 x h1; omega
      subst hxy
      congr 1
      refine ih a2 b2 fun z => ?_
      constructor
      · intro hz
        rcases List.mem_cons.1 ((h z).1 (by simp [hz])) with e | hz2
        · subst e; have := a1 z hz; omega
        · exact hz2
      · intro hz
        rcases List.mem_cons.1 ((h z).2 (by simp [hz])) with e | hz2
        · subst e; have := b1 z hz; omega
        · exact hz2
theorem nats_lt {l : List Nat} (h : l.Pairwise (· < ·)) : (natsC l).Pairwise (· < ·) := by
  unfold natsC
  rw [List.pairwise_map]
  exact h.imp (fun h => by show (_ : Int) < _; omega)
theorem slips_lt (f : Floor) : (slipsF f).Pairwise (· < ·) := nats_lt List.pairwise_lt_range
theorem slips_mem (f : Floor) (x : Int) : x ∈ slipsF f ↔ 0 ≤ x ∧ x < f.slips.length := by
  unfold slipsF
  rw [List.mem_map]
  constructor
  · rintro ⟨s, hs, rfl⟩
    rw [List.mem_range] at hs
    exact ⟨Int.natCast_nonneg s, by show (s : Int) < _; omega⟩
  · rintro ⟨h0, h1⟩
    exact ⟨x.toNat, List.mem_range.2 (by omega), by show ((x.toNat : Nat) : Int) = x; omega⟩
theorem toNat_nats (l : List Nat) : (natsC l).map Int.toNat = l := by
  unfold natsC
  rw [List.map_map]
  exact (List.map_congr_left (fun s _ => by simp)).trans (List.map_id l)
theorem late_set {f : Floor} {m : Nat} (hm : ∀ i, m.testBit i = true → i < f.slips.length) : setF ((lateM f m).map Int.toNat) = m := by
  rw [lateM, toNat_nats]
  apply Nat.eq_of_testBit_eq
  intro i
  rw [PM.setF_bit]
  cases hb : m.testBit i with
  | true => rw [decide_eq_true_eq, membersK_mem]; exact ⟨hm i hb, hb⟩
  | false => rw [decide_eq_false_iff_not, membersK_mem, hb]; simp
theorem le_bits {f : Floor} {m : Nat} (hm : m ≤ allF f) : ∀ i, m.testBit i = true → i < f.slips.length := fun i hi => by
  apply Classical.byContradiction
  intro hn
  have h1 : m < 2 ^ f.slips.length := by have := Nat.two_pow_pos f.slips.length; unfold allF at hm; omega
  rw [Nat.testBit_lt_two_pow (Nat.lt_of_lt_of_le h1 (Nat.pow_le_pow_right (by omega) (by omega)))] at hi
  cases hi
theorem bits_le {f : Floor} {m : Nat} (hm : ∀ i, m.testBit i = true → i < f.slips.length) : m ≤ allF f := by
  have : m < 2 ^ f.slips.length := Nat.lt_pow_two_of_testBit m fun i hi => by
    cases hb : m.testBit i with
    | false => rfl
    | true => have := hm i hb; omega
  unfold allF
  omega
theorem late_sub {f : Floor} {y : List Int} (hy : y.Sublist (slipsF f)) : ∃ m, m ≤ allF f ∧ lateM f m = y := by
  have hm : ∀ i, (setF (y.map Int.toNat)).testBit i = true → i < f.slips.length := fun i hi => by
    rw [PM.setF_bit, decide_eq_true_eq, List.mem_map] at hi
    obtain ⟨x, hx, rfl⟩ := hi
    have := (slips_mem f x).1 (hy.subset hx)
    omega
  refine ⟨setF (y.map Int.toNat), bits_le hm, ?_⟩
  refine lt_unique (nats_lt (membersK_lt _ _)) ((slips_lt f).sublist hy) fun x => ?_
  rw [lateM, natsC_mem]
  constructor
  · rintro ⟨s, hs, rfl⟩
    have h2 := ((membersK_mem _ s _).1 hs).2
    rw [PM.setF_bit, decide_eq_true_eq, List.mem_map] at h2
    obtain ⟨x, hx, hxs⟩ := h2
    have := (slips_mem f x).1 (hy.subset hx)
    have e : ((s : Nat) : Int) = x := by omega
    rw [e]; exact hx
  · intro hx
    have h1 := (slips_mem f x).1 (hy.subset hx)
    refine ⟨x.toNat, (membersK_mem _ _ _).2 ⟨by omega, ?_⟩, by omega⟩
    rw [PM.setF_bit, decide_eq_true_eq, List.mem_map]
    exact ⟨x, hx, rfl⟩
theorem late_in {f : Floor} {m : Nat} : (lateM f m).Sublist (slipsF f) := by
  unfold lateM slipsF
  refine List.Sublist.map _ ?_
  have key : ∀ n : Nat, (membersK m n).Sublist (List.range n) := by
    intro n
    induction n with
    | zero => simp [show membersK m 0 = [] from rfl]
    | succ n ih =>
      rw [membersK_succ, List.range_succ]
      refine List.Sublist.append ih ?_
      cases m.testBit n <;> simp
  exact key _
theorem late_all (f : Floor) : lateM f (allF f) = slipsF f := by
  refine lt_unique (nats_lt (membersK_lt _ _)) (slips_lt f) fun x => ?_
  rw [lateM, natsC_mem, slips_mem]
  constructor
  · rintro ⟨s, hs, rfl⟩
    have := ((membersK_mem _ s _).1 hs).1
    omega
  · rintro ⟨h0, h1⟩
    exact ⟨x.toNat, (membersK_mem _ _ _).2 ⟨by omega, by rw [all_bit, decide_eq_true_eq]; omega⟩, by omega⟩
theorem can_late {f : Floor} {p m : Nat} (hm : m ≤ allF f) : canLess f p (lateM f m) = canF f p (lessF (allF f) m) := by
  rw [canLess, late_set (le_bits hm)]
theorem late_pass {f : Floor} (hv : validB f = true) {p : Nat} (hp : p ≤ 5) (best : List Int) {m : Nat} (hm : m ≤ allF f) : passQ f p best m = PM.passB (canLess f p) best (lateM f m) := by
  have hpart : PM.Part m (allF f) := fun i hi => by rw [all_bit, decide_eq_true_eq]; exact le_bits hm i hi
  have e : decide (fewQ f (allF f - m) ≤ (p : Int)) = canLess f p (lateM f m) := by
    rw [can_late hm, ← PM.less_sub hpart]
    have := fewQ_fit hv p (lessF (allF f) m) (by omega) (fun i hi => all_in f i (PM.Part.less _ _ i hi))
    rw [Bool.eq_iff_iff, decide_eq_true_eq]
    exact this
  rw [passQ, PM.passB, e]
theorem foldl_congr_mem {α β : Type} {g h : β → α → β} : ∀ (l : List α) (b : β), (∀ b x, x ∈ l → g b x = h b x) → l.foldl g b = l.foldl h b
  | [], _, _ => rfl
  | x :: l, b, k => by
    rw [List.foldl_cons, List.foldl_cons, k b x (by simp)]
    exact foldl_congr_mem l _ fun b y hy => k b y (by simp [hy])
/-- whoever is late, by the program, is the best of all that can be -/
theorem late_top {f : Floor} (p : Nat) : PM.Best (fun y => y.Sublist (slipsF f)) (canLess f p) (lateF f p) := by
  have hlen : (slipsF f).length = f.slips.length := by unfold slipsF; simp
  have hP : canLess f p (slipsF f) = true := by
    rw [← late_all, can_late (Nat.le_refl _), PM.less_self]
    exact can_zero f p
  have h2 := PM.late_best (canLess f p) (slipsF f) (slips_lt f) hP
  have : lateF f p = PM.lateG (canLess f p) (slipsF f).length (slipsF f) := by
    rw [hlen]
    rfl
  rw [this]
  exact h2
/-- the specification tells the same -/
theorem late_same {f : Floor} (hv : validB f = true) {p : Nat} (hp : p ≤ 5) : lateQ f p = lateF f p := by
  have hP : canLess f p (lateM f (allF f)) = true := by
    rw [can_late (Nat.le_refl _), PM.less_self]
    exact can_zero f p
  have e : lateQ f p = ((List.range (allF f + 1)).map (lateM f)).foldl (PM.passB (canLess f p)) (lateM f (allF f)) := by
    rw [lateQ, List.foldl_map]
    exact foldl_congr_mem _ _ fun b m hm => late_pass hv hp b (by rw [List.mem_range] at hm; omega)
  obtain ⟨i1, i2, i3, i4⟩ := PM.pass_best (canLess f p) ((List.range (allF f + 1)).map (lateM f)) (lateM f (allF f)) hP
  rw [← e] at i1 i2 i3 i4
  refine PM.Best.unique (U := fun y => y.Sublist (slipsF f)) ⟨?_, i1, fun z hz hpz => ?_⟩ (late_top p)
  · rcases i2 with h | h
    · rw [h]; exact late_in
    · obtain ⟨m, _, h⟩ := List.mem_map.1 h
      rw [← h]; exact late_in
  · obtain ⟨m, hm, rfl⟩ := late_sub hz
    exact i4 _ (List.mem_map.2 ⟨m, List.mem_range.2 (by omega), rfl⟩) hpz
theorem lateV_same (f : Floor) (n : Int) : rLateV f n = LateV f n := by
  rcases check_two f with ⟨hc, hv⟩ | ⟨hc, hv⟩
  · unfold rLateV LateV; rw [if_neg (by omega), if_neg (by omega)]
  · unfold rLateV LateV
    rw [if_pos hc, if_pos hc]
    cases hh : hasB 1 5 n with
    | false => rfl
    | true =>
      have h1 := hasB_iff.1 hh
      rw [if_pos rfl, if_pos rfl]
      have e : n = ((n.toNat : Nat) : Int) := by omega
      rw [e, late_same hv (by omega), Int.toNat_natCast]
/- the least Until -/
/-- what the specification's Spare answers -/
def SpareQ (f : Floor) (n v c : Int) : Prop :=
  (checkSlipV f n ≠ 0 ∧ v = 0 ∧ c = checkSlipV f n) ∨ (checkSlipV f n = 0 ∧ 5 < manyQ f ∧ v = 0 ∧ c = 4) ∨
    (checkSlipV f n = 0 ∧ c = 0 ∧ ∃ (k p t r : Nat) (s : SSlip), n = k ∧ f.slips[k]? = some s ∧ s.till = t ∧ manyQ f = p ∧ p ≤ 5 ∧ v = r ∧ r ≤ t ∧ (∀ j : Nat, r = j + 1 → fewQ (tillF f k j) (allF f) ≤ (p : Int) → False) ∧ (r < t → fewQ (tillF f k r) (allF f) ≤ (p : Int)))
theorem till_self {f : Floor} {k : Nat} {s : SSlip} (hs : f.slips[k]? = some s) : (tillF f k s.till).slips = f.slips := by
  show (f.slips.modify k fun x => { x with till := s.till }) = f.slips
  apply List.ext_getElem?
  intro i
  rw [List.getElem?_modify]
  cases h : f.slips[i]? with
  | none => simp
  | some x =>
    by_cases e : k = i
    · subst e
      rw [hs] at h
      cases h
      simp
    · simp [e]
theorem enough_few {f : Floor} (hv : validB f = true) {k p : Nat} (hp : p ≤ 5) {u : Int} (h0 : 0 ≤ u) (h1 : u ≤ 100000) : fewQ (tillF f k u) (allF f) ≤ (p : Int) ↔ enoughF f k p u = true := by
  rw [enoughF]
  exact fewQ_fit (valid_till hv none 0 k h0 h1) p (allF f) (by omega) (fun i hi => by rw [till_len]; exact all_in f i hi)
theorem spare_same {f : Floor} {n v c v' c' : Int} (h : SpareA f n v c) (h' : SpareQ f n v' c') : v = v' ∧ c = c' := by
  rcases h with ⟨a1, a2, a3⟩ | ⟨a1, a2, a3, a4⟩ | ⟨a1, a2, k, p, t, r, s, b1, b2, b3, b4, b5, b6⟩
  · rcases h' with ⟨c1, c2, c3⟩ | ⟨c1, _⟩ | ⟨c1, _⟩
    · exact ⟨by omega, by omega⟩
    · exact absurd c1 a1
    · exact absurd c1 a1
  · have hv : validB f = true := by
      rcases check_cases f n with hb | ⟨_, hv, _⟩
      · omega
      · exact hv
    rcases h' with ⟨c1, c2, c3⟩ | ⟨c1, c2, c3, c4⟩ | ⟨c1, c2, k, p, t, r, s, d1, d2, d3, d4, d5, _⟩
    · exact absurd a1 c1
    · exact ⟨by omega, by omega⟩
    · rcases many_is hv with ⟨e1, e2⟩ | ⟨p', e1, e2, _⟩
      · omega
      · rw [a2] at e1; cases e1
  · have hv : validB f = true := by
      rcases check_cases f n with hb | ⟨_, hv, _⟩
      · omega
      · exact hv
    rcases many_is hv with ⟨e1, e2⟩ | ⟨p', e1, e2, e3, e4⟩
    · rw [b4] at e1; cases e1
    · rw [b4] at e1
      obtain rfl : p = p' := Option.some.inj e1
      rcases h' with ⟨c1, c2, c3⟩ | ⟨c1, c2, c3, c4⟩ | ⟨c1, c2, k', p', t', q, s', d1, d2, d3, d4, d5, d6, d7, d8, d9⟩
      · exact absurd a1 c1
      · omega
      · obtain rfl : k = k' := by omega
        rw [b2] at d2
        obtain rfl := Option.some.inj d2
        obtain rfl : t = t' := by omega
        obtain rfl : p = p' := by omega
        have ht : t ≤ 100000 := by
          have := ((valid_parts hv).2.2.2.2.2.2 k s b2).1
          omega
        have hq : enoughF f k p q = true := by
          by_cases hlt : q < t
          · exact (enough_few hv e4 (by omega) (by omega)).1 (d9 hlt)
          · obtain rfl : q = t := by omega
            have hvt := valid_till hv none 0 k (u := (q : Int)) (by omega) (by omega)
            rw [enough_fit hv k p (by omega) (by omega)]
            have hcan := (few_can b4).2.2
            rw [can_fit hv p (allF f) (all_in f)] at hcan
            have : dueF (tillF f k q) = dueF f := funext fun i => by
              rw [due_till]
              split
              · rename_i hi
                rw [hi.1, ← till_due, tillQ_at b2, b3]
              · rfl
            rw [this]
            exact hcan
        have := spare_is hv ht b6 d7 (fun j hj => by
          cases hb : enoughF f k p j with
          | false => rfl
          | true => exact (d8 j hj ((enough_few hv e4 (by omega) (by omega)).2 hb)).elim) hq
        exact ⟨by omega, by omega⟩
end Go.Proofs.YtomgnpfpaodpiaaDoor

/- Rosters as lists, on other slips, and of some slips alone: plain mathematics. -/
namespace Go.Proofs.YtomgnpfpaodpiaaDoor
open Go Go.RowKit
set_option maxHeartbeats 2000000
theorem PM.fit_rows {sec till : Nat → Int} : ∀ (p m : Nat), PM.Fit sec till p m ↔ ∃ rows : List (List Nat), rows.length = p ∧ (∀ r ∈ rows, PM.inT sec till 0 r) ∧ rows.flatten.Nodup ∧ ∀ s, s ∈ rows.flatten ↔ m.testBit s = true
  | 0, m => by
    constructor
    · intro h
      obtain rfl : m = 0 := h
      exact ⟨[], rfl, by simp, by simp, by simp⟩
    · rintro ⟨rows, h1, _, _, h4⟩
      obtain rfl := List.length_eq_zero_iff.1 h1
      show m = 0
      apply Nat.eq_of_testBit_eq
      intro i
      rw [Nat.zero_testBit]
      cases hb : m.testBit i with
      | false => rfl
      | true => have := (h4 i).2 hb; simp at this
  | p + 1, m => by
    constructor
    · rintro ⟨l, h1, h2, h3, h4⟩
      obtain ⟨rows, g1, g2, g3, g4⟩ := (PM.fit_rows p _).1 h4
      refine ⟨l :: rows, by simp [g1], fun r hr => ?_, ?_, fun s => ?_⟩
      · rcases List.mem_cons.1 hr with rfl | hr
        · exact h3
        · exact g2 r hr
      · rw [List.flatten_cons, List.nodup_append]
        refine ⟨h1, g3, fun a ha b hb hab => ?_⟩
        subst hab
        have := (g4 a).1 hb
        rw [PM.less_bit, PM.setF_bit] at this
        simp [ha] at this
      · rw [List.flatten_cons, List.mem_append, g4, PM.less_bit, PM.setF_bit]
        constructor
        · rintro (h | h)
          · exact h2 s h
          · rw [Bool.and_eq_true] at h; exact h.1
        · intro h
          by_cases hs : s ∈ l
          · exact .inl hs
          · exact .inr (by simp [h, hs])
    · rintro ⟨rows, h1, h2, h3, h4⟩
      obtain ⟨l, rows, rfl⟩ : ∃ l r, rows = l :: r := by
        cases rows with
        | nil => simp at h1
        | cons l r => exact ⟨l, r, rfl⟩
      rw [List.flatten_cons, List.nodup_append] at h3
      simp only [List.flatten_cons, List.mem_append] at h4
      refine ⟨l, h3.1, fun s hs => (h4 s).1 (.inl hs), h2 l (by simp), (PM.fit_rows p _).2 ⟨rows, by simpa using h1, fun r hr => h2 r (by simp [hr]), h3.2.1, fun s => ?_⟩⟩
      rw [PM.less_bit, PM.setF_bit]
      constructor
      · intro hs
        have h5 := (h4 s).1 (.inr hs)
        have h6 : s ∉ l := fun hl => h3.2.2 s hl s hs rfl
        simp [h5, h6]
      · intro h
        rw [Bool.and_eq_true] at h
        rcases (h4 s).2 h.1 with hl | hr
        · simp [hl] at h
        · exact hr
theorem PM.inT_image {sec till sec' till' : Nat → Int} {φ : Nat → Nat} : ∀ (l : List Nat) (t t' : Int), t ≤ t' → (∀ s ∈ l, sec (φ s) ≤ sec' s ∧ till' s ≤ till (φ s)) → PM.inT sec' till' t' l → PM.inT sec till t (l.map φ)
  | [], _, _, _, _, _ => trivial
  | s :: l, t, t', ht, h, k => by
    have h1 := h s (by simp)
    obtain ⟨k1, k2⟩ := k
    refine ⟨by omega, PM.inT_image l _ _ (by omega) (fun r hr => h r (by simp [hr])) k2⟩
theorem map_nodup {α β : Type} {φ : α → β} {l : List α} (h : l.Nodup) (k : ∀ a ∈ l, ∀ b ∈ l, φ a = φ b → a = b) : (l.map φ).Nodup := by
  rw [List.Nodup, List.pairwise_map]
  exact List.Pairwise.imp_of_mem (fun {a b} ha hb hab e => hab (k a ha b hb e)) h
/-- a roster of other slips, renumbered, quicker, and with later Untils -/
theorem PM.fit_image {sec till sec' till' : Nat → Int} {φ : Nat → Nat} {p m m' : Nat} (hi : ∀ s t, m'.testBit s = true → m'.testBit t = true → φ s = φ t → s = t) (hs : ∀ s, m'.testBit s = true → sec (φ s) ≤ sec' s ∧ till' s ≤ till (φ s)) (hm : ∀ t, m.testBit t = true ↔ ∃ s, m'.testBit s = true ∧ φ s = t) (h : PM.Fit sec' till' p m') : PM.Fit sec till p m := by
  obtain ⟨rows, g1, g2, g3, g4⟩ := (PM.fit_rows p m').1 h
  have ef : ∀ rows : List (List Nat), (rows.map (List.map φ)).flatten = rows.flatten.map φ := fun rows => by rw [List.map_flatten]
  refine (PM.fit_rows p m).2 ⟨rows.map (List.map φ), by simp [g1], fun r hr => ?_, ?_, fun t => ?_⟩
  · obtain ⟨r0, h0, rfl⟩ := List.mem_map.1 hr
    exact PM.inT_image r0 0 0 (Int.le_refl _) (fun s hs0 => hs s ((g4 s).1 (List.mem_flatten.2 ⟨r0, h0, hs0⟩))) (g2 r0 h0)
  · rw [ef]
    exact map_nodup g3 fun a ha b hb e => hi a b ((g4 a).1 ha) ((g4 b).1 hb) e
  · rw [ef, List.mem_map, hm]
    constructor
    · rintro ⟨s, h1, h2⟩; exact ⟨s, (g4 s).1 h1, h2⟩
    · rintro ⟨s, h1, h2⟩; exact ⟨s, (g4 s).2 h1, h2⟩
/-- some slips alone -/
theorem PM.fit_part {sec till : Nat → Int} (hs : ∀ s, 0 ≤ sec s) {p m m' : Nat} (hp : PM.Part m' m) (h : PM.Fit sec till p m) : PM.Fit sec till p m' := by
  obtain ⟨rows, g1, g2, g3, g4⟩ := (PM.fit_rows p m).1 h
  have ef : ∀ rows : List (List Nat), (rows.map (List.filter fun s => m'.testBit s)).flatten = rows.flatten.filter fun s => m'.testBit s := fun rows => by rw [List.filter_flatten]
  refine (PM.fit_rows p m').2 ⟨rows.map (List.filter fun s => m'.testBit s), by simp [g1], fun r hr => ?_, ?_, fun t => ?_⟩
  · obtain ⟨r0, h0, rfl⟩ := List.mem_map.1 hr
    exact PM.inT_sub hs List.filter_sublist 0 (g2 r0 h0)
  · rw [ef]
    exact g3.sublist List.filter_sublist
  · rw [ef, List.mem_filter, g4]
    exact ⟨fun h => h.2, fun h => ⟨hp t h, h⟩⟩
/-- how many are late: no more than of any others that do -/
theorem late_least {f : Floor} {p : Nat} {y : List Int} (h1 : y.Sublist (slipsF f)) (h2 : canLess f p y = true) : (lateF f p).length ≤ y.length := by
  have := (late_top (f := f) p).first y h1 h2
  cases hb : decide (y.length < (lateF f p).length) with
  | true =>
    exfalso
    unfold PM.prefB at this
    rw [hb] at this
    simp at this
  | false => simpa using hb
theorem less_late {f : Floor} {y : List Int} (i : Nat) : (lessF (allF f) (setF (y.map Int.toNat))).testBit i = true ↔ i < f.slips.length ∧ i ∉ y.map Int.toNat := by
  rw [PM.less_bit, all_bit, PM.setF_bit]
  simp
/-- an easier floor, of the same slips, or the first of them -/
structure Easier (f x : Floor) : Prop where
  vf : validB f = true
  vx : validB x = true
  len : x.slips.length ≤ f.slips.length
  sec : ∀ s, s < x.slips.length → secF x s ≤ secF f s
  due : ∀ s, s < x.slips.length → dueF f s ≤ dueF x s
theorem Easier.fit {f x : Floor} (h : Easier f x) {p m m' : Nat} (hm : ∀ t, m.testBit t = true ↔ t < x.slips.length ∧ m'.testBit t = true) (hf : PM.Fit (secF f) (dueF f) p m') : PM.Fit (secF x) (dueF x) p m := by
  have h1 : PM.Fit (secF f) (dueF f) p m := PM.fit_part (sec_nonneg h.vf) (fun t ht => ((hm t).1 ht).2) hf
  exact PM.fit_image (φ := id) (m' := m) (fun s t _ _ e => e) (fun s hs => ⟨h.sec s ((hm s).1 hs).1, h.due s ((hm s).1 hs).1⟩) (fun t => ⟨fun ht => ⟨t, ht, rfl⟩, fun ⟨s, hs, e⟩ => by cases e; exact hs⟩) h1
theorem Easier.can {f x : Floor} (h : Easier f x) {p : Nat} (hc : canF f p (allF f) = true) : canF x p (allF x) = true := by
  rw [can_fit h.vf p _ (all_in f)] at hc
  rw [can_fit h.vx p _ (all_in x)]
  refine h.fit (fun t => ?_) hc
  rw [all_bit, all_bit, decide_eq_true_eq, decide_eq_true_eq]
  have := h.len
  exact ⟨fun k => ⟨k, by omega⟩, fun k => k.1⟩
theorem can_up {f : Floor} (hv : validB f = true) {p q m : Nat} (hm : ∀ i, m.testBit i = true → i < f.slips.length) (hpq : p ≤ q) (h : canF f p m = true) : canF f q m = true := by
  rw [can_fit hv p m hm] at h
  rw [can_fit hv q m hm]
  exact PM.fit_le h hpq
/-- with an easier floor, and no fewer pickers, no more slips are late -/
theorem Easier.late {f x : Floor} (h : Easier f x) {p q : Nat} (hpq : p ≤ q) : (lateF x q).length ≤ (lateF f p).length := by
  obtain ⟨k1, k2, _⟩ := late_top (f := f) p
  have hy : ((lateF f p).filter fun n : Int => decide (n < (x.slips.length : Int))).Sublist (slipsF x) := by
    have h1 : ((lateF f p).filter fun n : Int => decide (n < (x.slips.length : Int))).Sublist ((slipsF f).filter fun n : Int => decide (n < (x.slips.length : Int))) := k1.filter _
    have h2 : (slipsF f).filter (fun n : Int => decide (n < (x.slips.length : Int))) = slipsF x := by
      refine lt_unique ((slips_lt f).sublist List.filter_sublist) (slips_lt x) fun n => ?_
      rw [List.mem_filter, slips_mem, slips_mem, decide_eq_true_eq]
      have := h.len
      omega
    rw [h2] at h1
    exact h1
  have hc : canLess x q ((lateF f p).filter fun n : Int => decide (n < (x.slips.length : Int))) = true := by
    have hin : ∀ i, (lessF (allF x) (setF (((lateF f p).filter fun n : Int => decide (n < (x.slips.length : Int))).map Int.toNat))).testBit i = true → i < x.slips.length := fun i hi => ((less_late i).1 hi).1
    unfold canLess at k2 ⊢
    refine can_up h.vx hin hpq ?_
    rw [can_fit h.vf p _ (fun i hi => ((less_late i).1 hi).1)] at k2
    rw [can_fit h.vx p _ hin]
    refine h.fit (fun t => ?_) k2
    rw [less_late, less_late]
    have hlen := h.len
    constructor
    · rintro ⟨a1, a2⟩
      refine ⟨a1, by omega, fun hm => a2 ?_⟩
      obtain ⟨n, hn, e⟩ := List.mem_map.1 hm
      have hn0 := (slips_mem f n).1 (k1.subset hn)
      exact List.mem_map.2 ⟨n, List.mem_filter.2 ⟨hn, by rw [decide_eq_true_eq]; omega⟩, e⟩
    · rintro ⟨a1, a2, a3⟩
      refine ⟨a1, fun hm => a3 ?_⟩
      obtain ⟨n, hn, e⟩ := List.mem_map.1 hm
      exact List.mem_map.2 ⟨n, (List.mem_filter.1 hn).1, e⟩
  have := late_least hy hc
  have := List.length_filter_le (fun n : Int => decide (n < (x.slips.length : Int))) (lateF f p)
  omega
theorem Easier.refl {f : Floor} (hv : validB f = true) : Easier f f := ⟨hv, hv, Nat.le_refl _, fun _ _ => Int.le_refl _, fun _ _ => Int.le_refl _⟩
/-- and no more pickers are needed -/
theorem Easier.few {f x : Floor} (h : Easier f x) : fewF f = none ∨ ∃ p q, fewF f = some p ∧ fewF x = some q ∧ q ≤ p := by
  cases hf : fewF f with
  | none => exact .inl rfl
  | some p =>
    right
    obtain ⟨p1, p5, hc⟩ := few_can hf
    have hx := h.can hc
    cases hq : fewF x with
    | none =>
      have := few_no hq p p1 p5
      rw [hx] at this; cases this
    | some q =>
      refine ⟨p, q, rfl, rfl, ?_⟩
      apply Classical.byContradiction
      intro hn
      have := few_below hq p p1 (by omega)
      rw [hx] at this; cases this
/-- how many steps a slip takes, of the distances -/
theorem steps_dist {f : Floor} (hv : validB f = true) {k : Nat} {s : SSlip} (hs : f.slips[k]? = some s) : 1 ≤ f.carry.toNat ∧ stepsF f s = PM.stD f.carry.toNat (distF f s.lines).length (distF f s.lines) ∧ (distF f s.lines).Pairwise (· ≥ ·) ∧ ∀ d ∈ distF f s.lines, 0 ≤ d ∧ d ≤ (500 : Nat) := by
  have hf := fine hv
  obtain ⟨h1, h2, h3, h4⟩ := slip_lines hv hs
  obtain ⟨c, hc⟩ : ∃ c : Nat, f.carry = c := ⟨f.carry.toNat, by have := hf.carry1; omega⟩
  have hc1 : 1 ≤ c := by have := hf.carry1; omega
  refine ⟨by omega, ?_, dist_sorted f _ (far_sorted hv h1), fun d hd => ?_⟩
  · rw [← steps_same hv hs, rstepsF, state_fold, hc, Int.toNat_natCast]
    have e1 := fold_st hc1 (distF f s.lines) 0 0
    rw [List.drop_zero, Int.zero_add] at e1
    exact e1
  · obtain ⟨x, hx, rfl⟩ := dist_mem f _ d hd
    exact fk_range hv x.shelf.toNat
theorem get_app_le {a b a' b' : List Int} (hl : a.length = a'.length) (h1 : ∀ (i : Nat) (x y : Int), a[i]? = some x → a'[i]? = some y → x ≤ y) (h2 : ∀ (i : Nat) (x y : Int), b[i]? = some x → b'[i]? = some y → x ≤ y) : ∀ (i : Nat) (x y : Int), (a ++ b)[i]? = some x → (a' ++ b')[i]? = some y → x ≤ y := fun i x y hx hy => by
  by_cases hi : i < a.length
  · rw [List.getElem?_append_left hi] at hx
    rw [List.getElem?_append_left (by omega)] at hy
    exact h1 i x y hx hy
  · rw [List.getElem?_append_right (by omega)] at hx
    rw [List.getElem?_append_right (by omega)] at hy
    rw [← hl] at hy
    exact h2 _ x y hx hy
theorem dist_near {f x : Floor} : ∀ (l : List SLine), (∀ y ∈ l, farF x y ≤ farF f y) → (distF x l).length = (distF f l).length ∧ ∀ (i : Nat) (a b : Int), (distF x l)[i]? = some a → (distF f l)[i]? = some b → a ≤ b
  | [], _ => ⟨rfl, fun i a b h => by simp [distF] at h⟩
  | y :: l, h => by
    obtain ⟨i1, i2⟩ := dist_near l fun z hz => h z (by simp [hz])
    rw [distF, distF]
    refine ⟨by simp [i1], get_app_le i1 i2 fun i a b ha hb => ?_⟩
    rw [List.getElem?_replicate] at ha hb
    have := h y (by simp)
    split at ha <;> split at hb <;> simp at ha hb <;> omega
/-- nearer shelves, a greater Carry: no more steps -/
theorem steps_easier {f x : Floor} (hv : validB f = true) (hx : validB x = true) {k : Nat} {s s' : SSlip} (hs : f.slips[k]? = some s) (hs' : x.slips[k]? = some s') (hl : s'.lines = s.lines) (hc : f.carry ≤ x.carry) (hfar : ∀ y ∈ s.lines, farF x y ≤ farF f y) : stepsF x s' ≤ stepsF f s := by
  obtain ⟨a1, a2, a3, a4⟩ := steps_dist hv hs
  obtain ⟨b1, b2, b3, b4⟩ := steps_dist hx hs'
  rw [a2, b2, hl]
  obtain ⟨d1, d2⟩ := dist_near s.lines hfar
  rw [d1]
  have h1 := PM.st_near (C := x.carry.toNat) (distF f s.lines).length (distF x s.lines) (distF f s.lines) d1 d2
  have h2 := PM.st_carry a1 (show f.carry.toNat ≤ x.carry.toNat by omega) 500 (distF f s.lines).length (distF f s.lines) (Nat.le_refl _) a3 a4
  omega
theorem secs_easier {f x : Floor} (l : List SLine) {st st' : Int} (hst : 0 ≤ st' ∧ st' ≤ st) (hi : x.shi ≤ f.shi) (h0 : 0 ≤ f.shi) (hm : ∀ y ∈ l, 0 ≤ y.many) (hp : ∀ y ∈ l, ((x.picks[y.shelf.toNat]?).getD (0, 0)).2 ≤ ((f.picks[y.shelf.toNat]?).getD (0, 0)).2) : ∀ k : Nat, secsKHi x l st' k ≤ secsKHi f l st k
  | 0 => by
    show st' * x.shi ≤ st * f.shi
    have h1 : st' * x.shi ≤ st' * f.shi := Int.mul_le_mul_of_nonneg_left hi hst.1
    have h2 : st' * f.shi ≤ st * f.shi := Int.mul_le_mul_of_nonneg_right hst.2 h0
    omega
  | k + 1 => by
    have ih := secs_easier l hst hi h0 hm hp k
    rw [secsKHi, secsKHi]
    cases hk : l[k]? with
    | none => simp only; omega
    | some y =>
      have hy := List.mem_of_getElem? hk
      have := Int.mul_le_mul_of_nonneg_left (hp y hy) (hm y hy)
      simp only
      omega
/-- all of it: no slip takes longer -/
theorem takes_easier {f x : Floor} (hv : validB f = true) (hx : validB x = true) {k : Nat} {s s' : SSlip} (hs : f.slips[k]? = some s) (hs' : x.slips[k]? = some s') (hl : s'.lines = s.lines) (hc : f.carry ≤ x.carry) (hfar : ∀ y ∈ s.lines, farF x y ≤ farF f y) (hi : x.shi ≤ f.shi) (hp : ∀ y ∈ s.lines, ((x.picks[y.shelf.toNat]?).getD (0, 0)).2 ≤ ((f.picks[y.shelf.toNat]?).getD (0, 0)).2) : (takesF x s').2 ≤ (takesF f s).2 := by
  have h1 := steps_easier hv hx hs hs' hl hc hfar
  have h2 := stepsF_range (fine hx) (List.mem_of_getElem? hs')
  obtain ⟨_, h3, _⟩ := slip_lines hv hs
  have h4 := (valid_parts hv).2.2.2.1
  show secsKHi x s'.lines _ s'.lines.length ≤ secsKHi f s.lines _ s.lines.length
  rw [hl]
  exact secs_easier s.lines ⟨h2.1, h1⟩ hi (by omega) (fun y hy => by have := (h3 y hy).2.1; omega) hp _
theorem secF_at {f : Floor} {k : Nat} {s : SSlip} (hs : f.slips[k]? = some s) : secF f k = (takesF f s).2 := by
  unfold secF secsL
  rw [List.getElem?_map, hs]
  rfl
theorem dueF_at {f : Floor} {k : Nat} {s : SSlip} (hs : f.slips[k]? = some s) : dueF f k = s.till := by
  rw [← till_due, tillQ_at hs]
end Go.Proofs.YtomgnpfpaodpiaaDoor

/- The least Until: what it says of rosters. Plain mathematics. -/
namespace Go.Proofs.YtomgnpfpaodpiaaDoor
open Go Go.RowKit
set_option maxHeartbeats 2000000
theorem few_at (f : Floor) (A : Option Addr) (C k : Nat) (u : Int) : fewF (withF f A C k u) = fewF (tillF f k u) := by
  have hl : allF (withF f A C k u) = allF (tillF f k u) := by unfold allF; simp [withF]
  unfold fewF
  rw [hl]
  congr 1
  funext p
  exact can_at f A C k u p _
theorem rosterV_len (f : Floor) (hv : validB f = true) : (fewF f = none ∧ RosterV f = ([], 4)) ∨ ∃ p : Nat, fewF f = some p ∧ (RosterV f).2 = 0 ∧ (RosterV f).1.length = p := by
  have hc : checkV f = 0 := by unfold checkV; rw [if_pos hv]
  cases h : fewF f with
  | none => left; refine ⟨rfl, ?_⟩; unfold RosterV; rw [if_pos hc, h]
  | some p =>
    right
    have : RosterV f = (rosterF f p (allF f), 0) := by unfold RosterV; rw [if_pos hc, h]
    rw [this]
    exact ⟨p, rfl, rfl, roster_len f p _⟩
/-- with an Until in which so many have all in time, and which is no later, it is just so many -/
theorem few_till {f : Floor} (hv : validB f = true) {k p : Nat} {s : SSlip} (hs : f.slips[k]? = some s) (hp : fewF f = some p) {u : Int} (h0 : 0 ≤ u) (h1 : u ≤ s.till) (he : enoughF f k p u = true) : fewF (tillF f k u) = some p := by
  obtain ⟨p1, p5, _⟩ := few_can hp
  have ht := ((valid_parts hv).2.2.2.2.2.2 k s hs).1
  have hvt := valid_till hv none 0 k (u := u) h0 (by omega)
  refine few_some p1 p5 (fun j j1 hj => ?_) ?_
  · cases hc : canF (tillF f k u) j (allF (tillF f k u)) with
    | false => rfl
    | true =>
      exfalso
      have hb := few_below hp j j1 hj
      rw [all_till, can_fit hvt j _ (fun i hi => by rw [till_len]; exact all_in f i hi)] at hc
      have : canF f j (allF f) = true := by
        rw [can_fit hv j _ (all_in f)]
        refine PM.fit_mono (fun s' => by rw [sec_till]; exact Int.le_refl _) (fun s' => ?_) j _ hc
        rw [due_till]
        split
        · rename_i hi
          rw [hi.1, dueF_at hs]
          exact h1
        · exact Int.le_refl _
      rw [hb] at this; cases this
  · rw [all_till]
    exact he
theorem enough_self {f : Floor} {k p : Nat} {s : SSlip} (hv : validB f = true) (hs : f.slips[k]? = some s) (hp : fewF f = some p) : enoughF f k p s.till = true := by
  have ht := ((valid_parts hv).2.2.2.2.2.2 k s hs).1
  rw [enough_fit hv k p ht.1 ht.2]
  have hcan := (few_can hp).2.2
  rw [can_fit hv p (allF f) (all_in f)] at hcan
  have : dueF (tillF f k s.till) = dueF f := funext fun i => by
    rw [due_till]
    split
    · rename_i hi
      rw [hi.1, dueF_at hs]
    · rfl
  rw [this]
  exact hcan
/-- what Spare tells of rosters -/
theorem spared {f : Floor} (hv : validB f = true) {k : Nat} {s : SSlip} (hs : f.slips[k]? = some s) {v c : Int} (h : SpareA f k v c) :
    (c = 4 ∧ v = 0 ∧ RosterV f = ([], 4)) ∨ (c = 0 ∧ ∃ p r : Nat, v = r ∧ (RosterV f).2 = 0 ∧ (RosterV f).1.length = p ∧ (r : Int) ≤ s.till ∧ (∀ u : Int, (r : Int) ≤ u → u ≤ s.till → ∀ A C, (RosterV (withF f A C k u)).2 = 0 ∧ (RosterV (withF f A C k u)).1.length = p) ∧ (1 ≤ r → ∀ A C, (RosterV (withF f A C k ((r : Int) - 1))).2 = 4 ∨ ((RosterV (withF f A C k ((r : Int) - 1))).2 = 0 ∧ p < (RosterV (withF f A C k ((r : Int) - 1))).1.length))) := by
  have hk := (List.getElem?_eq_some_iff.1 hs).1
  have ht := ((valid_parts hv).2.2.2.2.2.2 k s hs).1
  have h0 : checkSlipV f k = 0 := by
    unfold checkSlipV
    rw [if_pos hv, if_pos]
    unfold slipB
    simp
    omega
  rcases h with ⟨h1, _⟩ | ⟨_, h1, h2, h3⟩ | ⟨_, hc, k', p, t, r, s', hk', hs', ht', hp, hv', hi⟩
  · exact absurd h0 h1
  · left
    refine ⟨h3, h2, ?_⟩
    rcases rosterV_len f hv with ⟨_, h4⟩ | ⟨p, h4, _⟩
    · exact h4
    · rw [h1] at h4; cases h4
  · right
    obtain rfl : k = k' := by omega
    rw [hs] at hs'
    obtain rfl := Option.some.inj hs'
    have hself := enough_self hv hs hp
    have hself2 : enoughF f k p (t : Nat) = true := by rw [← ht']; exact hself
    have hr : enoughF f k p r = true := by
      by_cases hlt : r < t
      · exact hi.enough hlt
      · obtain rfl : r = t := by have := hi.le; omega
        exact hself2
    have hle := hi.le
    rcases rosterV_len f hv with ⟨h4, _⟩ | ⟨p', h4, h5, h6⟩
    · rw [hp] at h4; cases h4
    · rw [hp] at h4
      obtain rfl := Option.some.inj h4
      refine ⟨hc, p, r, hv', h5, h6, by omega, fun u h7 h8 A C => ?_, fun h7 A C => ?_⟩
      · have he := enough_mono hv k p (show (0 : Int) ≤ r by omega) h7 (by omega) hr
        have hf := few_till hv hs hp (by omega) h8 he
        have hvx := valid_till hv A C k (u := u) (by omega) (by omega)
        rcases rosterV_len _ hvx with ⟨g1, _⟩ | ⟨q, g1, g2, g3⟩
        · rw [few_at, hf] at g1; cases g1
        · rw [few_at, hf] at g1
          obtain rfl := Option.some.inj g1
          exact ⟨g2, g3⟩
      · have hvx := valid_till hv A C k (u := (r : Int) - 1) (by omega) (by omega)
        have hno : enoughF f k p ((r : Int) - 1) = false := by
          have := hi.under (r - 1) (by omega)
          rwa [show ((r - 1 : Nat) : Int) = (r : Int) - 1 by omega] at this
        rcases rosterV_len _ hvx with ⟨_, g1⟩ | ⟨q, g1, g2, g3⟩
        · left; rw [g1]
        · right
          refine ⟨g2, ?_⟩
          rw [g3]
          rw [few_at] at g1
          apply Classical.byContradiction
          intro hn
          have hq := (few_can g1).2.2
          rw [all_till] at hq
          have hvt := valid_till hv none 0 k (u := (r : Int) - 1) (by omega) (by omega)
          have hq2 := can_up hvt (q := p) (m := allF f) (fun i hi => by rw [till_len]; exact all_in f i hi) (by omega) hq
          unfold enoughF at hno
          rw [hq2] at hno
          cases hno
end Go.Proofs.YtomgnpfpaodpiaaDoor

