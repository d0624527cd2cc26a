/- Contract of done. -/
import Derived.Test.YtomgnpfpaodpiaaDoorH17
set_option linter.unusedVariables false
set_option linter.unusedSimpArgs false
namespace Go.Proofs.YtomgnpfpaodpiaaDoor
open Go Go.RowKit
set_option maxHeartbeats 2000000
theorem madeCells_rep (z : Array Value) (v : Value) (hz : ∀ i, i < z.size → z[i]! = v) (h0 : 0 < z.size) (n : Nat) : madeCells z n = (List.replicate n v).toArray := by
  apply Array.ext
  · simp [madeCells]
  · intro i h1 h2
    simp only [madeCells, Array.getElem_map, Array.getElem_range]
    rw [hz _ (Nat.mod_lt _ h0)]
    simp
theorem info_span : (Tryd.prog.info? 24).map (fun i => (i.zero, i.size, i.bytes)) = some (some (.agg #[vi 0, vi 0]), 2, 16) := by kernel_rfl
theorem mkSpans (n : Nat) (hn : n ≤ 1000) (w : World) : (Instr.makeSlice 25 (.int .i64 n) (.int .i64 n)).run Tryd.prog w = .ok (.slice (some ⟨w.heap.size, 0, none⟩) n n) (w.alloc (.cells (List.replicate (n * 2) (vi 0)).toArray 24)) := by
  obtain ⟨i0, hi, hy0, hy1, hy2⟩ := info_parts info_span
  have := run_make (P := Tryd.prog) w 25 24 i0 _ Tryd.underlying25 hi hy0 .i64 .i64 n n (by omega) (by omega) (by rw [hy2]; omega) (by omega)
  rw [this, hy1, Int.toNat_natCast, madeCells_rep _ (vi 0)]
  · intro i hi
    have : i = 0 ∨ i = 1 := by simp [Value.cells] at hi; omega
    rcases this with rfl | rfl <;> rfl
  · simp [Value.cells]
theorem mkInts (n : Nat) (hn : n ≤ 1000) (w : World) : (Instr.makeSlice 22 (.int .i64 n) (.int .i64 n)).run Tryd.prog w = .ok (.slice (some ⟨w.heap.size, 0, none⟩) n n) (w.alloc (.cells (List.replicate n (vi 0)).toArray 3)) := by
  obtain ⟨i0, hi, hy0, hy1, hy2⟩ := info_parts info_int
  have := run_make (P := Tryd.prog) w 22 3 i0 _ Tryd.underlying22 hi hy0 .i64 .i64 n n (by omega) (by omega) (by rw [hy2]; omega) (by omega)
  rw [this, hy1, Int.toNat_natCast, Nat.mul_one, madeCells_rep _ (vi 0)]
  · intro i hi
    have : i = 0 := by simp [Value.cells] at hi; omega
    subst this; rfl
  · simp [Value.cells]
abbrev flatS (l : List (Int × Int)) : List Value := l.flatMap spanC
theorem flatS_rep (n : Nat) : flatS (List.replicate n (0, 0)) = List.replicate (n * 2) (vi 0) := by
  induction n with
  | zero => rfl
  | succ n ih =>
    rw [List.replicate_succ, show (n + 1) * 2 = n * 2 + 1 + 1 by omega, List.replicate_succ, List.replicate_succ, ← ih]
    rfl
theorem flatS_set : ∀ (l : List (Int × Int)) (k : Nat) (p : Int × Int), k < l.length → flatS (l.set k p) = ((flatS l).set (k * 2) (vi p.1)).set (k * 2 + 1) (vi p.2)
  | [], _, _, h => by simp at h
  | a :: l, 0, p, _ => by simp [flatS, spanC]
  | a :: l, k + 1, p, h => by
    have ih := flatS_set l k p (by simpa using h)
    have e1 : flatS ((a :: l).set (k + 1) p) = vi a.1 :: vi a.2 :: flatS (l.set k p) := rfl
    have e2 : flatS (a :: l) = vi a.1 :: vi a.2 :: flatS l := rfl
    rw [e1, e2, ih, show (k + 1) * 2 = k * 2 + 1 + 1 by omega]
    simp
theorem flatS_at : ∀ (l : List (Int × Int)) (k : Nat) (p : Int × Int), l[k]? = some p → (flatS l)[k * 2]? = some (vi p.1) ∧ (flatS l)[k * 2 + 1]? = some (vi p.2)
  | [], _, _, h => by simp at h
  | a :: l, 0, p, h => by simp at h; subst h; simp [flatS, spanC]
  | a :: l, k + 1, p, h => by
    have ih := flatS_at l k p (by simpa using h)
    have e2 : flatS (a :: l) = vi a.1 :: vi a.2 :: flatS l := rfl
    rw [e2, show (k + 1) * 2 = k * 2 + 1 + 1 by omega]
    simpa using ih
/-- how long a slip takes -/
def tkF (f : Floor) (x : Int) : Int × Int := match f.slips[x.toNat]? with | some s => takesF f s | none => (0, 0)
def addS (p q : Int × Int) : Int × Int := (p.1 + q.1, p.2 + q.2)
def stepD (tk : Int → Int × Int) (st : (Int × Int) × List (Int × Int)) (x : Int) : (Int × Int) × List (Int × Int) := (addS st.1 (tk x), st.2.set x.toNat (addS st.1 (tk x)))
def rowD (tk : Int → Int × Int) (out : List (Int × Int)) (row : List Int) : List (Int × Int) := (row.foldl (stepD tk) ((0, 0), out)).2
def doneF (f : Floor) (rows : List (List Int)) : List (Int × Int) := rows.foldl (rowD (tkF f)) (List.replicate f.slips.length (0, 0))
theorem tk_range {f : Floor} (hv : validB f = true) (x : Int) : (0 ≤ (tkF f x).1 ∧ (tkF f x).1 ≤ 20000000) ∧ (0 ≤ (tkF f x).2 ∧ (tkF f x).2 ≤ 20000000) := by
  unfold tkF
  cases hs : f.slips[x.toNat]? with
  | none => simp
  | some s =>
    have hm := List.mem_of_getElem? hs
    have hf := fine hv
    have hsl := (hf.slips s hm).2.2
    have hst := stepsF_range hf hm
    have h1 := secsLo_range hv hsl (by omega : 0 ≤ stepsF f s ∧ stepsF f s ≤ 1000000) s.lines.length (Nat.le_refl _)
    have h2 := secsHi_range hv hsl (by omega : 0 ≤ stepsF f s ∧ stepsF f s ≤ 1000000) s.lines.length (Nat.le_refl _)
    have h3 := (linesB_ok hsl).2.1
    simp only [takesF, secsFLo, secsFHi]
    omega
theorem row_len (tk : Int → Int × Int) : ∀ (row : List Int) (st : (Int × Int) × List (Int × Int)), (row.foldl (stepD tk) st).2.length = st.2.length
  | [], _ => rfl
  | x :: row, st => by
    rw [List.foldl_cons, row_len tk row]
    simp [stepD]
theorem done_len (tk : Int → Int × Int) : ∀ (rows : List (List Int)) (out : List (Int × Int)), (rows.foldl (rowD tk) out).length = out.length
  | [], _ => rfl
  | r :: rows, out => by
    rw [List.foldl_cons, done_len tk rows, rowD, row_len]
theorem now_range {tk : Int → Int × Int} (h : ∀ x, (0 ≤ (tk x).1 ∧ (tk x).1 ≤ 20000000) ∧ (0 ≤ (tk x).2 ∧ (tk x).2 ≤ 20000000)) : ∀ (row : List Int) (st : (Int × Int) × List (Int × Int)), (st.1.1 ≤ (row.foldl (stepD tk) st).1.1 ∧ (row.foldl (stepD tk) st).1.1 ≤ st.1.1 + 20000000 * row.length) ∧ (st.1.2 ≤ (row.foldl (stepD tk) st).1.2 ∧ (row.foldl (stepD tk) st).1.2 ≤ st.1.2 + 20000000 * row.length)
  | [], st => by simp
  | x :: row, st => by
    have ih := now_range h row (stepD tk st x)
    have hx := h x
    rw [List.foldl_cons, List.length_cons]
    simp only [stepD, addS] at ih ⊢
    omega
end Go.Proofs.YtomgnpfpaodpiaaDoor

/- Contract of done: the walk. -/
namespace Go.Proofs.YtomgnpfpaodpiaaDoor
open Go Go.RowKit
set_option maxHeartbeats 2000000
theorem takes_tk {f : Floor} (hv : validB f = true) {x : Int} (hx : slipB f x = true) {a b : Int} (hab : tkF f x = (a, b)) (w : World) (h : FloorAt w w.heap.size f) :
    Calls Tryd.prog 61 #[f.val, vi x] w fun e w' => e = .returned (.agg #[vi a, vi b]) ∧ Below w.heap.size w w' := by
  unfold slipB at hx
  simp only [Bool.and_eq_true, decide_eq_true_eq] at hx
  have hk : x.toNat < f.slips.length := by omega
  have hs : f.slips[x.toNat]? = some f.slips[x.toNat] := List.getElem?_eq_getElem hk
  have := takes_any f hv x.toNat _ hs w h
  unfold tkF at hab
  rw [hs] at hab
  simp only at hab
  rw [hab, show ((x.toNat : Nat) : Int) = x by omega] at this
  exact this
theorem row_take (tk : Int → Int × Int) {l : List Int} {j : Nat} {x : Int} (st : (Int × Int) × List (Int × Int)) (h : l[j]? = some x) : (l.take (j + 1)).foldl (stepD tk) st = stepD tk ((l.take j).foldl (stepD tk) st) x := by
  obtain ⟨hj, rfl⟩ := List.getElem?_eq_some_iff.1 h
  rw [List.take_succ_eq_append_getElem hj, List.foldl_append]
  rfl
set_option maxRecDepth 100000 in
theorem done_any (f : Floor) (hv : validB f = true) (A : Option Addr) (cap : Nat) (ts : List SRow) (hrow : ∀ t ∈ ts, t.slips.length ≤ 9 ∧ ∀ x ∈ t.slips, slipB f x = true) (w : World) (h : FloorAt w w.heap.size f) (ht : RosterAt w w.heap.size A cap ts) :
    Calls Tryd.prog 66 #[f.val, .slice A ts.length cap] w fun e w' => ∃ b, e = .returned (.slice (some ⟨b, 0, none⟩) f.slips.length f.slips.length) ∧ w.heap.size ≤ b ∧ CellsBox w' b 24 (flatS (doneF f (ts.map SRow.slips))) ∧ Below w.heap.size w w' := by
  have htl := ht.rows.lens
  have h9 := (fine hv).slips9
  have HF := Lib.hid h
  have HT := Lib.hid ht
  have HTK := Lib.hid (fun (x a b : Int) hx (hab : tkF f x = (a, b)) (W : World) hW => takes_tk hv (x := x) hx hab W hW)
  have HRG := Lib.hid (tk_range hv)
  have HROW := Lib.hid hrow
  obtain ⟨G, hG⟩ : ∃ G : Nat → List (Int × Int), G = fun k => ((ts.map SRow.slips).take k).foldl (rowD (tkF f)) (List.replicate f.slips.length (0, 0)) := ⟨_, rfl⟩
  have G0 : Hid (G 0 = List.replicate f.slips.length (0, 0)) := by unfold Hid; rw [hG]; rfl
  have GL : Hid (∀ k, (G k).length = f.slips.length) := fun k => by rw [hG]; simp only; rw [done_len]; simp
  have GS : Hid (∀ (k : Nat) (t : SRow), ts[k]? = some t → G (k + 1) = rowD (tkF f) (G k) t.slips) := fun k t hk => by
    rw [hG]
    obtain ⟨hk2, rfl⟩ := List.getElem?_eq_some_iff.1 hk
    simp only
    rw [List.take_succ_eq_append_getElem (by simpa using hk2), List.foldl_append]
    simp
  have GA : Hid (G ts.length = doneF f (ts.map SRow.slips)) := by
    unfold Hid; rw [hG]
    simp only
    rw [show ts.length = (ts.map SRow.slips).length by simp, List.take_length]
    rfl
  obtain ⟨R, hR⟩ : ∃ R, R = doneF f (ts.map SRow.slips) := ⟨_, rfl⟩
  obtain ⟨tk, htk⟩ : ∃ tk, tk = tkF f := ⟨_, rfl⟩
  obtain ⟨sb, hsb⟩ : ∃ sb, sb = slipB f := ⟨_, rfl⟩
  have HSB : Hid (∀ x, sb x = true → 0 ≤ x ∧ x < f.slips.length) := fun x hx => by
    rw [hsb] at hx; unfold slipB at hx
    simpa using hx
  rw [← hR] at GA ⊢
  rw [← htk] at GS HRG HTK
  rw [← hsb] at HROW HTK
  clear hG hR htk hsb hrow h ht hv
  have hmk := mkSpans f.slips.length (by omega)
  go_enter Tryd.func66, Tryd.ntmps66
  go_wp2_with fail
  obtain ⟨V0, hV0⟩ : ∃ V0, V0 = (w.alloc (.cells #[.slice f.fA f.far.length f.fC, vi f.slo, vi f.shi, .slice f.pA f.picks.length f.pC, vi f.carry, .slice f.sA f.slips.length f.sC] 89)).alloc (.cells (Array.replicate (f.slips.length * 2) (vi 0)) 24) := ⟨_, rfl⟩
  have hb0 : Below w.heap.size w V0 := by rw [hV0]; (repeat (first | exact Below.refl _ _ | refine Below.setCell ?_ (by first | omega | (simp; omega) | (simp; done)) _ | refine Below.alloc ?_ (by first | omega | (simp; omega) | (simp; done)) _ | refine Below.drew ?_ | refine below_drewN ?_ _ | refine Below.trans ?_ (Below.mono (by assumption) (by first | omega | (simp; omega) | (simp; done)))))
  have XF : Hid (CellsBox V0 w.heap.size 89 f.cells) := by unfold Hid; rw [hV0]; exact (CellsBox.new w 89 f.cells).alloc _
  have XR : Hid (CellsBox V0 (w.heap.size + 1) 24 (flatS (G 0))) := by
    unfold Hid; rw [hV0, G0.out, flatS_rep]
    have := CellsBox.new (w.alloc (.cells #[.slice f.fA f.far.length f.fC, vi f.slo, vi f.shi, .slice f.pA f.picks.length f.pC, vi f.carry, .slice f.sA f.slips.length f.sC] 89)) 24 (List.replicate (f.slips.length * 2) (vi 0))
    simp only [List.toArray_replicate, World.size_alloc] at this
    exact this
  rw [← hV0]
  clear hV0 hmk
  go_loopw [7, 8, 10, 18, 25] (fun a b c i j wr => ∃ k : Nat, k ≤ ts.length ∧ i = .int .i64 k ∧ Below w.heap.size w wr ∧ Hid (CellsBox wr w.heap.size 89 f.cells) ∧ Hid (CellsBox wr (w.heap.size + 1) 24 (flatS (G k)))) (fun _ _ _ i _ _ => ts.length - (intOf i).toNat)
  case atStart => exact ⟨0, Nat.zero_le _, rfl, hb0, XF, XR⟩
  clear XF XR hb0 V0
  obtain ⟨k, hk, rfl, hB, XF, XR⟩ := hrel
  obtain ⟨wo, hwo⟩ : ∃ wo, wo = wr := ⟨_, rfl⟩
  subst hwo
  have hz := hB.size
  have zR := XR.out.lt
  by_cases hlt : k < ts.length
  · obtain ⟨t, ht⟩ : ∃ t, ts[k]? = some t := ⟨_, List.getElem?_eq_getElem hlt⟩
    have hTr := HT.out.to hB
    obtain ⟨bb, off, rfl, hbb, x0⟩ := row1 hTr.rows.row ht rfl
    have HTL := Lib.hid (hTr.each t (List.mem_of_getElem? ht))
    have hln := HTL.out.lens
    have HGk := Lib.hid (GS.out k t ht)
    obtain ⟨ht9, htB⟩ := HROW.out t (List.mem_of_getElem? ht)
    have HTB := Lib.hid htB
    have zbb : bb < wo.heap.size := cell_lt x0
    have hkI : (k : Int) < ts.length := by omega
    have h0k : (0 : Int) ≤ k := by omega
    have HTM := Lib.hid (List.mem_of_getElem? ht)
    clear ht hTr htB
    obtain ⟨tA, tC, tl⟩ := t
    simp only at HTL HGk hln ht9 HTB
    replace x0 : wo.cell? ⟨bb, off + k, none⟩ = some (.slice tA tl.length tC) := x0
    obtain ⟨S, hS⟩ : ∃ S : Nat → (Int × Int) × List (Int × Int), S = fun j => (tl.take j).foldl (stepD tk) ((0, 0), G k) := ⟨_, rfl⟩
    have S0 : Hid (S 0 = ((0, 0), G k)) := by unfold Hid; rw [hS]; rfl
    have SS : Hid (∀ (j : Nat) (x : Int), tl[j]? = some x → S (j + 1) = stepD tk (S j) x) := fun j x hx => by rw [hS]; exact row_take tk _ hx
    have SA : Hid ((S tl.length).2 = G (k + 1)) := by unfold Hid; rw [hS, HGk.out]; simp only; rw [List.take_length]; rfl
    have SR : Hid (∀ j, (0 ≤ (S j).1.1 ∧ (S j).1.1 ≤ 180000000) ∧ (0 ≤ (S j).1.2 ∧ (S j).1.2 ≤ 180000000)) := fun j => by
      have := now_range HRG.out (tl.take j) ((0, 0), G k)
      have hl : (tl.take j).length ≤ 9 := by rw [List.length_take]; omega
      rw [hS]; simp only at this ⊢; omega
    have SL : Hid (∀ j, (S j).2.length = f.slips.length) := fun j => by rw [hS]; simp only; rw [row_len]; exact GL.out k
    clear hS HGk
    go_wp2_with fail
    refine (one_any 0 _).mono ?_
    rintro e W1 ⟨rfl, hb1⟩
    have hzb := hb1.size
    obtain ⟨V1, hV1⟩ : ∃ V1, V1 = W1.alloc (.cells #[vi 0, vi 0] 24) := ⟨_, rfl⟩
    have hbV : Below wo.heap.size wo V1 := by rw [hV1]; exact hb1.alloc hzb _
    have XB : Hid (CellsBox V1 W1.heap.size 24 [vi (S 0).1.1, vi (S 0).1.2]) := by unfold Hid; rw [hV1, S0.out]; exact CellsBox.new W1 _ _
    have XF1 := Lib.hid (XF.out.keep hbV)
    have XR1 : Hid (CellsBox V1 (w.heap.size + 1) 24 (flatS (S 0).2)) := by unfold Hid; rw [S0.out]; exact XR.out.keep hbV
    obtain ⟨b8, hb8⟩ : ∃ b8, b8 = W1.heap.size := ⟨_, rfl⟩
    have hb8z : wo.heap.size ≤ b8 := by omega
    go_wp2_with fail
    rw [← hV1, ← hb8]
    rw [← hb8] at XB
    clear hV1 hb8 hb1 x0 hzb W1
    go_loopw [10, 25] (fun c i w2 => ∃ j : Nat, j ≤ tl.length ∧ i = .int .i64 j ∧ Below w.heap.size w w2 ∧ wo.heap.size ≤ w2.heap.size ∧ Hid (CellsBox w2 b8 24 [vi (S j).1.1, vi (S j).1.2]) ∧ Hid (CellsBox w2 w.heap.size 89 f.cells) ∧ Hid (CellsBox w2 (w.heap.size + 1) 24 (flatS (S j).2)) ∧ Hid (Below wo.heap.size wo w2 ∨ True)) (fun _ i _ => tl.length - (intOf i).toNat)
    case atStart => exact ⟨0, Nat.zero_le _, rfl, hB.trans (hbV.mono hz), hbV.size, XB, XF1, XR1, .inr trivial⟩
    clear XB XF1 XR1 hbV V1
    obtain ⟨j, hj, rfl, hB2, hzz, XB, XF2, XR2, -⟩ := hrel
    have zR2 := XR2.out.lt
    have z82 := XB.out.lt
    by_cases hjl : j < tl.length
    · obtain ⟨x, hx⟩ : ∃ x, tl[j]? = some x := ⟨_, List.getElem?_eq_getElem hjl⟩
      obtain ⟨bc, oc, htA, hbc, y0⟩ := ints_at ((HT.out.to hB2).each _ HTM.out) hx
      simp only at htA
      subst htA
      have hsx : sb x = true := HTB.out x (List.mem_of_getElem? hx)
      obtain ⟨hx0, hx1⟩ := HSB.out x hsx
      obtain ⟨p, q, hpq⟩ : ∃ p q, tk x = (p, q) := ⟨_, _, rfl⟩
      have TK := Lib.hid (fun (W : World) hW => HTK.out x p q hsx hpq W hW)
      have HSn := Lib.hid (SS.out j x hx)
      have hSj := SR.out j
      have hLj := SL.out j
      obtain ⟨sj, hsj⟩ : ∃ sj, sj = S j := ⟨_, rfl⟩
      rw [← hsj] at XB XR2 HSn hSj hLj
      obtain ⟨⟨lo, hi⟩, out⟩ := sj
      simp only at XB XR2 hSj hLj
      obtain ⟨s, rfl⟩ : ∃ s : Nat, x = s := ⟨x.toNat, by omega⟩
      have HSn2 : Hid (S (j + 1) = ((lo + p, hi + q), out.set s (lo + p, hi + q))) := by unfold Hid; rw [HSn.out, stepD, hpq]; simp [addS]
      have hpr := HRG.out s
      rw [hpq] at hpr
      simp only at hpr
      have AD := Lib.hid (fun (W : World) => add_any lo hi p q (by omega) (by omega) (by omega) (by omega) W)
      have hjI : (j : Int) < tl.length := by omega
      have h0j : (0 : Int) ≤ j := by omega
      have zbc : bc < wr.heap.size := cell_lt y0
      have hs1 : s < f.slips.length := by omega
      obtain ⟨os, hos⟩ : ∃ os, out[s]? = some os := ⟨_, List.getElem?_eq_getElem (by omega)⟩
      obtain ⟨v0, v1⟩ := flatS_at out s os hos
      have HV0 := Lib.hid v0
      have HV1 := Lib.hid v1
      have f0 := XF2.out.cell (j := 0) rfl
      have f1 := XF2.out.cell (j := 1) rfl
      have f2 := XF2.out.cell (j := 2) rfl
      have f3 := XF2.out.cell (j := 3) rfl
      have f4 := XF2.out.cell (j := 4) rfl
      have f5 := XF2.out.cell (j := 5) rfl
      have zF := XF2.out.lt
      have b0 := XB.out.cell (j := 0) rfl
      have b1 := XB.out.cell (j := 1) rfl
      clear hx hsx hsj HSn hpq hos v0 v1 HT HTL HTM HTB GS GA GL G0 SS SA SR SL S0 HROW
      go_wp2_with fail
      go_region_with (first
        | (go_at_call 61; go_loud (refine (TK.out _ (HF.out.to (gr_trans hB2 (by (repeat (first | exact Below.refl _ _ | refine Below.setCell ?_ (by first | omega | (simp; omega) | (simp; done)) _ | refine Below.alloc ?_ (by first | omega | (simp; omega) | (simp; done)) _ | refine Below.drew ?_ | refine below_drewN ?_ _ | refine Below.trans ?_ (Below.mono (by assumption) (by first | omega | (simp; omega) | (simp; done))))))))).mono ?_; rintro e wq ⟨rfl, hbq⟩; have HBq : Below wr.heap.size wr wq := (by (repeat (first | exact Below.refl _ _ | refine Below.setCell ?_ (by first | omega | (simp; omega) | (simp; done)) _ | refine Below.alloc ?_ (by first | omega | (simp; omega) | (simp; done)) _ | refine Below.drew ?_ | refine below_drewN ?_ _ | refine Below.trans ?_ (Below.mono (by assumption) (by first | omega | (simp; omega) | (simp; done)))))); have k0 : wq.cell? ⟨b8, 0, none⟩ = some (vi lo) := cell_keep HBq b0; have k1 : wq.cell? ⟨b8, 1, none⟩ = some (vi hi) := cell_keep HBq b1; have zq : b8 < wq.heap.size := cell_lt k0))
        | (go_at_call 99; go_loud (refine (AD.out _).mono ?_; rintro e wv ⟨rfl, hbv⟩; have HBv : Below wr.heap.size wr wv := gr_trans HBq (by (repeat (first | exact Below.refl _ _ | refine Below.setCell ?_ (by first | omega | (simp; omega) | (simp; done)) _ | refine Below.alloc ?_ (by first | omega | (simp; omega) | (simp; done)) _ | refine Below.drew ?_ | refine below_drewN ?_ _ | refine Below.trans ?_ (Below.mono (by assumption) (by first | omega | (simp; omega) | (simp; done)))))); have l0 : wv.cell? ⟨b8, 0, none⟩ = some (vi lo) := cell_keep HBv b0; have l1 : wv.cell? ⟨b8, 1, none⟩ = some (vi hi) := cell_keep HBv b1; have zv : b8 < wv.heap.size := cell_lt l0; have y0 : wv.frozen? ⟨b8, 0, none⟩ = false := (XB.out.keep HBv).frozen 0; have y1 : wv.frozen? ⟨b8, 1, none⟩ = false := (XB.out.keep HBv).frozen 1)))
      all_goals
        have Q8 := ((XB.out.keep HBv).store 0 (vi (lo + p))).store 1 (vi (hi + q))
        have QF := ((XF2.out.keep HBv).apart ⟨b8, 0, none⟩ (vi (lo + p)) (by simp only; omega)).apart ⟨b8, 1, none⟩ (vi (hi + q)) (by simp only; omega)
        have QR := ((XR2.out.keep HBv).apart ⟨b8, 0, none⟩ (vi (lo + p)) (by simp only; omega)).apart ⟨b8, 1, none⟩ (vi (hi + q)) (by simp only; omega)
        have QB := ((gr_trans hB2 HBv).setCell (p := ⟨b8, 0, none⟩) (by simp only; omega) (vi (lo + p))).setCell (p := ⟨b8, 1, none⟩) (by simp only; omega) (vi (hi + q))
        have QS : wo.heap.size ≤ ((wv.setCell ⟨b8, 0, none⟩ (vi (lo + p))).setCell ⟨b8, 1, none⟩ (vi (hi + q))).heap.size := by have := HBv.size; simp; omega
        refine (?_ : ∀ W9 : World, CellsBox W9 b8 24 [vi (lo + p), vi (hi + q)] → CellsBox W9 w.heap.size 89 f.cells → CellsBox W9 (w.heap.size + 1) 24 (flatS out) → Below w.heap.size w W9 → wo.heap.size ≤ W9.heap.size → Exit.then _ _ _ _ W9) _ Q8 QF QR QB QS
      all_goals
        clear b0 b1 f0 f1 f2 f3 f4 f5 k0 k1 l0 l1 y0 y1 zq zv HBq HBv hbq hbv
        intro W9 X8 X7 X6 B9 S9
        have b0 := X8.cell (j := 0) rfl
        have b1 := X8.cell (j := 1) rfl
        have g0 := X6.cell HV0.out
        have g1 := X6.cell HV1.out
        have z0 := X6.frozen (s * 2)
        have z1 := X6.frozen (s * 2 + 1)
        have z8 := X8.lt
        have z6 := X6.lt
        have N8 := Lib.hid ((X8.apart ⟨w.heap.size + 1, s * 2, none⟩ (vi (lo + p)) (by simp only; omega)).apart ⟨w.heap.size + 1, s * 2 + 1, none⟩ (vi (hi + q)) (by simp only; omega))
        have N7 := Lib.hid ((X7.apart ⟨w.heap.size + 1, s * 2, none⟩ (vi (lo + p)) (by simp only; omega)).apart ⟨w.heap.size + 1, s * 2 + 1, none⟩ (vi (hi + q)) (by simp only; omega))
        have N6 := Lib.hid ((X6.store (s * 2) (vi (lo + p))).store (s * 2 + 1) (vi (hi + q)))
        have NB := Lib.hid ((B9.setCell (p := ⟨w.heap.size + 1, s * 2, none⟩) (by simp only; omega) (vi (lo + p))).setCell (p := ⟨w.heap.size + 1, s * 2 + 1, none⟩) (by simp only; omega) (vi (hi + q)))
        have NS : Hid (wo.heap.size ≤ ((W9.setCell ⟨w.heap.size + 1, s * 2, none⟩ (vi (lo + p))).setCell ⟨w.heap.size + 1, s * 2 + 1, none⟩ (vi (hi + q))).heap.size) := by unfold Hid; simp; omega
        clear X8 X7 X6 B9 HV0 HV1
        go_wp2_with fail
        go_roundw
      all_goals first
        | exact ⟨j + 1, by omega, by go_num, NB.out, NS.out, by rw [HSn2.out]; exact N8, N7, by rw [HSn2.out]; unfold Hid; rw [flatS_set _ _ _ (by omega)]; exact N6.out, .inr trivial⟩
        | (simp [intOf]; omega)
    · obtain rfl : j = tl.length := by omega
      have XR3 : Hid (CellsBox wr (w.heap.size + 1) 24 (flatS (G (k + 1)))) := by unfold Hid; rw [← SA.out]; exact XR2.out
      go_wp2_with fail
      go_roundw
      case rel => exact ⟨k + 1, by omega, by go_num, hB2, XF2, XR3⟩
      case measure => simp [intOf]; omega
  · obtain rfl : k = ts.length := by omega
    rw [GA.out] at XR
    go_wp2_with fail
    go_ret
    exact ⟨_, rfl, by omega, XR.out, hB⟩
end Go.Proofs.YtomgnpfpaodpiaaDoor

