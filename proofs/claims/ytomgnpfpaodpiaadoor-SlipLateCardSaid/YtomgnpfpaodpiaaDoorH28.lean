/- Contract of roster: the walk. -/
import Derived.Test.YtomgnpfpaodpiaaDoorH27
import Derived.Test.YtomgnpfpaodpiaaDoorH19
set_option linter.unusedVariables false
set_option linter.unusedSimpArgs false
namespace Go.Proofs.YtomgnpfpaodpiaaDoor
open Go Go.RowKit Go.Shelf
set_option maxHeartbeats 4000000
structure RosI (f : Floor) (oA qA : Option Addr) (oC qC bm bd bc p m g cp i p' m' : Nat) (v : Value) (μ : Nat → Nat → Option Nat) (ts : List SRow) (W X : World) : Prop where
  below : Below W.heap.size W X
  box : CellsBox X bd 108 (deskC f oA oC qA f.slips.length qC bm)
  crew : CellsBox X bc 116 [vi m', vi p']
  own : X.ownsRow (W.heap.size + 2) 22 1 v i (ts.map SRow.cells).flatten
  form : v = .slice (some ⟨g, 0, none⟩) i cp
  many : ts.length = i
  each : ∀ t ∈ ts, IntsAt X X.heap.size t.ad t.cap t.slips ∧ FreeI t g ∧ FreeI t (W.heap.size + 1)
  lists : ts.map SRow.slips ++ (rosterF f p' m').map natsC = (rosterF f p m).map natsC
  ok : Crew f μ p' m'
set_option maxRecDepth 100000 in
theorem roster_any (f : Floor) (hv : validB f = true) (oA qA : Option Addr) (oC qC bm p m : Nat) (W : World) (μ : Nat → Nat → Option Nat) (hD : DeskIn W f oA qA oC) (hM : CrewMap W bm μ) (hI : Inv f 5 μ) (hC : Crew f μ p m) :
    Calls Tryd.prog 70 #[.agg (deskC f oA oC qA f.slips.length qC bm).toArray, crewV m p] W fun e W' => ∃ A ts, e = .returned (.slice A ts.length ts.length) ∧ RosterAt W' W'.heap.size A ts.length ts ∧ ts.map SRow.slips = (rosterF f p m).map natsC ∧ Below W.heap.size W W' := by
  have h9 : f.slips.length ≤ 9 := (fine hv).slips9
  obtain ⟨i0, hi, hy0, hy1, hy2⟩ := info_parts info_ints
  have hp5 := hC.many
  have HV := Lib.hid hv
  have HD := Lib.hid hD
  have H9 := Lib.hid h9
  have HM := Lib.hid hM
  have HI := Lib.hid hI
  have HC := Lib.hid hC
  have zM := hM.lt
  clear hv hD hM hI hC h9
  show Calls Tryd.prog 70 #[.agg #[.slice f.fA f.far.length f.fC, vi f.slo, vi f.shi, .slice f.pA f.picks.length f.pC, vi f.carry, .slice f.sA f.slips.length f.sC, .slice oA f.slips.length oC, .slice qA f.slips.length qC, .map (some bm)], .agg #[vi m, vi p]] W _
  have hp0 : (0 : Int) ≤ p := by omega
  go_enter Tryd.func70, Tryd.ntmps70
  go_wp2_with (at_make; go_loud (refine wpList_make_own _ rfl _ _ _ rfl (W.heap.size + 2) 22 i0 _ 1 Tryd.underlying43 hi hy0 hy1 .i64 .i64 (p : Int) p rfl rfl rfl (by rw [hy2]; omega) (by unfold maxLen; omega) (by simp) ?_; intro wb hown hgrow))
  have hsb := hgrow.size
  have HB0 : Below W.heap.size W wb := Below.grown (by (repeat (first | exact Below.refl _ _ | refine Below.setCell ?_ (by first | omega | (simp; omega) | (simp; done)) _ | refine Below.alloc ?_ (by first | omega | (simp; omega) | (simp; done)) _ | refine Below.drew ?_ | refine below_drewN ?_ _ | refine Below.trans ?_ (Below.mono (by assumption) (by first | omega | (simp; omega) | (simp; done)))))) hgrow (by simp; omega) (fun j e => by cases e)
  simp only [World.size_alloc] at hown hsb
  have X1 : Hid (CellsBox wb W.heap.size 108 (deskC f oA oC qA f.slips.length qC bm)) := by
    have := (CellsBox.new W 108 (deskC f oA oC qA f.slips.length qC bm)).alloc (.cells #[vi m, vi p] 116)
    exact (hgrow.block W.heap.size (by simp; omega) (by simp)).trans this
  have X2 : Hid (CellsBox wb (W.heap.size + 1) 116 [vi m, vi p]) := by
    have := CellsBox.new (W.alloc (.cells (deskC f oA oC qA f.slips.length qC bm).toArray 108)) 116 [vi m, vi p]
    rw [World.size_alloc] at this
    exact (hgrow.block (W.heap.size + 1) (by simp) (by simp)).trans this
  clear hgrow
  go_loopw [5] (fun v wr => ∃ (g cp i p' m' : Nat) (ts : List SRow), RosI f oA qA oC qC bm W.heap.size (W.heap.size + 1) p m g cp i p' m' v μ ts W wr ∧ i + p' = p) (fun v wr => (match v with | .slice _ i _ => p - i | _ => 0))
  case atStart => exact ⟨_, _, 0, p, m, [], ⟨HB0, X1.out, X2.out, hown, rfl, rfl, by simp, by simp, HC.out⟩, by omega⟩
  obtain ⟨g, cp, i, p', m', ts, hR, hip⟩ := hrel
  have HR := Lib.hid hR
  obtain ⟨hB, hbx, hcw, hown, rfl, hmany, heach, hlists, hok⟩ := hR
  have c0 := hcw.cell (j := 0) rfl
  have c1 := hcw.cell (j := 1) rfl
  have z2 := hcw.lt
  have z1 := hbx.lt
  have a0 := hbx.cell (j := 0) rfl
  have a1 := hbx.cell (j := 1) rfl
  have a2 := hbx.cell (j := 2) rfl
  have a3 := hbx.cell (j := 3) rfl
  have a4 := hbx.cell (j := 4) rfl
  have a5 := hbx.cell (j := 5) rfl
  have a6 := hbx.cell (j := 6) rfl
  have a7 := hbx.cell (j := 7) rfl
  have a8 := hbx.cell (j := 8) rfl
  have hcp : i ≤ cp := by
    rcases hown.2 with ⟨e, _⟩ | ⟨g', c', cur, e, _, _, h1, h2, _⟩
    · cases e
    · obtain ⟨_, rfl⟩ : _ ∧ cp = c' := by simpa using e
      exact h1
  have hcpI : (i : Int) ≤ cp := by omega
  clear hbx hcw hown heach hlists
  have hlk := look_crew (HM.out.below hB) m' p' false
  cases p' with
  | zero =>
    have hm0 : m' = 0 := by have := hok.can; unfold canF at this; simpa using this
    subst hm0
    clear hok
    go_wp2_with fail
    go_ret
    have hB := HR.out.below
    have hl := HR.out.lists
    rw [rosterF, List.map_nil, List.append_nil] at hl
    subst hmany
    refine ⟨some ⟨g, 0, none⟩, ts, rfl, ⟨?_, fun t ht => (HR.out.each t ht).1⟩, hl, hB⟩
    obtain ⟨A', c', e, h1, h2, h3, h4, h5, h6⟩ := own_rows (m := ts.map SRow.cells) (sz := 1) (by intro r hr; obtain ⟨t, _, rfl⟩ := List.mem_map.1 hr; rfl) HR.out.own (by simp) (by omega)
    obtain ⟨rfl, rfl⟩ : some ⟨g, 0, none⟩ = A' ∧ cp = c' := by simpa using e
    exact ⟨by simp, by rw [List.length_map] at h5; omega, h5, h6⟩
  | succ p' =>
    obtain ⟨hsh, hs9⟩ := hok.share H9.out HI.out
    have hnext := hok.next HI.out
    obtain ⟨s, hs⟩ : ∃ s, s = oneF f (p' + 1) m' := ⟨_, rfl⟩
    rw [← hs] at hsh hs9 hnext
    rw [hsh] at hlk
    obtain ⟨pI, hpI⟩ : ∃ pI : Int, pI = ((p' + 1 : Nat) : Int) := ⟨_, rfl⟩
    have hpe : (pI == 0) = false := by simp; omega
    have hp1 : pI - 1 = p' := by omega
    have hpw : IntKind.wrap .i64 (pI - 1) = p' := by rw [hp1]; exact wrapI (by omega) (by omega)
    have hm9 := hok.lt
    have hbits := less_fact m' s hm9 hs9
    have HPI := Lib.hid hpI
    rw [show crewV m' (p' + 1) = .agg #[vi m', vi pI] from by rw [hpI]] at hlk
    rw [← hpI] at c1
    simp only [Bool.false_eq_true, if_false] at hlk
    have SRT := Lib.hid (fun (X : World) hX => sorted_any (.slice f.fA f.far.length f.fC) (vi f.slo) (vi f.shi) (.slice f.pA f.picks.length f.pC) (vi f.carry) (.slice f.sA f.slips.length f.sC) oA oC (ordN f) (.slice qA f.slips.length qC) (.map (some bm)) (fun x hx => Nat.lt_of_lt_of_le (ordN_mem H9.out x hx) H9.out) (by rw [ordN_len H9.out]; exact H9.out) s hs9 X hX rfl rfl rfl rfl rfl rfl rfl rfl)
    rw [ordN_len H9.out] at SRT
    have HNX := Lib.hid hnext
    have HS := Lib.hid hs
    have HORD := Lib.hid (by rw [natsC_ord H9.out]; exact HD.out.ord : IntsAt W W.heap.size oA oC (natsC (ordN f)))
    obtain ⟨R, hRe⟩ : ∃ R, R = sortedF s (ordN f) := ⟨_, rfl⟩
    have HRE := Lib.hid hRe
    rw [← hRe] at SRT
    clear hpI hs hsh hnext hok hRe
    have hownr := HR.out.own
    go_wp2_with fail
    have n0 : ¬ (W.heap.size = wr.heap.size) := by omega
    have n1 : ¬ (W.heap.size + 1 = wr.heap.size) := by omega
    refine (SRT.out _ (HORD.out.to hB)).mono ?_
    rintro e wq ⟨A, rfl, hAt, hAb, hbq⟩
    have hownq := own_keep hownr hbq
    have hzq := hbq.size
    have hgl := hownr.lt g rfl
    have hAT := Lib.hid hAt
    have hAB := Lib.hid hAb
    have HR0 := HR.out.box
    have HR1 := HR.out.crew
    clear a0 a1 a2 a3 a4 a5 a6 a7 a8 c0 c1 hlk hAt hAb hown hownr SRT HORD
    go_wp2_with (at_builtin; go_loud (refine wpList_append_lies _ rfl _ _ 43 rfl (W.heap.size + 2) 22 i0 _ 1 24 Tryd.underlying43 hi hy0 hy1 hy2 rfl (by decide) (.slice (some ⟨g, 0, none⟩) i cp) i _ rfl (hownq.alloc _) ⟨wq.heap.size, 0, none⟩ 1 1 [.slice A R.length R.length] rfl rfl (cell_one_new _ _ _) (by simp [Value.oneCell']) (by omega) (by unfold maxLen; omega) (by omega) (by simp; omega) (wq.heap.size + 1) (by simp) ?_; intro gg cap5 w5 hown5 hgrow hat hlt5; have hcr5 : CellsBox w5 (W.heap.size + 1) 116 [vi m', vi pI] := (by rw [HPI.out]; exact (hgrow.block (W.heap.size + 1) (by simp; omega) (by simp [Value.ownBlock]; omega)).trans ((HR1.keep hbq).alloc _)); have c0 := hcr5.cell (j := 0) rfl; have c1 := hcr5.cell (j := 1) rfl; have q0 := hcr5.frozen 0; have q1 := hcr5.frozen 1; have z3 := hcr5.lt; have HCR5 := Lib.hid hcr5; clear hcr5))
    have hsz5 := hgrow.size
    simp only [World.size_alloc] at hsz5
    have hgg : g = gg ∨ gg = wq.heap.size + 1 := by simpa [Value.ownBlock] using hat
    have far : ∀ q : Addr, q.block < wq.heap.size → q.block ≠ g → w5.cell? q = wq.cell? q := fun q hp hne =>
      (hgrow.cell_far q (by simp; omega) (by simp [Value.ownBlock]; omega)).trans (((Below.refl _ wq).alloc (Nat.le_refl _) _).cell hp)
    have B5 : Below W.heap.size W w5 := Below.grown ((hB.trans (hbq.mono (by omega))).alloc (by omega) _) hgrow (by simp; omega) (fun j e => by simp [Value.ownBlock] at e; omega)
    have D5 : CellsBox w5 W.heap.size 108 (deskC f oA oC qA f.slips.length qC bm) := (hgrow.block W.heap.size (by simp; omega) (by simp [Value.ownBlock]; omega)).trans ((HR0.keep hbq).alloc _)
    have OW : w5.ownsRow (W.heap.size + 2) 22 1 (.slice (some ⟨gg, 0, none⟩) (i + 1) cap5) (i + 1) ((ts ++ [(⟨A, R.length, natsC R⟩ : SRow)]).map SRow.cells).flatten := by
      simpa [SRow.cells, SRow.slice] using hown5
    have E5 : ∀ t ∈ ts ++ [(⟨A, R.length, natsC R⟩ : SRow)], IntsAt w5 w5.heap.size t.ad t.cap t.slips ∧ FreeI t gg ∧ FreeI t (W.heap.size + 1) := by
      intro t ht
      rcases List.mem_append.1 ht with h1 | h1
      · obtain ⟨e1, e2, e3⟩ := HR.out.each t h1
        refine ⟨ints_more (ints_apart (e1.to hbq) e2 far) (by omega), ?_, e3⟩
        rcases hgg with rfl | rfl
        · exact e2
        · intro hl b hb
          obtain ⟨b', o', hA, hlt, _⟩ := e1.row (by simpa using hl)
          rw [hA] at hb
          cases hb
          simp only
          omega
      · obtain rfl : t = (⟨A, R.length, natsC R⟩ : SRow) := by simpa using h1
        have hf : FreeI (⟨A, R.length, natsC R⟩ : SRow) g := fun hl b hb => by have := hAB.out b hb; omega
        refine ⟨ints_more (ints_apart hAT.out hf far) (by omega), ?_, fun hl b hb => by have := hAB.out b hb; omega⟩
        rcases hgg with rfl | rfl
        · exact hf
        · intro hl b hb
          obtain ⟨b', o', hA, hlt, _⟩ := hAT.out.row (by simpa using hl)
          rw [show A = some b from hb] at hA
          cases hA
          simp only
          omega
    have L5 : (ts ++ [(⟨A, R.length, natsC R⟩ : SRow)]).map SRow.slips ++ (rosterF f p' (lessF m' s)).map natsC = (rosterF f p m).map natsC := by
      rw [← HR.out.lists, rosterF, ← HS.out, ← HRE.out]
      simp
    refine ⟨⟨gg, cap5, i + 1, p', lessF m' s, ts ++ [(⟨A, R.length, natsC R⟩ : SRow)], ⟨?_, ?_, ?_, ?_, rfl, by simp [hmany], ?_, L5, HNX.out⟩, by omega⟩, by simp only; omega⟩
    · exact (B5.setCell (by simp) _).setCell (by simp) _
    · exact (D5.apart _ _ (by simp)).apart _ _ (by simp)
    · exact (HCR5.out.store 0 _).store 1 _
    · have hlo := (OW.lt gg rfl).1
      have hne : (Value.slice (some ⟨gg, 0, none⟩) (i + 1) cap5).ownBlock ≠ some (W.heap.size + 1) := by
        intro e
        have : gg = W.heap.size + 1 := by simpa [Value.ownBlock] using e
        omega
      exact (OW.kept (grownBy_set w5 (W.heap.size + 1) 0 (vi (lessF m' s))) (.inr hne)).kept (grownBy_set _ (W.heap.size + 1) 1 (vi p')) (.inr hne)
    · intro t ht
      obtain ⟨e1, e2, e3⟩ := E5 t ht
      refine ⟨?_, e2, e3⟩
      have := ints_apart (w' := (w5.setCell ⟨W.heap.size + 1, 0, none⟩ (vi (lessF m' s))).setCell ⟨W.heap.size + 1, 1, none⟩ (vi p')) e1 e3 (fun q _ hne => by
        rw [World.cell?_of_block (heap_setCell_other _ _ q.block _ hne), World.cell?_of_block (heap_setCell_other _ _ q.block _ hne)])
      simpa using this
end Go.Proofs.YtomgnpfpaodpiaaDoor

/- Contract of Roster. -/
namespace Go.Proofs.YtomgnpfpaodpiaaDoor
open Go Go.RowKit Go.Shelf
set_option maxHeartbeats 3000000
theorem below_spare {w X Y : World} {bm : Nat} (h : Below w.heap.size w X) (hs : Spare X.heap.size bm X Y) (hb : w.heap.size ≤ bm) : Below w.heap.size w Y :=
  ⟨hs.os.trans h.os, hs.tape.trans h.tape, hs.output.trans h.output, Nat.le_trans h.size hs.size, fun k hk => (hs.block k (by have := h.size; omega) (by omega)).trans (h.block k hk)⟩
theorem DeskAt.into {w : World} {f : Floor} {oA qA : Option Addr} {qC bm : Nat} (h : DeskAt w f oA qA qC bm) (hf : FloorAt w w.heap.size f) : DeskIn w f oA qA f.slips.length := ⟨hf, h.ord, h.secs⟩
theorem Inv.empty (f : Floor) (P : Nat) : Inv f P fun _ _ => none := ⟨(fun _ _ _ _ e => by cases e), (fun _ _ _ _ e => by cases e)⟩
def RosterV (f : Floor) : List (List Nat) × Int := if checkV f = 0 then (match fewF f with | none => ([], 4) | some p => (rosterF f p (allF f), 0)) else ([], checkV f)
theorem few_can {f : Floor} {p : Nat} (h : fewF f = some p) : 1 ≤ p ∧ p ≤ 5 ∧ canF f p (allF f) = true := by
  unfold fewF at h
  have h1 := List.mem_of_find?_eq_some h
  have h2 := List.find?_some (p := fun p => canF f p (allF f)) h
  refine ⟨?_, ?_, h2⟩
  · simp at h1; omega
  · simp at h1; omega
set_option maxRecDepth 100000 in
theorem Roster_any (f : Floor) (w : World) (hl : Lim w) (h : FloorAt w w.heap.size f) :
    Calls Tryd.prog 28 #[f.val] w fun e w' => ∃ A ts, e = .returned (.tuple #[.slice A ts.length ts.length, vi (RosterV f).2]) ∧ RosterAt w' w'.heap.size A ts.length ts ∧ ts.map SRow.slips = (RosterV f).1.map natsC ∧ Below w.heap.size w w' := by
  have HL := Lib.hid hl
  have HF := Lib.hid h
  rcases check_two f with ⟨hc, hv⟩ | ⟨hc, hv⟩
  · have CH := Lib.hid (fun (W : World) hL hW => check_is hc W hL hW)
    have E : RosterV f = ([], 30) := by unfold RosterV; rw [if_neg (by omega), hc]
    rw [E]
    clear h hl hc E hv
    go_enter Tryd.func28, Tryd.ntmps28
    go_wp2_with fail
    refine (CH.out _ (HL.out.next (by (repeat (first | exact Below.refl _ _ | refine Below.setCell ?_ (by first | omega | (simp; omega) | (simp; done)) _ | refine Below.alloc ?_ (by first | omega | (simp; omega) | (simp; done)) _ | refine Below.drew ?_ | refine below_drewN ?_ _ | refine Below.trans ?_ (Below.mono (by assumption) (by first | omega | (simp; omega) | (simp; done))))))) (HF.out.to (by (repeat (first | exact Below.refl _ _ | refine Below.setCell ?_ (by first | omega | (simp; omega) | (simp; done)) _ | refine Below.alloc ?_ (by first | omega | (simp; omega) | (simp; done)) _ | refine Below.drew ?_ | refine below_drewN ?_ _ | refine Below.trans ?_ (Below.mono (by assumption) (by first | omega | (simp; omega) | (simp; done)))))))).mono ?_
    rintro e W ⟨rfl, hb⟩
    have HB0 : Below w.heap.size w W := by (repeat (first | exact Below.refl _ _ | refine Below.setCell ?_ (by first | omega | (simp; omega) | (simp; done)) _ | refine Below.alloc ?_ (by first | omega | (simp; omega) | (simp; done)) _ | refine Below.drew ?_ | refine below_drewN ?_ _ | refine Below.trans ?_ (Below.mono (by assumption) (by first | omega | (simp; omega) | (simp; done)))))
    clear hb
    go_wp2_with fail
    go_ret2
    exact ⟨none, [], rfl, ⟨rows_nil _ _, by simp⟩, rfl, HB0⟩
  · have hf := fine hv
    have CH := Lib.hid (fun (W : World) hL hW => check_is hc W hL hW)
    have E : Hid (RosterV f = match fewF f with | none => ([], 4) | some p => (rosterF f p (allF f), 0)) := by unfold Hid RosterV; rw [if_pos hc]
    have HV := Lib.hid hv
    have H9 := Lib.hid hf.slips9
    obtain ⟨RV, hRV⟩ : ∃ RV, RV = RosterV f := ⟨_, rfl⟩
    rw [← hRV] at E ⊢
    clear h hl hc hf hRV
    go_enter Tryd.func28, Tryd.ntmps28
    go_wp2_with fail
    refine (CH.out _ (HL.out.next (by (repeat (first | exact Below.refl _ _ | refine Below.setCell ?_ (by first | omega | (simp; omega) | (simp; done)) _ | refine Below.alloc ?_ (by first | omega | (simp; omega) | (simp; done)) _ | refine Below.drew ?_ | refine below_drewN ?_ _ | refine Below.trans ?_ (Below.mono (by assumption) (by first | omega | (simp; omega) | (simp; done))))))) (HF.out.to (by (repeat (first | exact Below.refl _ _ | refine Below.setCell ?_ (by first | omega | (simp; omega) | (simp; done)) _ | refine Below.alloc ?_ (by first | omega | (simp; omega) | (simp; done)) _ | refine Below.drew ?_ | refine below_drewN ?_ _ | refine Below.trans ?_ (Below.mono (by assumption) (by first | omega | (simp; omega) | (simp; done)))))))).mono ?_
    rintro e W ⟨rfl, hb⟩
    have HB0 : Below w.heap.size w W := by (repeat (first | exact Below.refl _ _ | refine Below.setCell ?_ (by first | omega | (simp; omega) | (simp; done)) _ | refine Below.alloc ?_ (by first | omega | (simp; omega) | (simp; done)) _ | refine Below.drew ?_ | refine below_drewN ?_ _ | refine Below.trans ?_ (Below.mono (by assumption) (by first | omega | (simp; omega) | (simp; done)))))
    have a0 : W.cell? ⟨w.heap.size, 0, none⟩ = some (.slice f.fA f.far.length f.fC) := cell_keep hb (by simp [go_sem])
    have a1 : W.cell? ⟨w.heap.size, 1, none⟩ = some (vi f.slo) := cell_keep hb (by simp [go_sem])
    have a2 : W.cell? ⟨w.heap.size, 2, none⟩ = some (vi f.shi) := cell_keep hb (by simp [go_sem])
    have a3 : W.cell? ⟨w.heap.size, 3, none⟩ = some (.slice f.pA f.picks.length f.pC) := cell_keep hb (by simp [go_sem])
    have a4 : W.cell? ⟨w.heap.size, 4, none⟩ = some (vi f.carry) := cell_keep hb (by simp [go_sem])
    have a5 : W.cell? ⟨w.heap.size, 5, none⟩ = some (.slice f.sA f.slips.length f.sC) := cell_keep hb (by simp [go_sem])
    have zW := cell_lt a0
    clear hb CH
    go_wp2_with fail
    refine (desk_any f hv _ (HF.out.to HB0)).mono ?_
    rintro e W1 ⟨oA, qA, qC, bm, rfl, hD, hbm, hb⟩
    have HB1 : Below w.heap.size w W1 := HB0.trans (hb.mono HB0.size)
    have hz0 := HB0.size
    have hz1 := hb.size
    have HD := Lib.hid (hD.into (HF.out.to HB1))
    have hMt := (Array.getElem?_eq_some_iff.1 hD.map).1
    have HM := Lib.hid (CrewMap.new hD.map)
    clear hb hD a0 a1 a2 a3 a4 a5
    go_wp2_with fail
    obtain ⟨V, hV⟩ : ∃ V, V = W1.alloc (.cells #[.slice f.fA f.far.length f.fC, vi f.slo, vi f.shi, .slice f.pA f.picks.length f.pC, vi f.carry, .slice f.sA f.slips.length f.sC, .slice oA f.slips.length f.slips.length, .slice qA f.slips.length qC, .map (some bm)] 108) := ⟨_, rfl⟩
    have hbV : Below W1.heap.size W1 V := by rw [hV]; (repeat (first | exact Below.refl _ _ | refine Below.setCell ?_ (by first | omega | (simp; omega) | (simp; done)) _ | refine Below.alloc ?_ (by first | omega | (simp; omega) | (simp; done)) _ | refine Below.drew ?_ | refine below_drewN ?_ _ | refine Below.trans ?_ (Below.mono (by assumption) (by first | omega | (simp; omega) | (simp; done)))))
    have HX : Hid (CellsBox V W1.heap.size 108 (deskC f oA f.slips.length qA f.slips.length qC bm)) := by unfold Hid; rw [hV]; exact CellsBox.new W1 _ _
    rw [← hV]
    clear hV
    have HBV := HB1.trans (hbV.mono HB1.size)
    have HDV := Lib.hid (HD.out.cs (cs_of_below hbV))
    have HMV := Lib.hid (HM.out.below hbV)
    have hzV := hbV.size
    clear hbV HD HM
    refine (fewest_any f hv oA qA f.slips.length qC bm V _ (HL.out.next HBV) HDV.out HMV.out (Inv.empty f 5)).mono ?_
    rintro e W2 ⟨rfl, μ, hP, hk⟩
    have HP := Lib.hid hP
    have HK := Lib.hid hk
    have HB2 := below_spare HBV hP.spare (by omega)
    have HX2 := Lib.hid (hP.cs.box HX.out)
    have hz2 := hP.cs.size
    have HD2 := Lib.hid (HDV.out.cs hP.cs)
    clear hP hk HX hv
    cases hfew : fewF f with
    | none =>
      have E2 : Hid (RV = ([], 4)) := by unfold Hid; rw [E.out, hfew]
      simp only [Option.getD_none, Option.isSome_none]
      clear E
      go_wp2_with fail
      go_ret2
      rw [E2.out]
      exact ⟨none, [], rfl, ⟨rows_nil _ _, by simp⟩, rfl, HB2⟩
    | some p =>
      have E2 : Hid (RV = (rosterF f p (allF f), 0)) := by unfold Hid; rw [E.out, hfew]
      simp only [Option.getD_some, Option.isSome_some]
      obtain ⟨hp1, hp5, hcan⟩ := few_can hfew
      have HCR : Hid (Crew f μ p (allF f)) := ⟨hp5, allF_lt H9.out, hcan, fun h _ => HK.out p hfew h⟩
      have AL := Lib.hid (fun X => all_any f H9.out X)
      have E0 : (2 ^ f.slips.length - 1 : Nat) = allF f := rfl
      rw [E0] at AL
      have ROS := Lib.hid (fun X hX hY => roster_any f HV.out oA qA f.slips.length qC bm p (allF f) X μ hX hY HP.out.inv HCR.out)
      obtain ⟨m, hm⟩ : ∃ m, m = allF f := ⟨_, rfl⟩
      rw [← hm] at AL ROS E2
      clear E E0 hfew hcan HK HCR hm
      go_wp2_with fail
      refine' wp_region_box (fun w' => CS W2 w') (fun a b h h' => h.trans (cs_of_below h')) [0, 1, 2, 3, 4, 5] 3 30 (by kernel_rfl) (by kernel_rfl) rfl (by kernel_rfl) (by kernel_rfl) rfl (by kernel_rfl) ?hl5 (CS.refl _) ?hq5 ?hr5
      case hl5 =>
        simp only [List.map_cons, List.map_nil, List.getD_cons_zero, List.getD_cons_succ]
        exact rfl
      case hq5 =>
        intro w0 K
        have Y := K.box HX2.out
        have f0 := Y.cell (j := 0) rfl
        have f1 := Y.cell (j := 1) rfl
        have f2 := Y.cell (j := 2) rfl
        have f3 := Y.cell (j := 3) rfl
        have f4 := Y.cell (j := 4) rfl
        have f5 := Y.cell (j := 5) rfl
        have f6 := Y.cell (j := 6) rfl
        have f7 := Y.cell (j := 7) rfl
        have f8 := Y.cell (j := 8) rfl
        have zf := Y.lt
        (repeat (go_big_quiet_step ((go_at_call 71; refine Calls.grow_of (AL.out _)))))
        exact wpQuiet_nil rfl
      case hr5 =>
        refine wpUp_one (i := 6) (by kernel_rfl) rfl rfl (fun wa a1 a2 Ka hKa => ?_)
        go_simp
        refine (ROS.out wa (HD2.out.cs a2) (HP.out.map.below a1)).mono ?_
        rintro e w3 ⟨A, ts, rfl, hAt, hts, hb3⟩
        have hAT := Lib.hid hAt
        have hTS := Lib.hid hts
        clear hAt hts
        refine hKa _ _ (a2.trans (cs_of_below hb3)) ?_
        refine wpUp_one (i := 7) (by kernel_rfl) rfl rfl (fun wb b1 b2 Kb hKb => ?_)
        go_simp
        refine hKb _ _ b2 ?_
        refine wpUp_one (i := 8) (by kernel_rfl) rfl rfl (fun wc c1 c2 Kc hKc => ?_)
        go_simp
        refine hKc _ _ c2 (wpUp_done (by kernel_rfl) (fun W8 g1 g2 => NoPanic.normal ?_))
        have hbb : Below w3.heap.size w3 W8 := gr_trans (gr_trans b1 c1) g1
        have HB8 : Below w.heap.size w W8 := ((HB2.trans (a1.mono HB2.size)).trans (hb3.mono (by have := a1.size; have := HB2.size; omega))).trans (hbb.mono (by have := a1.size; have := HB2.size; have := hb3.size; omega))
        have hA8 := hAT.out.to hbb
        have HA8 := Lib.hid hA8
        clear hA8
        go_wp2_with fail
        go_ret2
        rw [E2.out]
        exact ⟨A, ts, rfl, HA8.out, hTS.out, HB8⟩
end Go.Proofs.YtomgnpfpaodpiaaDoor

/- Contract of sort.Search with the closure of Spare. -/
namespace Go.Proofs.YtomgnpfpaodpiaaDoor
open Go Go.RowKit Go.Shelf
set_option maxHeartbeats 3000000
abbrev spareV (bF bN bP : Nat) : Value := .func (.func 79) #[] #[.pointer (some ⟨bF, 0, none⟩), .pointer (some ⟨bN, 0, none⟩), .pointer (some ⟨bP, 0, none⟩)]
set_option maxRecDepth 100000 in
theorem search_any (n : Nat) (hn : n ≤ 100000) (Q : Nat → Bool) (bF bN bP : Nat) (w : World)
    (hQ : ∀ (i : Nat) (X : World), i < n → Below w.heap.size w X → Calls Tryd.prog 79 #[vi i, .pointer (some ⟨bF, 0, none⟩), .pointer (some ⟨bN, 0, none⟩), .pointer (some ⟨bP, 0, none⟩)] X fun e X' => e = .returned (.bool (Q i)) ∧ Below X.heap.size X X') :
    Calls Tryd.prog 78 #[vi n, spareV bF bN bP] w fun e w' => ∃ r : Nat, e = .returned (vi r) ∧ r ≤ n ∧ (∀ k, r = k + 1 → Q k = false) ∧ (r < n → Q r = true) ∧ Below w.heap.size w w' := by
  have HQ := Lib.hid hQ
  clear hQ
  go_enter Tryd.func78, Tryd.ntmps78
  go_wp2_with fail
  go_loopw [5, 6] (fun x y wr => ∃ i j : Nat, x = vi i ∧ y = vi j ∧ i ≤ j ∧ j ≤ n ∧ Hid (∀ k, i = k + 1 → Q k = false) ∧ Hid (j < n → Q j = true) ∧ Below w.heap.size w wr) (fun x y _ => (intOf y).toNat - (intOf x).toNat)
  case atStart => exact ⟨0, n, rfl, rfl, by omega, by omega, fun k h => by omega, fun h => by omega, Below.refl _ _⟩
  obtain ⟨i, j, rfl, rfl, hij, hjn, H1, H2, hB⟩ := hrel
  by_cases hlt : i < j
  · have hltI : (i : Int) < j := by omega
    have hsum : IntKind.wrap .i64 ((i : Int) + j) = ((i + j : Nat) : Int) := by rw [show (i : Int) + j = ((i + j : Nat) : Int) by omega]; exact wrapI (by omega) (by omega)
    go_wp2_with fail
    obtain ⟨h, hh⟩ : ∃ h : Nat, h = (i + j) / 2 := ⟨_, rfl⟩
    have hhI : ((i : Int) + j) / 2 = (h : Int) := by omega
    have hi1 : i ≤ h := by omega
    have hi2 : h < j := by omega
    simp only [hhI]
    refine (HQ.out h wr (by omega) hB).mono ?_
    rintro e W2 ⟨rfl, hb⟩
    have hB2 : Below w.heap.size w W2 := hB.trans (hb.mono hB.size)
    obtain ⟨b, hbb⟩ : ∃ b, b = Q h := ⟨_, rfl⟩
    rw [← hbb]
    have HBB := Lib.hid hbb
    clear hbb hb hhI hh hsum
    have hwr : IntKind.wrap .i64 ((h : Int) + 1) = ((h + 1 : Nat) : Int) := by rw [show (h : Int) + 1 = ((h + 1 : Nat) : Int) by omega]; exact wrapI (by omega) (by omega)
    rcases b with _ | _
    · go_wp2_with fail
      go_roundw
      case rel =>
        refine ⟨h + 1, j, by go_num, rfl, by omega, hjn, ?_, H2, hB2⟩
        intro k e
        have e2 : k = h := by omega
        subst e2
        exact HBB.out.symm
      case measure => simp [intOf]; omega
    · go_wp2_with fail
      go_roundw
      case rel => exact ⟨i, h, rfl, rfl, hi1, by omega, H1, fun _ => HBB.out.symm, hB2⟩
      case measure => simp [intOf]; omega
  · obtain rfl : i = j := by omega
    go_wp2_with fail
    go_ret
    exact ⟨i, rfl, hjn, H1.out, H2.out, hB⟩
end Go.Proofs.YtomgnpfpaodpiaaDoor

