/- Contract of roster: the walk. -/
import Derived.Test.YtomgnpfpaodpiaaDoorJ08
import Derived.Test.YtomgnpfpaodpiaaDoorJ05
import Derived.Test.YtomgnpfpaodpiaaDoorJ04
import Derived.Test.YtomgnpfpaodpiaaDoorJ06
import Derived.Laws.OwnMore
import Derived.ArgAppend
import Derived.Stop.RegionWithIn
import Derived.Deep.RegionLawGrows
set_option linter.unusedVariables false
set_option linter.unusedSimpArgs false
namespace Go.Proofs.YtomgnpfpaodpiaaDoor
open Go Go.RowKit Go.Shelf
set_option maxHeartbeats 4000000
structure RosI (f : Floor) (oA qA : Option Addr) (oC qC bm bd bc p m g cp i p' m' : Nat) (v : Value) (μ : Nat → Nat → Option Nat) (ts : List SRow) (W X : World) : Prop where
  below : Below W.heap.size W X
  box : CellsBox X bd 108 (deskC f oA oC qA f.slips.length qC bm)
  crew : CellsBox X bc 116 [vi m', vi p']
  own : X.ownsRow (W.heap.size + 2) 22 1 v i (ts.map SRow.cells).flatten
  form : v = .slice (some ⟨g, 0, none⟩) i cp
  many : ts.length = i
  each : ∀ t ∈ ts, IntsAt X X.heap.size t.ad t.cap t.slips ∧ FreeI t g ∧ FreeI t (W.heap.size + 1)
  lists : ts.map SRow.slips ++ (rosterF f p' m').map natsC = (rosterF f p m).map natsC
  ok : Crew f μ p' m'
set_option maxRecDepth 100000 in
theorem roster_any (f : Floor) (hv : validB f = true) (oA qA : Option Addr) (oC qC bm p m : Nat) (W : World) (μ : Nat → Nat → Option Nat) (hD : DeskIn W f oA qA oC) (hM : CrewMap W bm μ) (hI : Inv f 5 μ) (hC : Crew f μ p m) :
    Calls Tryd.prog 70 #[.agg (deskC f oA oC qA f.slips.length qC bm).toArray, crewV m p] W fun e W' => ∃ A ts, e = .returned (.slice A ts.length ts.length) ∧ RosterAt W' W'.heap.size A ts.length ts ∧ ts.map SRow.slips = (rosterF f p m).map natsC ∧ Below W.heap.size W W' := by
  have h9 : f.slips.length ≤ 9 := (fine hv).slips9
  obtain ⟨i0, hi, hy0, hy1, hy2⟩ := info_parts info_ints
  have hp5 := hC.many
  have HV := Lib.hid hv
  have HD := Lib.hid hD
  have H9 := Lib.hid h9
  have HM := Lib.hid hM
  have HI := Lib.hid hI
  have HC := Lib.hid hC
  have zM := hM.lt
  clear hv hD hM hI hC h9
  show Calls Tryd.prog 70 #[.agg #[.slice f.fA f.far.length f.fC, vi f.slo, vi f.shi, .slice f.pA f.picks.length f.pC, vi f.carry, .slice f.sA f.slips.length f.sC, .slice oA f.slips.length oC, .slice qA f.slips.length qC, .map (some bm)], .agg #[vi m, vi p]] W _
  have hp0 : (0 : Int) ≤ p := by omega
  go_enter Tryd.func70, Tryd.ntmps70
  go_wp2_with (at_make; go_loud (refine wpList_make_own _ rfl _ _ _ rfl (W.heap.size + 2) 22 i0 _ 1 Tryd.underlying43 hi hy0 hy1 .i64 .i64 (p : Int) p rfl rfl rfl (by rw [hy2]; omega) (by unfold maxLen; omega) (by simp) ?_; intro wb hown hgrow))
  have hsb := hgrow.size
  have HB0 : Below W.heap.size W wb := Below.grown (by (repeat (first | exact Below.refl _ _ | refine Below.setCell ?_ (by first | omega | (simp; omega) | (simp; done)) _ | refine Below.alloc ?_ (by first | omega | (simp; omega) | (simp; done)) _ | refine Below.drew ?_ | refine below_drewN ?_ _ | refine Below.trans ?_ (Below.mono (by assumption) (by first | omega | (simp; omega) | (simp; done)))))) hgrow (by simp; omega) (fun j e => by cases e)
  simp only [World.size_alloc] at hown hsb
  have X1 : Hid (CellsBox wb W.heap.size 108 (deskC f oA oC qA f.slips.length qC bm)) := by
    have := (CellsBox.new W 108 (deskC f oA oC qA f.slips.length qC bm)).alloc (.cells #[vi m, vi p] 116)
    exact (hgrow.block W.heap.size (by simp; omega) (by simp)).trans this
  have X2 : Hid (CellsBox wb (W.heap.size + 1) 116 [vi m, vi p]) := by
    have := CellsBox.new (W.alloc (.cells (deskC f oA oC qA f.slips.length qC bm).toArray 108)) 116 [vi m, vi p]
    rw [World.size_alloc] at this
    exact (hgrow.block (W.heap.size + 1) (by simp) (by simp)).trans this
  clear hgrow
  go_loopw [5] (fun v wr => ∃ (g cp i p' m' : Nat) (ts : List SRow), RosI f oA qA oC qC bm W.heap.size (W.heap.size + 1) p m g cp i p' m' v μ ts W wr ∧ i + p' = p) (fun v wr => (match v with | .slice _ i _ => p - i | _ => 0))
  case atStart => exact ⟨_, _, 0, p, m, [], ⟨HB0, X1.out, X2.out, hown, rfl, rfl, by simp, by simp, HC.out⟩, by omega⟩
  obtain ⟨g, cp, i, p', m', ts, hR, hip⟩ := hrel
  have HR := Lib.hid hR
  obtain ⟨hB, hbx, hcw, hown, rfl, hmany, heach, hlists, hok⟩ := hR
  have c0 := hcw.cell (j := 0) rfl
  have c1 := hcw.cell (j := 1) rfl
  have z2 := hcw.lt
  have z1 := hbx.lt
  have a0 := hbx.cell (j := 0) rfl
  have a1 := hbx.cell (j := 1) rfl
  have a2 := hbx.cell (j := 2) rfl
  have a3 := hbx.cell (j := 3) rfl
  have a4 := hbx.cell (j := 4) rfl
  have a5 := hbx.cell (j := 5) rfl
  have a6 := hbx.cell (j := 6) rfl
  have a7 := hbx.cell (j := 7) rfl
  have a8 := hbx.cell (j := 8) rfl
  have hcp : i ≤ cp := by
    rcases hown.2 with ⟨e, _⟩ | ⟨g', c', cur, e, _, _, h1, h2, _⟩
    · cases e
    · obtain ⟨_, rfl⟩ : _ ∧ cp = c' := by simpa using e
      exact h1
  have hcpI : (i : Int) ≤ cp := by omega
  clear hbx hcw hown heach hlists
  have hlk := look_crew (HM.out.below hB) m' p' false
  cases p' with
  | zero =>
    have hm0 : m' = 0 := by have := hok.can; unfold canF at this; simpa using this
    subst hm0
    clear hok
    go_wp2_with fail
    go_ret
    have hB := HR.out.below
    have hl := HR.out.lists
    rw [rosterF, List.map_nil, List.append_nil] at hl
    subst hmany
    refine ⟨some ⟨g, 0, none⟩, ts, rfl, ⟨?_, fun t ht => (HR.out.each t ht).1⟩, hl, hB⟩
    obtain ⟨A', c', e, h1, h2, h3, h4, h5, h6⟩ := own_rows (m := ts.map SRow.cells) (sz := 1) (by intro r hr; obtain ⟨t, _, rfl⟩ := List.mem_map.1 hr; rfl) HR.out.own (by simp) (by omega)
    obtain ⟨rfl, rfl⟩ : some ⟨g, 0, none⟩ = A' ∧ cp = c' := by simpa using e
    exact ⟨by simp, by rw [List.length_map] at h5; omega, h5, h6⟩
  | succ p' =>
    obtain ⟨hsh, hs9⟩ := hok.share H9.out HI.out
    have hnext := hok.next HI.out
    obtain ⟨s, hs⟩ : ∃ s, s = oneF f (p' + 1) m' := ⟨_, rfl⟩
    rw [← hs] at hsh hs9 hnext
    rw [hsh] at hlk
    obtain ⟨pI, hpI⟩ : ∃ pI : Int, pI = ((p' + 1 : Nat) : Int) := ⟨_, rfl⟩
    have hpe : (pI == 0) = false := by simp; omega
    have hp1 : pI - 1 = p' := by omega
    have hpw : IntKind.wrap .i64 (pI - 1) = p' := by rw [hp1]; exact wrapI (by omega) (by omega)
    have hm9 := hok.lt
    have hbits := less_fact m' s hm9 hs9
    have HPI := Lib.hid hpI
    rw [show crewV m' (p' + 1) = .agg #[vi m', vi pI] from by rw [hpI]] at hlk
    rw [← hpI] at c1
    simp only [Bool.false_eq_true, if_false] at hlk
    have SRT := Lib.hid (fun (X : World) hX => sorted_any (.slice f.fA f.far.length f.fC) (vi f.slo) (vi f.shi) (.slice f.pA f.picks.length f.pC) (vi f.carry) (.slice f.sA f.slips.length f.sC) oA oC (ordN f) (.slice qA f.slips.length qC) (.map (some bm)) (fun x hx => Nat.lt_of_lt_of_le (ordN_mem H9.out x hx) H9.out) (by rw [ordN_len H9.out]; exact H9.out) s hs9 X hX rfl rfl rfl rfl rfl rfl rfl rfl)
    rw [ordN_len H9.out] at SRT
    have HNX := Lib.hid hnext
    have HS := Lib.hid hs
    have HORD := Lib.hid (by rw [natsC_ord H9.out]; exact HD.out.ord : IntsAt W W.heap.size oA oC (natsC (ordN f)))
    obtain ⟨R, hRe⟩ : ∃ R, R = sortedF s (ordN f) := ⟨_, rfl⟩
    have HRE := Lib.hid hRe
    rw [← hRe] at SRT
    clear hpI hs hsh hnext hok hRe
    have hownr := HR.out.own
    go_wp2_with fail
    have n0 : ¬ (W.heap.size = wr.heap.size) := by omega
    have n1 : ¬ (W.heap.size + 1 = wr.heap.size) := by omega
    refine (SRT.out _ (HORD.out.to hB)).mono ?_
    rintro e wq ⟨A, rfl, hAt, hAb, hbq⟩
    have hownq := own_keep hownr hbq
    have hzq := hbq.size
    have hgl := hownr.lt g rfl
    have hAT := Lib.hid hAt
    have hAB := Lib.hid hAb
    have HR0 := HR.out.box
    have HR1 := HR.out.crew
    clear a0 a1 a2 a3 a4 a5 a6 a7 a8 c0 c1 hlk hAt hAb hown hownr SRT HORD
    go_wp2_with (at_builtin; go_loud (refine wpList_append_lies _ rfl _ _ 43 rfl (W.heap.size + 2) 22 i0 _ 1 24 Tryd.underlying43 hi hy0 hy1 hy2 rfl (by decide) (.slice (some ⟨g, 0, none⟩) i cp) i _ rfl (hownq.alloc _) ⟨wq.heap.size, 0, none⟩ 1 1 [.slice A R.length R.length] rfl rfl (cell_one_new _ _ _) (by simp [Value.oneCell']) (by omega) (by unfold maxLen; omega) (by omega) (by simp; omega) (wq.heap.size + 1) (by simp) ?_; intro gg cap5 w5 hown5 hgrow hat hlt5; have hcr5 : CellsBox w5 (W.heap.size + 1) 116 [vi m', vi pI] := (by rw [HPI.out]; exact (hgrow.block (W.heap.size + 1) (by simp; omega) (by simp [Value.ownBlock]; omega)).trans ((HR1.keep hbq).alloc _)); have c0 := hcr5.cell (j := 0) rfl; have c1 := hcr5.cell (j := 1) rfl; have q0 := hcr5.frozen 0; have q1 := hcr5.frozen 1; have z3 := hcr5.lt; have HCR5 := Lib.hid hcr5; clear hcr5))
    have hsz5 := hgrow.size
    simp only [World.size_alloc] at hsz5
    have hgg : g = gg ∨ gg = wq.heap.size + 1 := by simpa [Value.ownBlock] using hat
    have far : ∀ q : Addr, q.block < wq.heap.size → q.block ≠ g → w5.cell? q = wq.cell? q := fun q hp hne =>
      (hgrow.cell_far q (by simp; omega) (by simp [Value.ownBlock]; omega)).trans (((Below.refl _ wq).alloc (Nat.le_refl _) _).cell hp)
    have B5 : Below W.heap.size W w5 := Below.grown ((hB.trans (hbq.mono (by omega))).alloc (by omega) _) hgrow (by simp; omega) (fun j e => by simp [Value.ownBlock] at e; omega)
    have D5 : CellsBox w5 W.heap.size 108 (deskC f oA oC qA f.slips.length qC bm) := (hgrow.block W.heap.size (by simp; omega) (by simp [Value.ownBlock]; omega)).trans ((HR0.keep hbq).alloc _)
    have OW : w5.ownsRow (W.heap.size + 2) 22 1 (.slice (some ⟨gg, 0, none⟩) (i + 1) cap5) (i + 1) ((ts ++ [(⟨A, R.length, natsC R⟩ : SRow)]).map SRow.cells).flatten := by
      simpa [SRow.cells, SRow.slice] using hown5
    have E5 : ∀ t ∈ ts ++ [(⟨A, R.length, natsC R⟩ : SRow)], IntsAt w5 w5.heap.size t.ad t.cap t.slips ∧ FreeI t gg ∧ FreeI t (W.heap.size + 1) := by
      intro t ht
      rcases List.mem_append.1 ht with h1 | h1
      · obtain ⟨e1, e2, e3⟩ := HR.out.each t h1
        refine ⟨ints_more (ints_apart (e1.to hbq) e2 far) (by omega), ?_, e3⟩
        rcases hgg with rfl | rfl
        · exact e2
        · intro hl b hb
          obtain ⟨b', o', hA, hlt, _⟩ := e1.row (by simpa using hl)
          rw [hA] at hb
          cases hb
          simp only
          omega
      · obtain rfl : t = (⟨A, R.length, natsC R⟩ : SRow) := by simpa using h1
        have hf : FreeI (⟨A, R.length, natsC R⟩ : SRow) g := fun hl b hb => by have := hAB.out b hb; omega
        refine ⟨ints_more (ints_apart hAT.out hf far) (by omega), ?_, fun hl b hb => by have := hAB.out b hb; omega⟩
        rcases hgg with rfl | rfl
        · exact hf
        · intro hl b hb
          obtain ⟨b', o', hA, hlt, _⟩ := hAT.out.row (by simpa using hl)
          rw [show A = some b from hb] at hA
          cases hA
          simp only
          omega
    have L5 : (ts ++ [(⟨A, R.length, natsC R⟩ : SRow)]).map SRow.slips ++ (rosterF f p' (lessF m' s)).map natsC = (rosterF f p m).map natsC := by
      rw [← HR.out.lists, rosterF, ← HS.out, ← HRE.out]
      simp
    refine ⟨⟨gg, cap5, i + 1, p', lessF m' s, ts ++ [(⟨A, R.length, natsC R⟩ : SRow)], ⟨?_, ?_, ?_, ?_, rfl, by simp [hmany], ?_, L5, HNX.out⟩, by omega⟩, by simp only; omega⟩
    · exact (B5.setCell (by simp) _).setCell (by simp) _
    · exact (D5.apart _ _ (by simp)).apart _ _ (by simp)
    · exact (HCR5.out.store 0 _).store 1 _
    · have hlo := (OW.lt gg rfl).1
      have hne : (Value.slice (some ⟨gg, 0, none⟩) (i + 1) cap5).ownBlock ≠ some (W.heap.size + 1) := by
        intro e
        have : gg = W.heap.size + 1 := by simpa [Value.ownBlock] using e
        omega
      exact (OW.kept (grownBy_set w5 (W.heap.size + 1) 0 (vi (lessF m' s))) (.inr hne)).kept (grownBy_set _ (W.heap.size + 1) 1 (vi p')) (.inr hne)
    · intro t ht
      obtain ⟨e1, e2, e3⟩ := E5 t ht
      refine ⟨?_, e2, e3⟩
      have := ints_apart (w' := (w5.setCell ⟨W.heap.size + 1, 0, none⟩ (vi (lessF m' s))).setCell ⟨W.heap.size + 1, 1, none⟩ (vi p')) e1 e3 (fun q _ hne => by
        rw [World.cell?_of_block (heap_setCell_other _ _ q.block _ hne), World.cell?_of_block (heap_setCell_other _ _ q.block _ hne)])
      simpa using this
end Go.Proofs.YtomgnpfpaodpiaaDoor

/- Contract of Roster. -/
namespace Go.Proofs.YtomgnpfpaodpiaaDoor
open Go Go.RowKit Go.Shelf
set_option maxHeartbeats 3000000
theorem below_spare {w X Y : World} {bm : Nat} (h : Below w.heap.size w X) (hs : Spare X.heap.size bm X Y) (hb : w.heap.size ≤ bm) : Below w.heap.size w Y :=
  ⟨hs.os.trans h.os, hs.tape.trans h.tape, hs.output.trans h.output, Nat.le_trans h.size hs.size, fun k hk => (hs.block k (by have := h.size; omega) (by omega)).trans (h.block k hk)⟩
theorem DeskAt.into {w : World} {f : Floor} {oA qA : Option Addr} {qC bm : Nat} (h : DeskAt w f oA qA qC bm) (hf : FloorAt w w.heap.size f) : DeskIn w f oA qA f.slips.length := ⟨hf, h.ord, h.secs⟩
theorem Inv.empty (f : Floor) (P : Nat) : Inv f P fun _ _ => none := ⟨(fun _ _ _ _ e => by cases e), (fun _ _ _ _ e => by cases e)⟩
def RosterV (f : Floor) : List (List Nat) × Int := if checkV f = 0 then (match fewF f with | none => ([], 4) | some p => (rosterF f p (allF f), 0)) else ([], checkV f)
theorem few_can {f : Floor} {p : Nat} (h : fewF f = some p) : 1 ≤ p ∧ p ≤ 5 ∧ canF f p (allF f) = true := by
  unfold fewF at h
  have h1 := List.mem_of_find?_eq_some h
  have h2 := List.find?_some (p := fun p => canF f p (allF f)) h
  refine ⟨?_, ?_, h2⟩
  · simp at h1; omega
  · simp at h1; omega
set_option maxRecDepth 100000 in
theorem Roster_any (f : Floor) (w : World) (hl : Lim w) (h : FloorAt w w.heap.size f) :
    Calls Tryd.prog 28 #[f.val] w fun e w' => ∃ A ts, e = .returned (.tuple #[.slice A ts.length ts.length, vi (RosterV f).2]) ∧ RosterAt w' w'.heap.size A ts.length ts ∧ ts.map SRow.slips = (RosterV f).1.map natsC ∧ Below w.heap.size w w' := by
  have HL := Lib.hid hl
  have HF := Lib.hid h
  rcases check_two f with ⟨hc, hv⟩ | ⟨hc, hv⟩
  · have CH := Lib.hid (fun (W : World) hL hW => check_is hc W hL hW)
    have E : RosterV f = ([], 30) := by unfold RosterV; rw [if_neg (by omega), hc]
    rw [E]
    clear h hl hc E hv
    go_enter Tryd.func28, Tryd.ntmps28
    go_wp2_with fail
    refine (CH.out _ (HL.out.next (by (repeat (first | exact Below.refl _ _ | refine Below.setCell ?_ (by first | omega | (simp; omega) | (simp; done)) _ | refine Below.alloc ?_ (by first | omega | (simp; omega) | (simp; done)) _ | refine Below.drew ?_ | refine below_drewN ?_ _ | refine Below.trans ?_ (Below.mono (by assumption) (by first | omega | (simp; omega) | (simp; done))))))) (HF.out.to (by (repeat (first | exact Below.refl _ _ | refine Below.setCell ?_ (by first | omega | (simp; omega) | (simp; done)) _ | refine Below.alloc ?_ (by first | omega | (simp; omega) | (simp; done)) _ | refine Below.drew ?_ | refine below_drewN ?_ _ | refine Below.trans ?_ (Below.mono (by assumption) (by first | omega | (simp; omega) | (simp; done)))))))).mono ?_
    rintro e W ⟨rfl, hb⟩
    have HB0 : Below w.heap.size w W := by (repeat (first | exact Below.refl _ _ | refine Below.setCell ?_ (by first | omega | (simp; omega) | (simp; done)) _ | refine Below.alloc ?_ (by first | omega | (simp; omega) | (simp; done)) _ | refine Below.drew ?_ | refine below_drewN ?_ _ | refine Below.trans ?_ (Below.mono (by assumption) (by first | omega | (simp; omega) | (simp; done)))))
    clear hb
    go_wp2_with fail
    go_ret2
    exact ⟨none, [], rfl, ⟨rows_nil _ _, by simp⟩, rfl, HB0⟩
  · have hf := fine hv
    have CH := Lib.hid (fun (W : World) hL hW => check_is hc W hL hW)
    have E : Hid (RosterV f = match fewF f with | none => ([], 4) | some p => (rosterF f p (allF f), 0)) := by unfold Hid RosterV; rw [if_pos hc]
    have HV := Lib.hid hv
    have H9 := Lib.hid hf.slips9
    obtain ⟨RV, hRV⟩ : ∃ RV, RV = RosterV f := ⟨_, rfl⟩
    rw [← hRV] at E ⊢
    clear h hl hc hf hRV
    go_enter Tryd.func28, Tryd.ntmps28
    go_wp2_with fail
    refine (CH.out _ (HL.out.next (by (repeat (first | exact Below.refl _ _ | refine Below.setCell ?_ (by first | omega | (simp; omega) | (simp; done)) _ | refine Below.alloc ?_ (by first | omega | (simp; omega) | (simp; done)) _ | refine Below.drew ?_ | refine below_drewN ?_ _ | refine Below.trans ?_ (Below.mono (by assumption) (by first | omega | (simp; omega) | (simp; done))))))) (HF.out.to (by (repeat (first | exact Below.refl _ _ | refine Below.setCell ?_ (by first | omega | (simp; omega) | (simp; done)) _ | refine Below.alloc ?_ (by first | omega | (simp; omega) | (simp; done)) _ | refine Below.drew ?_ | refine below_drewN ?_ _ | refine Below.trans ?_ (Below.mono (by assumption) (by first | omega | (simp; omega) | (simp; done)))))))).mono ?_
    rintro e W ⟨rfl, hb⟩
    have HB0 : Below w.heap.size w W := by (repeat (first | exact Below.refl _ _ | refine Below.setCell ?_ (by first | omega | (simp; omega) | (simp; done)) _ | refine Below.alloc ?_ (by first | omega | (simp; omega) | (simp; done)) _ | refine Below.drew ?_ | refine below_drewN ?_ _ | refine Below.trans ?_ (Below.mono (by assumption) (by first | omega | (simp; omega) | (simp; done)))))
    have a0 : W.cell? ⟨w.heap.size, 0, none⟩ = some (.slice f.fA f.far.length f.fC) := cell_keep hb (by simp [go_sem])
    have a1 : W.cell? ⟨w.heap.size, 1, none⟩ = some (vi f.slo) := cell_keep hb (by simp [go_sem])
    have a2 : W.cell? ⟨w.heap.size, 2, none⟩ = some (vi f.shi) := cell_keep hb (by simp [go_sem])
    have a3 : W.cell? ⟨w.heap.size, 3, none⟩ = some (.slice f.pA f.picks.length f.pC) := cell_keep hb (by simp [go_sem])
    have a4 : W.cell? ⟨w.heap.size, 4, none⟩ = some (vi f.carry) := cell_keep hb (by simp [go_sem])
    have a5 : W.cell? ⟨w.heap.size, 5, none⟩ = some (.slice f.sA f.slips.length f.sC) := cell_keep hb (by simp [go_sem])
    have zW := cell_lt a0
    clear hb CH
    go_wp2_with fail
    refine (desk_any f hv _ (HF.out.to HB0)).mono ?_
    rintro e W1 ⟨oA, qA, qC, bm, rfl, hD, hbm, hb⟩
    have HB1 : Below w.heap.size w W1 := HB0.trans (hb.mono HB0.size)
    have hz0 := HB0.size
    have hz1 := hb.size
    have HD := Lib.hid (hD.into (HF.out.to HB1))
    have hMt := (Array.getElem?_eq_some_iff.1 hD.map).1
    have HM := Lib.hid (CrewMap.new hD.map)
    clear hb hD a0 a1 a2 a3 a4 a5
    go_wp2_with fail
    obtain ⟨V, hV⟩ : ∃ V, V = W1.alloc (.cells #[.slice f.fA f.far.length f.fC, vi f.slo, vi f.shi, .slice f.pA f.picks.length f.pC, vi f.carry, .slice f.sA f.slips.length f.sC, .slice oA f.slips.length f.slips.length, .slice qA f.slips.length qC, .map (some bm)] 108) := ⟨_, rfl⟩
    have hbV : Below W1.heap.size W1 V := by rw [hV]; (repeat (first | exact Below.refl _ _ | refine Below.setCell ?_ (by first | omega | (simp; omega) | (simp; done)) _ | refine Below.alloc ?_ (by first | omega | (simp; omega) | (simp; done)) _ | refine Below.drew ?_ | refine below_drewN ?_ _ | refine Below.trans ?_ (Below.mono (by assumption) (by first | omega | (simp; omega) | (simp; done)))))
    have HX : Hid (CellsBox V W1.heap.size 108 (deskC f oA f.slips.length qA f.slips.length qC bm)) := by unfold Hid; rw [hV]; exact CellsBox.new W1 _ _
    rw [← hV]
    clear hV
    have HBV := HB1.trans (hbV.mono HB1.size)
    have HDV := Lib.hid (HD.out.cs (cs_of_below hbV))
    have HMV := Lib.hid (HM.out.below hbV)
    have hzV := hbV.size
    clear hbV HD HM
    refine (fewest_any f hv oA qA f.slips.length qC bm V _ (HL.out.next HBV) HDV.out HMV.out (Inv.empty f 5)).mono ?_
    rintro e W2 ⟨rfl, μ, hP, hk⟩
    have HP := Lib.hid hP
    have HK := Lib.hid hk
    have HB2 := below_spare HBV hP.spare (by omega)
    have HX2 := Lib.hid (hP.cs.box HX.out)
    have hz2 := hP.cs.size
    have HD2 := Lib.hid (HDV.out.cs hP.cs)
    clear hP hk HX hv
    cases hfew : fewF f with
    | none =>
      have E2 : Hid (RV = ([], 4)) := by unfold Hid; rw [E.out, hfew]
      simp only [Option.getD_none, Option.isSome_none]
      clear E
      go_wp2_with fail
      go_ret2
      rw [E2.out]
      exact ⟨none, [], rfl, ⟨rows_nil _ _, by simp⟩, rfl, HB2⟩
    | some p =>
      have E2 : Hid (RV = (rosterF f p (allF f), 0)) := by unfold Hid; rw [E.out, hfew]
      simp only [Option.getD_some, Option.isSome_some]
      obtain ⟨hp1, hp5, hcan⟩ := few_can hfew
      have HCR : Hid (Crew f μ p (allF f)) := ⟨hp5, allF_lt H9.out, hcan, fun h _ => HK.out p hfew h⟩
      have AL := Lib.hid (fun X => all_any f H9.out X)
      have E0 : (2 ^ f.slips.length - 1 : Nat) = allF f := rfl
      rw [E0] at AL
      have ROS := Lib.hid (fun X hX hY => roster_any f HV.out oA qA f.slips.length qC bm p (allF f) X μ hX hY HP.out.inv HCR.out)
      obtain ⟨m, hm⟩ : ∃ m, m = allF f := ⟨_, rfl⟩
      rw [← hm] at AL ROS E2
      clear E E0 hfew hcan HK HCR hm
      go_wp2_with fail
      refine' wp_region_box (fun w' => CS W2 w') (fun a b h h' => h.trans (cs_of_below h')) [0, 1, 2, 3, 4, 5] 3 30 (by kernel_rfl) (by kernel_rfl) rfl (by kernel_rfl) (by kernel_rfl) rfl (by kernel_rfl) ?hl5 (CS.refl _) ?hq5 ?hr5
      case hl5 =>
        simp only [List.map_cons, List.map_nil, List.getD_cons_zero, List.getD_cons_succ]
        exact rfl
      case hq5 =>
        intro w0 K
        have Y := K.box HX2.out
        have f0 := Y.cell (j := 0) rfl
        have f1 := Y.cell (j := 1) rfl
        have f2 := Y.cell (j := 2) rfl
        have f3 := Y.cell (j := 3) rfl
        have f4 := Y.cell (j := 4) rfl
        have f5 := Y.cell (j := 5) rfl
        have f6 := Y.cell (j := 6) rfl
        have f7 := Y.cell (j := 7) rfl
        have f8 := Y.cell (j := 8) rfl
        have zf := Y.lt
        (repeat (go_big_quiet_step ((go_at_call 71; refine Calls.grow_of (AL.out _)))))
        exact wpQuiet_nil rfl
      case hr5 =>
        refine wpUp_one (i := 6) (by kernel_rfl) rfl rfl (fun wa a1 a2 Ka hKa => ?_)
        go_simp
        refine (ROS.out wa (HD2.out.cs a2) (HP.out.map.below a1)).mono ?_
        rintro e w3 ⟨A, ts, rfl, hAt, hts, hb3⟩
        have hAT := Lib.hid hAt
        have hTS := Lib.hid hts
        clear hAt hts
        refine hKa _ _ (a2.trans (cs_of_below hb3)) ?_
        refine wpUp_one (i := 7) (by kernel_rfl) rfl rfl (fun wb b1 b2 Kb hKb => ?_)
        go_simp
        refine hKb _ _ b2 ?_
        refine wpUp_one (i := 8) (by kernel_rfl) rfl rfl (fun wc c1 c2 Kc hKc => ?_)
        go_simp
        refine hKc _ _ c2 (wpUp_done (by kernel_rfl) (fun W8 g1 g2 => NoPanic.normal ?_))
        have hbb : Below w3.heap.size w3 W8 := gr_trans (gr_trans b1 c1) g1
        have HB8 : Below w.heap.size w W8 := ((HB2.trans (a1.mono HB2.size)).trans (hb3.mono (by have := a1.size; have := HB2.size; omega))).trans (hbb.mono (by have := a1.size; have := HB2.size; have := hb3.size; omega))
        have hA8 := hAT.out.to hbb
        have HA8 := Lib.hid hA8
        clear hA8
        go_wp2_with fail
        go_ret2
        rw [E2.out]
        exact ⟨A, ts, rfl, HA8.out, hTS.out, HB8⟩
end Go.Proofs.YtomgnpfpaodpiaaDoor

/- Contract of sort.Search with the closure of Spare. -/
namespace Go.Proofs.YtomgnpfpaodpiaaDoor
open Go Go.RowKit Go.Shelf
set_option maxHeartbeats 3000000
abbrev spareV (bF bN bP : Nat) : Value := .func (.func 79) #[] #[.pointer (some ⟨bF, 0, none⟩), .pointer (some ⟨bN, 0, none⟩), .pointer (some ⟨bP, 0, none⟩)]
set_option maxRecDepth 100000 in
theorem search_any (n : Nat) (hn : n ≤ 100000) (Q : Nat → Bool) (bF bN bP : Nat) (w : World)
    (hQ : ∀ (i : Nat) (X : World), i < n → Below w.heap.size w X → Calls Tryd.prog 79 #[vi i, .pointer (some ⟨bF, 0, none⟩), .pointer (some ⟨bN, 0, none⟩), .pointer (some ⟨bP, 0, none⟩)] X fun e X' => e = .returned (.bool (Q i)) ∧ Below X.heap.size X X') :
    Calls Tryd.prog 78 #[vi n, spareV bF bN bP] w fun e w' => ∃ r : Nat, e = .returned (vi r) ∧ r ≤ n ∧ (∀ k, r = k + 1 → Q k = false) ∧ (r < n → Q r = true) ∧ Below w.heap.size w w' := by
  have HQ := Lib.hid hQ
  clear hQ
  go_enter Tryd.func78, Tryd.ntmps78
  go_wp2_with fail
  go_loopw [5, 6] (fun x y wr => ∃ i j : Nat, x = vi i ∧ y = vi j ∧ i ≤ j ∧ j ≤ n ∧ Hid (∀ k, i = k + 1 → Q k = false) ∧ Hid (j < n → Q j = true) ∧ Below w.heap.size w wr) (fun x y _ => (intOf y).toNat - (intOf x).toNat)
  case atStart => exact ⟨0, n, rfl, rfl, by omega, by omega, fun k h => by omega, fun h => by omega, Below.refl _ _⟩
  obtain ⟨i, j, rfl, rfl, hij, hjn, H1, H2, hB⟩ := hrel
  by_cases hlt : i < j
  · have hltI : (i : Int) < j := by omega
    have hsum : IntKind.wrap .i64 ((i : Int) + j) = ((i + j : Nat) : Int) := by rw [show (i : Int) + j = ((i + j : Nat) : Int) by omega]; exact wrapI (by omega) (by omega)
    go_wp2_with fail
    obtain ⟨h, hh⟩ : ∃ h : Nat, h = (i + j) / 2 := ⟨_, rfl⟩
    have hhI : ((i : Int) + j) / 2 = (h : Int) := by omega
    have hi1 : i ≤ h := by omega
    have hi2 : h < j := by omega
    simp only [hhI]
    refine (HQ.out h wr (by omega) hB).mono ?_
    rintro e W2 ⟨rfl, hb⟩
    have hB2 : Below w.heap.size w W2 := hB.trans (hb.mono hB.size)
    obtain ⟨b, hbb⟩ : ∃ b, b = Q h := ⟨_, rfl⟩
    rw [← hbb]
    have HBB := Lib.hid hbb
    clear hbb hb hhI hh hsum
    have hwr : IntKind.wrap .i64 ((h : Int) + 1) = ((h + 1 : Nat) : Int) := by rw [show (h : Int) + 1 = ((h + 1 : Nat) : Int) by omega]; exact wrapI (by omega) (by omega)
    rcases b with _ | _
    · go_wp2_with fail
      go_roundw
      case rel =>
        refine ⟨h + 1, j, by go_num, rfl, by omega, hjn, ?_, H2, hB2⟩
        intro k e
        have e2 : k = h := by omega
        subst e2
        exact HBB.out.symm
      case measure => simp [intOf]; omega
    · go_wp2_with fail
      go_roundw
      case rel => exact ⟨i, h, rfl, rfl, hi1, by omega, H1, fun _ => HBB.out.symm, hB2⟩
      case measure => simp [intOf]; omega
  · obtain rfl : i = j := by omega
    go_wp2_with fail
    go_ret
    exact ⟨i, rfl, hjn, H1.out, H2.out, hB⟩
end Go.Proofs.YtomgnpfpaodpiaaDoor

/- The closure of Spare. -/
namespace Go.Proofs.YtomgnpfpaodpiaaDoor
open Go Go.RowKit Go.Shelf
set_option maxHeartbeats 3000000
/-- the floor with another Until, wherever its slips lie -/
abbrev tillF (f : Floor) (k : Nat) (u : Int) : Floor := withF f none 0 k u
theorem hi_at (f : Floor) (A : Option Addr) (C k : Nat) (u : Int) (l : List SLine) (st : Int) : ∀ n, secsKHi (withF f A C k u) l st n = secsKHi f l st n
  | 0 => rfl
  | n + 1 => by rw [secsKHi, secsKHi, hi_at f A C k u l st n]; rfl
theorem lo_at (f : Floor) (A : Option Addr) (C k : Nat) (u : Int) (l : List SLine) (st : Int) : ∀ n, secsKLo (withF f A C k u) l st n = secsKLo f l st n
  | 0 => rfl
  | n + 1 => by rw [secsKLo, secsKLo, lo_at f A C k u l st n]; rfl
theorem steps_at (f : Floor) (A : Option Addr) (C k : Nat) (u : Int) (s : SSlip) : stepsF (withF f A C k u) s = stepsF f s := by
  unfold stepsF
  rfl
theorem takes_at (f : Floor) (A : Option Addr) (C k : Nat) (u : Int) (s : SSlip) : takesF (withF f A C k u) s = takesF f s := by
  rw [takesF, takesF, steps_at, secsFLo, secsFLo, secsFHi, secsFHi, hi_at, lo_at]
theorem secs_at (f : Floor) (A : Option Addr) (C k : Nat) (u : Int) : secsL (withF f A C k u) = secsL (tillF f k u) := by
  unfold secsL
  apply List.map_congr_left
  intro s _
  rw [takes_at, takes_at]
theorem key_at (f : Floor) (A : Option Addr) (C k : Nat) (u : Int) : keyF (withF f A C k u) = keyF (tillF f k u) := rfl
theorem order_at (f : Floor) (A : Option Addr) (C k : Nat) (u : Int) : orderF (withF f A C k u) = orderF (tillF f k u) := rfl
theorem loop_at (f : Floor) (A : Option Addr) (C k : Nat) (u : Int) (m : Nat) : ∀ (rest : List Nat) (to : Nat) (sec : Int), loopF (withF f A C k u) m to sec rest = loopF (tillF f k u) m to sec rest
  | [], _, _ => rfl
  | s :: rest, to, sec => by
    rw [loopF, loopF, loop_at f A C k u m rest, loop_at f A C k u m rest, okF, okF, secs_at, key_at]
theorem given_at (f : Floor) (A : Option Addr) (C k : Nat) (u : Int) (m : Nat) : givenF (withF f A C k u) m = givenF (tillF f k u) m := loop_at f A C k u m _ _ _
theorem can_at (f : Floor) (A : Option Addr) (C k : Nat) (u : Int) : ∀ (p m : Nat), canF (withF f A C k u) p m = canF (tillF f k u) p m
  | 0, _ => rfl
  | p + 1, m => by
    rw [canF, canF, given_at]
    have : (fun x => canF (withF f A C k u) p (lessF m x)) = fun x => canF (tillF f k u) p (lessF m x) := funext fun x => can_at f A C k u p (lessF m x)
    rw [this]
theorem valid_till {f : Floor} (hv : validB f = true) (A : Option Addr) (C k : Nat) {u : Int} (h0 : 0 ≤ u) (h1 : u ≤ 100000) : validB (withF f A C k u) = true := by
  unfold validB at hv ⊢
  simp only [Bool.and_eq_true] at hv ⊢
  obtain ⟨⟨⟨⟨v1, v2⟩, v3⟩, v4⟩, v5⟩ := hv
  have hl : (withF f A C k u).slips.length = f.slips.length := by simp [withF]
  rw [hl]
  refine ⟨⟨⟨⟨v1, v2⟩, v3⟩, v4⟩, ?_⟩
  rw [List.all_eq_true] at v5 ⊢
  intro i hi
  have hg := v5 i hi
  have hlt := List.mem_range.1 hi
  have e : (withF f A C k u).slips[i]? = some (if k = i then { f.slips[i] with till := u } else f.slips[i]) := by
    simp only [withF, List.getElem?_modify, List.getElem?_eq_getElem hlt, Option.map_some]
    split <;> rfl
  rw [goodSlip_of (List.getElem?_eq_getElem hlt), Bool.and_eq_true] at hg
  rw [goodSlip_of e, Bool.and_eq_true]
  split
  · exact ⟨by simp [hasB]; omega, hg.2⟩
  · exact hg
/-- are so many pickers enough with another Until -/
def enoughF (f : Floor) (k p : Nat) (u : Int) : Bool := canF (tillF f k u) p (allF f)
end Go.Proofs.YtomgnpfpaodpiaaDoor

/- Contract of the closure of Spare. -/
namespace Go.Proofs.YtomgnpfpaodpiaaDoor
open Go Go.RowKit Go.Shelf
set_option maxHeartbeats 3000000
set_option maxRecDepth 100000 in
theorem enough_any (f : Floor) (hv : validB f = true) (k p u : Nat) (s : SSlip) (hs : f.slips[k]? = some s) (hp : p ≤ 5) (hu : u ≤ 100000) (bF bN bP : Nat) (w : World)
    (hF : CellsBox w bF 28 f.cells) (hN : CellsBox w bN 3 [vi k]) (hP : CellsBox w bP 3 [vi p]) (h : FloorAt w w.heap.size f) :
    Calls Tryd.prog 79 #[vi u, .pointer (some ⟨bF, 0, none⟩), .pointer (some ⟨bN, 0, none⟩), .pointer (some ⟨bP, 0, none⟩)] w fun e w' => e = .returned (.bool (enoughF f k p u)) ∧ Below w.heap.size w w' := by
  have h9 := (fine hv).slips9
  have HF := Lib.hid h
  have HV := Lib.hid hv
  have HPB := Lib.hid hP
  have a0 := hF.cell (j := 0) rfl
  have a1 := hF.cell (j := 1) rfl
  have a2 := hF.cell (j := 2) rfl
  have a3 := hF.cell (j := 3) rfl
  have a4 := hF.cell (j := 4) rfl
  have a5 := hF.cell (j := 5) rfl
  have za := hF.lt
  have n0 := hN.cell (j := 0) rfl
  have zn := hN.lt
  have zp := hP.lt
  have WA := Lib.hid (fun (W : World) hW => with_any f k s hs h9 u W hW)
  have H9 := Lib.hid h9
  obtain ⟨an, han⟩ : ∃ an, an = enoughF f k p u := ⟨_, rfl⟩
  rw [← han]
  have HAN := Lib.hid han
  clear h hv hs h9 han hF hN hP
  go_enter Tryd.func79, Tryd.ntmps79
  go_wp2_with fail
  refine (WA.out _ (HF.out.to (by (repeat (first | exact Below.refl _ _ | refine Below.setCell ?_ (by first | omega | (simp; omega) | (simp; done)) _ | refine Below.alloc ?_ (by first | omega | (simp; omega) | (simp; done)) _ | refine Below.drew ?_ | refine below_drewN ?_ _ | refine Below.trans ?_ (Below.mono (by assumption) (by first | omega | (simp; omega) | (simp; done)))))))).mono ?_
  rintro e W0 ⟨g, c, rfl, hFW, hb⟩
  have HB0 : Below w.heap.size w W0 := by (repeat (first | exact Below.refl _ _ | refine Below.setCell ?_ (by first | omega | (simp; omega) | (simp; done)) _ | refine Below.alloc ?_ (by first | omega | (simp; omega) | (simp; done)) _ | refine Below.drew ?_ | refine below_drewN ?_ _ | refine Below.trans ?_ (Below.mono (by assumption) (by first | omega | (simp; omega) | (simp; done)))))
  have HFW := Lib.hid hFW
  have hvw : validB (withF f (some ⟨g, 0, none⟩) c k u) = true := valid_till HV.out _ _ _ (by omega) (by omega)
  have HVW := Lib.hid hvw
  obtain ⟨f2, hf2⟩ : ∃ f2, f2 = withF f (some ⟨g, 0, none⟩) c k u := ⟨_, rfl⟩
  rw [← hf2] at HFW HVW hvw ⊢
  have HF2 := Lib.hid hf2
  clear hb hFW hf2 a0 a1 a2 a3 a4 a5 n0
  go_wp2_with fail
  refine (desk_any f2 hvw _ HFW.out).mono ?_
  rintro e W1 ⟨oA, qA, qC, bm, rfl, hD, hbm, hb⟩
  have hz0 := HB0.size
  have hz1 := hb.size
  have HB1 : Below w.heap.size w W1 := HB0.trans (hb.mono HB0.size)
  have HD := Lib.hid (hD.into (HFW.out.to hb))
  have hMt := (Array.getElem?_eq_some_iff.1 hD.map).1
  have HM := Lib.hid (CrewMap.new hD.map)
  clear hb hD
  go_wp2_with fail
  obtain ⟨V, hV⟩ : ∃ V, V = W1.alloc (.cells #[.slice f2.fA f2.far.length f2.fC, vi f2.slo, vi f2.shi, .slice f2.pA f2.picks.length f2.pC, vi f2.carry, .slice f2.sA f2.slips.length f2.sC, .slice oA f2.slips.length f2.slips.length, .slice qA f2.slips.length qC, .map (some bm)] 108) := ⟨_, rfl⟩
  have hbV : Below W1.heap.size W1 V := by rw [hV]; (repeat (first | exact Below.refl _ _ | refine Below.setCell ?_ (by first | omega | (simp; omega) | (simp; done)) _ | refine Below.alloc ?_ (by first | omega | (simp; omega) | (simp; done)) _ | refine Below.drew ?_ | refine below_drewN ?_ _ | refine Below.trans ?_ (Below.mono (by assumption) (by first | omega | (simp; omega) | (simp; done)))))
  have HX : Hid (CellsBox V W1.heap.size 108 (deskC f2 oA f2.slips.length qA f2.slips.length qC bm)) := by unfold Hid; rw [hV]; exact CellsBox.new W1 _ _
  rw [← hV]
  clear hV
  have HBV := HB1.trans (hbV.mono HB1.size)
  have HDV := Lib.hid (HD.out.cs (cs_of_below hbV))
  have HMV := Lib.hid (HM.out.below hbV)
  have HPV : Hid (CellsBox V bP 3 [vi p]) := HPB.out.keep HBV
  have hlen : f2.slips.length = f.slips.length := by rw [HF2.out]; simp [withF]
  have hz2 := HBV.size
  have hm9 : allF f < 512 := allF_lt H9.out
  have AL := Lib.hid (fun X => all_any f2 (by rw [hlen]; exact H9.out) X)
  have E0 : (2 ^ f2.slips.length - 1 : Nat) = allF f := by rw [hlen]; rfl
  rw [E0] at AL
  have CAN := Lib.hid (fun X hX hY => can_any f2 HVW.out oA qA f2.slips.length qC bm p (allF f) hp hm9 X (fun _ _ => none) hX hY (Inv.empty f2 p))
  have EAN : Hid (canF f2 p (allF f) = an) := by unfold Hid; rw [HAN.out, HF2.out, can_at, enoughF]
  rw [EAN.out] at CAN
  obtain ⟨m, hm⟩ : ∃ m, m = allF f := ⟨_, rfl⟩
  rw [← hm] at AL CAN
  clear hbV HD HM E0 hm hm9 hlen hvw
  refine' wp_region_box (fun w' => CS V w') (fun a b h h' => h.trans (cs_of_below h')) [0, 1, 2, 3, 4, 5] 2 20 (by kernel_rfl) (by kernel_rfl) rfl (by kernel_rfl) (by kernel_rfl) rfl (by kernel_rfl) ?hl5 (CS.refl _) ?hq5 ?hr5
  case hl5 =>
    simp only [List.map_cons, List.map_nil, List.getD_cons_zero, List.getD_cons_succ]
    exact rfl
  case hq5 =>
    intro w0 K
    have Y := K.box HX.out
    have f0 := Y.cell (j := 0) rfl
    have f1 := Y.cell (j := 1) rfl
    have f2 := Y.cell (j := 2) rfl
    have f3 := Y.cell (j := 3) rfl
    have f4 := Y.cell (j := 4) rfl
    have f5 := Y.cell (j := 5) rfl
    have f6 := Y.cell (j := 6) rfl
    have f7 := Y.cell (j := 7) rfl
    have f8 := Y.cell (j := 8) rfl
    have zf := Y.lt
    have q0 := (K.box HPV.out).cell (j := 0) rfl
    have zq := (K.box HPV.out).lt
    (repeat (go_big_quiet_step ((go_at_call 71; refine Calls.grow_of (AL.out _)))))
    exact wpQuiet_nil rfl
  case hr5 =>
    refine wpUp_one (i := 6) (by kernel_rfl) rfl rfl (fun wa a1 a2 Ka hKa => ?_)
    go_simp
    refine (CAN.out wa (HDV.out.cs a2) (HMV.out.below a1)).mono ?_
    rintro e w3 ⟨rfl, μ, hP⟩
    have HP := Lib.hid hP
    clear hP
    refine hKa _ _ (a2.trans HP.out.cs) ?_
    refine wpUp_one (i := 7) (by kernel_rfl) rfl rfl (fun wc c1 c2 Kc hKc => ?_)
    go_simp
    refine hKc _ _ c2 (wpUp_done (by kernel_rfl) (fun W8 g1 g2 => NoPanic.normal ?_))
    have HBa : Below w.heap.size w wa := HBV.trans (a1.mono HBV.size)
    have HB3 : Below w.heap.size w w3 := below_spare HBa HP.out.spare (by omega)
    have HB8 : Below w.heap.size w W8 := HB3.trans ((gr_trans c1 g1).mono HB3.size)
    go_wp2_with fail
    go_ret
    exact ⟨rfl, HB8⟩
end Go.Proofs.YtomgnpfpaodpiaaDoor

/- Contract of Spare. -/
namespace Go.Proofs.YtomgnpfpaodpiaaDoor
open Go Go.RowKit Go.Shelf
set_option maxHeartbeats 3000000
structure IsSpare (f : Floor) (k p t r : Nat) : Prop where
  le : r ≤ t
  under : ∀ j : Nat, r = j + 1 → enoughF f k p j = false
  enough : r < t → enoughF f k p r = true
/-- what Spare answers -/
def SpareA (f : Floor) (n v c : Int) : Prop :=
  (checkSlipV f n ≠ 0 ∧ v = 0 ∧ c = checkSlipV f n) ∨ (checkSlipV f n = 0 ∧ fewF f = none ∧ v = 0 ∧ c = 4) ∨
    (checkSlipV f n = 0 ∧ c = 0 ∧ ∃ (k p t r : Nat) (s : SSlip), n = k ∧ f.slips[k]? = some s ∧ s.till = t ∧ fewF f = some p ∧ v = r ∧ IsSpare f k p t r)
set_option maxRecDepth 100000 in
theorem Spare_any (f : Floor) (n : Int) (w : World) (hl : Lim w) (h : FloorAt w w.heap.size f) :
    Calls Tryd.prog 33 #[f.val, vi n] w fun e w' => ∃ v c, e = .returned (.tuple #[vi v, vi c]) ∧ SpareA f n v c ∧ Below w.heap.size w w' := by
  have HL := Lib.hid hl
  have HF := Lib.hid h
  rcases check_cases f n with hc | ⟨hc, hv, k, s, rfl, hs⟩
  · obtain ⟨ec, hec⟩ : ∃ ec, checkSlipV f n = ec := ⟨_, rfl⟩
    have hne : ec ≠ 0 := by omega
    have hned : decide (ec = 0) = false := by simpa using hne
    have CH := Lib.hid (fun (W : World) hL hW => checkSlip_is hec W hL hW)
    have HA : Hid (SpareA f n 0 ec) := .inl ⟨by omega, rfl, hec.symm⟩
    clear h hl hc hec
    go_enter Tryd.func33, Tryd.ntmps33
    go_wp2_with fail
    refine (CH.out _ (HL.out.next (by (repeat (first | exact Below.refl _ _ | refine Below.setCell ?_ (by first | omega | (simp; omega) | (simp; done)) _ | refine Below.alloc ?_ (by first | omega | (simp; omega) | (simp; done)) _ | refine Below.drew ?_ | refine below_drewN ?_ _ | refine Below.trans ?_ (Below.mono (by assumption) (by first | omega | (simp; omega) | (simp; done))))))) (HF.out.to (by (repeat (first | exact Below.refl _ _ | refine Below.setCell ?_ (by first | omega | (simp; omega) | (simp; done)) _ | refine Below.alloc ?_ (by first | omega | (simp; omega) | (simp; done)) _ | refine Below.drew ?_ | refine below_drewN ?_ _ | refine Below.trans ?_ (Below.mono (by assumption) (by first | omega | (simp; omega) | (simp; done)))))))).mono ?_
    rintro e W ⟨rfl, hb⟩
    have HB0 : Below w.heap.size w W := by (repeat (first | exact Below.refl _ _ | refine Below.setCell ?_ (by first | omega | (simp; omega) | (simp; done)) _ | refine Below.alloc ?_ (by first | omega | (simp; omega) | (simp; done)) _ | refine Below.drew ?_ | refine below_drewN ?_ _ | refine Below.trans ?_ (Below.mono (by assumption) (by first | omega | (simp; omega) | (simp; done)))))
    clear hb
    go_wp2_with fail
    go_ret2
    exact ⟨0, ec, rfl, HA.out, HB0⟩
  · have CH := Lib.hid (fun (W : World) hL hW => checkSlip_is hc W hL hW)
    have hf := fine hv
    have HC := Lib.hid hc
    have HV := Lib.hid hv
    have H9 := Lib.hid hf.slips9
    have HS := Lib.hid hs
    have hk := (List.getElem?_eq_some_iff.1 hs).1
    have hkI : (k : Int) < f.slips.length := by omega
    have h0k : (0 : Int) ≤ k := by omega
    have htill := (hf.slips s (List.mem_of_getElem? hs)).1
    have htill2 := (hf.slips s (List.mem_of_getElem? hs)).2.1
    clear h hl hc hf hs
    go_enter Tryd.func33, Tryd.ntmps33
    go_wp2_with fail
    refine (CH.out _ (HL.out.next (by (repeat (first | exact Below.refl _ _ | refine Below.setCell ?_ (by first | omega | (simp; omega) | (simp; done)) _ | refine Below.alloc ?_ (by first | omega | (simp; omega) | (simp; done)) _ | refine Below.drew ?_ | refine below_drewN ?_ _ | refine Below.trans ?_ (Below.mono (by assumption) (by first | omega | (simp; omega) | (simp; done))))))) (HF.out.to (by (repeat (first | exact Below.refl _ _ | refine Below.setCell ?_ (by first | omega | (simp; omega) | (simp; done)) _ | refine Below.alloc ?_ (by first | omega | (simp; omega) | (simp; done)) _ | refine Below.drew ?_ | refine below_drewN ?_ _ | refine Below.trans ?_ (Below.mono (by assumption) (by first | omega | (simp; omega) | (simp; done)))))))).mono ?_
    rintro e W ⟨rfl, hb⟩
    have HB0 : Below w.heap.size w W := by (repeat (first | exact Below.refl _ _ | refine Below.setCell ?_ (by first | omega | (simp; omega) | (simp; done)) _ | refine Below.alloc ?_ (by first | omega | (simp; omega) | (simp; done)) _ | refine Below.drew ?_ | refine below_drewN ?_ _ | refine Below.trans ?_ (Below.mono (by assumption) (by first | omega | (simp; omega) | (simp; done)))))
    have XF : Hid (CellsBox W w.heap.size 28 f.cells) := ((CellsBox.new w 28 f.cells).alloc _).keep hb
    have XN0 := CellsBox.new (w.alloc (.cells f.cells.toArray 28)) 3 [vi k]
    rw [World.size_alloc] at XN0
    have XN : Hid (CellsBox W (w.heap.size + 1) 3 [vi k]) := XN0.keep hb
    have a0 := XF.out.cell (j := 0) rfl
    have a1 := XF.out.cell (j := 1) rfl
    have a2 := XF.out.cell (j := 2) rfl
    have a3 := XF.out.cell (j := 3) rfl
    have a4 := XF.out.cell (j := 4) rfl
    have a5 := XF.out.cell (j := 5) rfl
    have zW := XF.out.lt
    clear hb CH XN0
    go_wp2_with fail
    refine (desk_any f hv _ (HF.out.to HB0)).mono ?_
    rintro e W1 ⟨oA, qA, qC, bm, rfl, hD, hbm, hb⟩
    have HB1 : Below w.heap.size w W1 := HB0.trans (hb.mono HB0.size)
    have hz0 := HB0.size
    have hz1 := hb.size
    have HD := Lib.hid (hD.into (HF.out.to HB1))
    have hMt := (Array.getElem?_eq_some_iff.1 hD.map).1
    have HM := Lib.hid (CrewMap.new hD.map)
    have XF1 := Lib.hid (XF.out.keep hb)
    have XN1 := Lib.hid (XN.out.keep hb)
    clear hb hD a0 a1 a2 a3 a4 a5 XF XN
    go_wp2_with fail
    refine (fewest_any f hv oA qA f.slips.length qC bm W1 _ (HL.out.next HB1) HD.out HM.out (Inv.empty f 5)).mono ?_
    rintro e W2 ⟨rfl, μ, hP, -⟩
    have HB2 := below_spare HB1 hP.spare (by omega)
    have XF2 := Lib.hid (hP.cs.box XF1.out)
    have XN2 := Lib.hid (hP.cs.box XN1.out)
    have hz2 := hP.cs.size
    clear hP XF1 XN1 hv HD HM
    have a4 := XF2.out.cell (j := 5) rfl
    have n0 := XN2.out.cell (j := 0) rfl
    have zF := XF2.out.lt
    have zN := XN2.out.lt
    cases hfew : fewF f with
    | none =>
      have HA : Hid (SpareA f k 0 4) := .inr (.inl ⟨HC.out, hfew, rfl, rfl⟩)
      clear hfew
      go_wp2_with fail
      go_ret2
      refine ⟨0, 4, rfl, HA.out, ?_⟩
      (repeat (first | exact Below.refl _ _ | refine Below.setCell ?_ (by first | omega | (simp; omega) | (simp; done)) _ | refine Below.alloc ?_ (by first | omega | (simp; omega) | (simp; done)) _ | refine Below.drew ?_ | refine below_drewN ?_ _ | refine Below.trans ?_ (Below.mono (by assumption) (by first | omega | (simp; omega) | (simp; done)))))
    | some p =>
      obtain ⟨hp1, hp5, hcan⟩ := few_can hfew
      have HFEW := Lib.hid hfew
      clear hfew hcan
      obtain ⟨t, ht⟩ : ∃ t : Nat, s.till = t := ⟨s.till.toNat, by omega⟩
      have hsl := (HF.out.to HB2).slips
      obtain ⟨bs, os, hsA, hbs, s0, s1⟩ := row2 hsl.row HS.out rfl
      have hsln := hsl.lens
      rw [ht] at s1
      have zs := cell_lt s1
      obtain ⟨V, hV⟩ : ∃ V, V = W2.alloc (.cells #[vi p] 3) := ⟨_, rfl⟩
      clear hsl
      rw [hsA] at a4
      go_wp2_with fail
      rw [← hV]
      have hbV : Below w.heap.size w V := by rw [hV]; (repeat (first | exact Below.refl _ _ | refine Below.setCell ?_ (by first | omega | (simp; omega) | (simp; done)) _ | refine Below.alloc ?_ (by first | omega | (simp; omega) | (simp; done)) _ | refine Below.drew ?_ | refine below_drewN ?_ _ | refine Below.trans ?_ (Below.mono (by assumption) (by first | omega | (simp; omega) | (simp; done)))))
      have hb2V : Below W2.heap.size W2 V := by rw [hV]; (repeat (first | exact Below.refl _ _ | refine Below.setCell ?_ (by first | omega | (simp; omega) | (simp; done)) _ | refine Below.alloc ?_ (by first | omega | (simp; omega) | (simp; done)) _ | refine Below.drew ?_ | refine below_drewN ?_ _ | refine Below.trans ?_ (Below.mono (by assumption) (by first | omega | (simp; omega) | (simp; done)))))
      have XFV := Lib.hid (XF2.out.keep hb2V)
      have XNV := Lib.hid (XN2.out.keep hb2V)
      have XPV : Hid (CellsBox V W2.heap.size 3 [vi p]) := by unfold Hid; rw [hV]; exact CellsBox.new W2 _ _
      have HBV := Lib.hid hbV
      have HT := Lib.hid ht
      have ht2 : t ≤ 100000 := by omega
      clear hV hb2V a4 n0 s0 s1
      refine (search_any t ht2 (fun u => enoughF f k p u) w.heap.size (w.heap.size + 1) W2.heap.size V (fun i X hi hX => enough_any f HV.out k p i s HS.out hp5 (by omega) _ _ _ X (XFV.out.keep hX) (XNV.out.keep hX) (XPV.out.keep hX) (HF.out.to (HBV.out.trans (hX.mono HBV.out.size))))).mono ?_
      rintro e W3 ⟨r, rfl, r1, r2, r3, hb3⟩
      have HB3 : Below w.heap.size w W3 := hbV.trans (hb3.mono hbV.size)
      have HA : Hid (SpareA f k r 0) := .inr (.inr ⟨HC.out, rfl, k, p, t, r, s, rfl, HS.out, HT.out, HFEW.out, rfl, ⟨r1, r2, r3⟩⟩)
      clear r1 r2 r3 hb3
      go_wp2_with fail
      go_ret2
      exact ⟨r, 0, rfl, HA.out, HB3⟩
end Go.Proofs.YtomgnpfpaodpiaaDoor

/- Contract of Tours. -/
namespace Go.Proofs.YtomgnpfpaodpiaaDoor
open Go Go.RowKit Go.Shelf
set_option maxHeartbeats 2000000
attribute [local go_sem] Oper.semAt_some
/-- a list of lines in a block of its own -/
structure TourIn (W : World) (t : STour) : Prop where
  lines : SLinesAt W W.heap.size t.ad t.cap t.lines
  blk : ∀ b, t.ad = some b → ∃ cs, W.heap[b.block]? = some (.cells cs 64 (0, 0))
theorem TourIn.keep {w w' : World} {t : STour} (h : TourIn w t) (hs : w.heap.size ≤ w'.heap.size) (hk : ∀ (k : Nat) (cs : Array Value), w.heap[k]? = some (.cells cs 64 (0, 0)) → w'.heap[k]? = w.heap[k]?) : TourIn w' t := by
  obtain ⟨hl, hb⟩ := h
  refine ⟨⟨hl.len, hl.cap, hl.few, fun h0 => ?_⟩, fun b e => ?_⟩
  · obtain ⟨b, off, hA, hlt, hc⟩ := hl.row h0
    obtain ⟨cs, hcs⟩ := hb _ hA
    have e := hk _ cs hcs
    exact ⟨b, off, hA, by omega, fun i r hr j u hj hu => by
      have h9 := hc i r hr j u hj hu
      simp only [World.cell?] at h9 ⊢
      rw [e]
      exact h9⟩
  · obtain ⟨cs, hcs⟩ := hb b e
    exact ⟨cs, (hk _ cs hcs).trans hcs⟩
theorem TourIn.to {w w' : World} {t : STour} (h : TourIn w t) (hb : Below w.heap.size w w') : TourIn w' t := h.keep hb.size fun k cs hk => hb.block k (Array.getElem?_eq_some_iff.1 hk).1
abbrev lsT : TypeId := 50
abbrev llT : TypeId := 29
/-- the list of tours so far, in the box L -/
structure ListIn (W : World) (base L : Nat) (want : List (List SLine)) (v : Value) (ts : List STour) : Prop where
  box : Boxed W L llT v
  eq : ts.map STour.lines = want
  own : W.ownsRow base lsT 1 v ts.length (ts.map STour.slice)
  each : ∀ t ∈ ts, TourIn W t
theorem ListIn.to {w w' : World} {base L : Nat} {want : List (List SLine)} {v : Value} {ts : List STour} (h : ListIn w base L want v ts) (hb : Below w.heap.size w w') : ListIn w' base L want v ts :=
  ⟨boxed_below h.box hb, h.eq, own_keep h.own hb, fun t ht => (h.each t ht).to hb⟩
theorem ownE_list {β : Type} {base L B : Nat} (hL : L < B) (want : β → List (List SLine)) : OwnE 102 B (fun s W => ∃ v ts, ListIn W base L (want s) v ts) := by
  rintro s X Y row ⟨v, ts, h⟩ hg hr
  have ne : ∀ (k : Nat) (cs : Array Value) (t : TypeId), t ≠ 102 → X.heap[k]? = some (.cells cs t (0, 0)) → Y.heap[k]? = X.heap[k]? := fun k cs t ht hk =>
    hg.block k (Array.getElem?_eq_some_iff.1 hk).1 fun e => by
      obtain ⟨_, o, ho, h1 | ⟨c, z, h1⟩⟩ := hr k e.symm
      · rw [hk] at ho; cases ho; cases h1
      · rw [hk] at ho; cases ho; cases h1; exact ht rfl
  refine ⟨v, ts, (hg.block L h.box.lt fun e => by have := (hr L e.symm).1; omega).trans h.box, h.eq, h.own.kept hg ?_, fun t ht => (h.each t ht).keep hg.size fun k cs hk => ne k cs _ (by decide) hk⟩
  rcases h.own.2 with ⟨rfl, _⟩ | ⟨g, cap, cur, rfl, _, hh, _⟩
  · exact .inl rfl
  · right
    intro e
    have := (hr g e.symm).2
    obtain ⟨o, ho, h1 | ⟨c, z, h1⟩⟩ := this
    · rw [hh] at ho; cases ho; cases h1
    · rw [hh] at ho; cases ho; cases h1
def ToursV (f : Floor) (n : Int) : List (List SLine) := if checkSlipV f n = 0 then (match f.slips[n.toNat]? with | some s => (loadsOf f s).map linesOf | none => []) else []
theorem info_lines : (Tryd.prog.info? lsT).map (fun i => (i.zero, i.size, i.bytes)) = some (some (.slice none 0 0), 1, 24) := by kernel_rfl
end Go.Proofs.YtomgnpfpaodpiaaDoor

/- A tour appended to the list. -/
namespace Go.Proofs.YtomgnpfpaodpiaaDoor
open Go Go.RowKit Go.Shelf
theorem list_other {w7 w8 : World} {base L : Nat} {want : List (List SLine)} {v : Value} {ts : List STour} (h : ListIn w7 base L want v ts) (hg : w7.grownBy w8 v.ownBlock) (k : Nat) (t' : TypeId) (cs : List Value) (hne : t' ≠ lsT) (hk : CellsBox w7 k t' cs) : CellsBox w8 k t' cs :=
  (hg.block k hk.lt fun e => by
    rcases h.own.2 with ⟨rfl, _⟩ | ⟨g, cap, cur, rfl, _, h2, _⟩
    · cases e
    · cases e
      unfold CellsBox at hk
      rw [h2] at hk; cases hk; exact hne rfl).trans hk
theorem list_box {w7 w8 : World} {base L : Nat} {want : List (List SLine)} {v : Value} {ts : List STour} (h : ListIn w7 base L want v ts) (hg : w7.grownBy w8 v.ownBlock) : Boxed w8 L llT v :=
  list_other h hg L llT [v] (by decide) h.box
theorem list_append {X w7 w8 w9 : World} {base L n₀ : Nat} {want : List (List SLine)} {v v5 : Value} {ts : List STour} {t : STour} (hB : Below X.heap.size X w7) (h : ListIn w7 base L want v ts) (ht : TourIn w7 t) (hg : w7.grownBy w8 v.ownBlock)
    (hown8 : w8.ownsRow base lsT 1 v5 (ts.length + 1) (ts.map STour.slice ++ [t.slice])) (h9 : Below w8.heap.size w8 w9) (hn : n₀ ≤ base) (hnX : n₀ ≤ X.heap.size) :
    ListIn (w9.setCell ⟨L, 0, none⟩ v5) base L (want ++ [t.lines]) v5 (ts ++ [t]) ∧ KE lsT n₀ L X (w9.setCell ⟨L, 0, none⟩ v5) ∧ ∀ B, KeepsFrom B X (w9.setCell ⟨L, 0, none⟩ v5) := by
  have own : ∀ k, v.ownBlock = some k → base ≤ k ∧ ∃ cs, w7.heap[k]? = some (.cells cs lsT (0, 0)) := fun k hk => by
    rcases h.own.2 with ⟨rfl, _⟩ | ⟨g, cap, cur, rfl, h1, h2, _⟩
    · cases hk
    · cases hk; exact ⟨h1, _, h2⟩
  have ty : ∀ (k : Nat) (cs : Array Value) (t' : TypeId), t' ≠ lsT → w7.heap[k]? = some (.cells cs t' (0, 0)) → some k ≠ v.ownBlock := fun k cs t' hne hk e => by
    obtain ⟨_, cs', h1⟩ := own k e.symm
    rw [hk] at h1; cases h1; exact hne rfl
  have up : ∀ k, k < w7.heap.size → some k ≠ v.ownBlock → w9.heap[k]? = w7.heap[k]? := fun k hk hne => (h9.block k (Nat.lt_of_lt_of_le hk hg.size)).trans (hg.block k hk hne)
  have step : ∀ k, k < w7.heap.size → some k ≠ v.ownBlock → k ≠ L → (w9.setCell ⟨L, 0, none⟩ v5).heap[k]? = w7.heap[k]? := fun k hk hne hl => (heap_setCell_other w9 _ k v5 hl).trans (up k hk hne)
  have hLlt := h.box.lt
  have hLne : some L ≠ v.ownBlock := ty L _ llT (by decide) h.box
  have b9 : Boxed w9 L llT v := (up L hLlt hLne).trans h.box
  have hsz : w7.heap.size ≤ (w9.setCell ⟨L, 0, none⟩ v5).heap.size := by
    have := hg.size
    have := h9.size
    simp; omega
  have own9 := own_keep hown8 h9
  refine ⟨⟨b9.set v5, by simp [h.eq], ?_, fun t' ht' => ?_⟩, ⟨⟨?_, ?_, ?_, ?_, fun k hk hl => ?_⟩, fun k c t' hl hne hk => ?_⟩, fun B => ⟨Nat.le_trans hB.size hsz, fun k o hk ho hc => ?_⟩⟩
  · rw [List.length_append, List.length_singleton, List.map_append]
    exact own9.kept (grownBy_setCell' w9 L v5) (.inr (b9.not_row (by decide) own9).symm)
  · have h7 : TourIn w7 t' := by
      rcases List.mem_append.1 ht' with h1 | h1
      · exact h.each t' h1
      · rw [List.mem_singleton] at h1; subst h1; exact ht
    refine h7.keep hsz fun k cs hk => step k (Array.getElem?_eq_some_iff.1 hk).1 (ty k cs _ (by decide) hk) fun e => ?_
    subst e
    have := h.box
    unfold Boxed at this
    rw [hk] at this
    cases this
  · exact (h9.os.trans hg.os).trans hB.os
  · exact (h9.tape.trans hg.tape).trans hB.tape
  · exact (h9.output.trans hg.output).trans hB.output
  · exact Nat.le_trans hB.size hsz
  · rw [step k (by have := hB.size; omega) (fun e => by have := (own k e.symm).1; omega) hl]
    exact hB.block k (by omega)
  · have hkX := (Array.getElem?_eq_some_iff.1 hk).1
    have h7 := (hB.block k hkX).trans hk
    rw [step k (by have := hB.size; omega) (ty k c t' hne h7) hl]
    exact h7
  · have hkX := (Array.getElem?_eq_some_iff.1 ho).1
    have h7 := (hB.block k hkX).trans ho
    rw [step k (by have := hB.size; omega) (fun e => by obtain ⟨_, cs, h1⟩ := own k e.symm; rw [h7] at h1; cases h1; cases hc) (fun e => by subst e; have := h.box; unfold Boxed at this; rw [h7] at this; cases this; cases hc)]
    exact h7
theorem ListIn.put {w : World} {base L D : Nat} {want : List (List SLine)} {v : Value} {ts : List STour} {o : Obj} (h : ListIn w base L want v ts) (o' : Obj) (hD : w.heap[D]? = some o) (hc : o.isCells = false) : ListIn (w.putObj D o') base L want v ts := by
  have ne : ∀ (k : Nat) (cs : Array Value) (t : TypeId), w.heap[k]? = some (.cells cs t (0, 0)) → (w.putObj D o').heap[k]? = w.heap[k]? := fun k cs t hk => World.putObj_heap_other (by
    rintro rfl
    rw [hD] at hk; cases hk; cases hc)
  exact ⟨(ne L _ _ h.box).trans h.box, h.eq, ownsRow_putObj h.own o' hD hc, fun t ht => (h.each t ht).keep (by simp) fun k cs hk => ne k cs _ hk⟩
theorem news1 {w : World} {b : Nat} {u : Value} (h : w.cell? ⟨b, 0, none⟩ = some u) : ∀ j x, [u][j]? = some x → w.cell? ((⟨b, 0, none⟩ : Addr).add j) = some x := by
  intro j x hj
  cases j with
  | zero => simp at hj; subst hj; simpa [Addr.add] using h
  | succ j => simp at hj
end Go.Proofs.YtomgnpfpaodpiaaDoor

/- The choices: plain forms, and the recursive closure. -/
namespace Go.Proofs.YtomgnpfpaodpiaaDoor
open Go Go.RowKit Go.Shelf
set_option maxHeartbeats 3000000
attribute [local go_sem] Oper.semAt_some
/-- all that can be chosen besides, of some things -/
def chL (m : Nat) : List Int → List Int → List (List Int)
  | [], _ => []
  | x :: rest, ch => (if ch.length + 1 = m then [ch ++ [x]] else chL m rest (ch ++ [x])) ++ chL m rest ch
def choF (m : Nat) (rest ch : List Int) : List (List Int) := if ch.length = m then [ch] else chL m rest ch
theorem chL_cons (m : Nat) (x : Int) (rest ch : List Int) : chL m (x :: rest) ch = choF m rest (ch ++ [x]) ++ chL m rest ch := by
  rw [chL, choF]
  simp
theorem chL_drop {m : Nat} {rest ch : List Int} {i : Nat} {x : Int} (h : rest[i]? = some x) : chL m (rest.drop i) ch = choF m (rest.drop (i + 1)) (ch ++ [x]) ++ chL m (rest.drop (i + 1)) ch := by
  obtain ⟨hi, rfl⟩ := List.getElem?_eq_some_iff.1 h
  rw [List.drop_eq_getElem_cons hi, chL_cons]
abbrev chooseV (pM pY pC : Nat) : Value := .func (.func 107) #[] #[.pointer (some ⟨pM, 0, none⟩), .pointer (some ⟨pY, 0, none⟩), .pointer (some ⟨pC, 0, none⟩)]
/-- what the closure that chooses holds -/
structure ChAt (w : World) (m pM pY pC l : Nat) : Prop where
  many : CellsBox w pM 3 [vi m]
  yield : CellsBox w pY 149 [.func (.yield l) #[] #[]]
  choose : CellsBox w pC 57 [chooseV pM pY pC]
theorem ChAt.cs {w w' : World} {m pM pY pC l : Nat} (h : ChAt w m pM pY pC l) (hc : CS w w') : ChAt w' m pM pY pC l := ⟨hc.box h.many, hc.box h.yield, hc.box h.choose⟩
/-- an int put behind a list that has no room -/
theorem wp_put_int {P : Program} {o : Oper} {a : Act} {w : World} {K : Act → World → Prop} {Q : Exit → Act → World → Prop} (hg : o.guard = none) (s x : Operand) (t e : TypeId) (hop : o.op = Op.call { callee := Callee.builtin Builtin.append, args := #[s, x], argTypes := #[t, t] })
    (i : TypeInfo) (h1 : P.underlying t = some (.slice e)) (h2 : P.info? e = some i) (h3 : i.zero = some (.int .i64 0)) (h4 : i.size = 1) (h5 : i.bytes = 8)
    (C : Option Addr) (ch : List Int) (hs : a.eval s = .slice C ch.length ch.length) (hC : C = none → ch.length = 0) (hA : IntsAt w w.heap.size C ch.length ch) (hn : ch.length ≤ 1000) (b : Nat) (n : Int) (hx : a.eval x = .slice (some ⟨b, 0, none⟩) 1 1) (hb : w.cell? ⟨b, 0, none⟩ = some (vi n))
    (hK : ∀ (C' : Option Addr) (cap' : Nat) (w' : World), IntsAt w' w'.heap.size C' cap' (ch ++ [n]) → (∃ g, C' = some ⟨g, 0, none⟩) → Below w.heap.size w w' → K (a.put o.dst (.slice C' (ch.length + 1) cap')) w') : Oper.wp P o a w K Q := by
  have hw : Region.wanted o (yielded #[] a.tmps) = true := by simp [Region.wanted, hg]
  have := step_append_grows (P := P) (ops := #[]) (o := o) (a := a) (w := w) (K := K) (Q := Q) (E := True) hg s x t hop e i (.int .i64 0) 1 8 h1 h2 h3 h4 h5 rfl (by decide) C ch.length ch.length (ch.map vi) hs (fun h => ⟨hC h, hC h⟩) (by simp) (fun c hc j u hj => by
      have hl : 0 < ch.length := by have := (List.getElem?_eq_some_iff.1 hj).1; simp at this; omega
      obtain ⟨b', off, hA', hlt, hcl⟩ := hA.row (by simpa using hl)
      rw [hc] at hA'
      cases hA'
      rw [List.getElem?_map] at hj
      obtain ⟨y, hy, rfl⟩ := Option.map_eq_some_iff.1 hj
      have h9 := hcl j (intC y) (by rw [List.getElem?_map, hy]; rfl) 0 (vi y) (by simp) rfl
      rw [Addr.add_lit]
      simpa using h9) ⟨b, 0, none⟩ 1 1 [vi n] hx rfl (news1 hb) (by simp [Value.oneCell']) (by omega) (by unfold maxLen; omega) (by omega) (fun v' w' hown hgr => by
      have hB : Below w.heap.size w w' := ⟨hgr.os, hgr.tape, hgr.output, hgr.size, fun k hk => hgr.block k hk (by simp)⟩
      have hfl : ch.map vi ++ [vi n] = ((ch ++ [n]).map intC).flatten := by rw [intC_flat]; simp
      rw [hfl] at hown
      obtain ⟨A', c', rfl, g1, g2, g3⟩ := own_rows (m := (ch ++ [n]).map intC) (sz := 1) (by intro r hr; obtain ⟨t, _, rfl⟩ := List.mem_map.1 hr; rfl) hown (by simp) (by omega)
      refine hK A' c' w' ⟨by simp; omega, by unfold maxLen at g2; omega, by simp; omega, g3.row⟩ ?_ hB
      rcases hown.2 with ⟨e1, e2⟩ | ⟨g, cap, cur, e1, _⟩
      · omega
      · exact ⟨g, by simp at e1; exact e1.1⟩)
  rwa [if_pos hw] at this
/-- blocks from some on keep their cells -/
structure CF (B : Nat) (w w' : World) : Prop where
  size : w.heap.size ≤ w'.heap.size
  boxes : ∀ (k : Nat) (c : Array Value) (t : TypeId) (z : Nat × Nat), B ≤ k → w.heap[k]? = some (.cells c t z) → w'.heap[k]? = some (.cells c t z)
theorem CS.cf {a b : World} (h : CS a b) (B : Nat) : CF B a b := ⟨h.size, fun k c t z _ hk => h.boxes k c t z hk⟩
theorem CF.trans {B : Nat} {a b c : World} (h : CF B a b) (k : CF B b c) : CF B a c := ⟨Nat.le_trans h.size k.size, fun i x t z hb hi => k.boxes i x t z hb (h.boxes i x t z hb hi)⟩
theorem CF.box {B : Nat} {a b : World} (h : CF B a b) {k : Nat} {t : TypeId} {cs : List Value} (hB : B ≤ k) (hk : CellsBox a k t cs) : CellsBox b k t cs := h.boxes k _ t _ hB hk
abbrev SRow.at (w : World) (t : SRow) : Prop := IntsAt w w.heap.size t.ad t.cap t.slips
set_option maxRecDepth 100000 in
theorem choose_any (PR : Int → Prop) (m : Nat) (hm : m ≤ 1000) (pM pY pC l N B : Nat) (J Jx : List SRow → World → Prop) (hJ : AbidesFrom B J) (hJx : AbidesFrom B Jx) (hBC : B ≤ pC)
    (hY : ∀ (pre : List SRow) (x : SRow) (W1 : World), J pre W1 → pre.length < N → x.at W1 → x.slips.length = m → (∀ y ∈ x.slips, PR y) → YieldAt Fence.wide 0 Tryd.prog l #[x.slice] W1 fun e W' => (e = .returned (.bool true) ∧ J (pre ++ [x]) W' ∧ CS W1 W') ∨ (e = .returned (.bool false) ∧ Jx (pre ++ [x]) W' ∧ CF B W1 W')) :
    ∀ (q : Nat) (rest ch : List Int) (A C : Option Addr) (cap cch : Nat) (pre : List SRow) (W : World), rest.length = q → rest.length + ch.length ≤ 1000 → (∀ y ∈ rest, PR y) → (∀ y ∈ ch, PR y) →
      ChAt W m pM pY pC l → IntsAt W W.heap.size A cap rest → IntsAt W W.heap.size C cch ch → J pre W → pre.length + (choF m rest ch).length ≤ N →
      Calls Tryd.prog 107 #[.slice C ch.length cch, .slice A rest.length cap, .pointer (some ⟨pM, 0, none⟩), .pointer (some ⟨pY, 0, none⟩), .pointer (some ⟨pC, 0, none⟩)] W fun e W' =>
        ∃ b : Bool, e = .returned (.bool b) ∧ Hid ((b = true ∧ ∃ xs : List SRow, xs.map SRow.slips = choF m rest ch ∧ J (pre ++ xs) W' ∧ CS W W') ∨ (b = false ∧ ∃ (d r : List (List Int)) (xs : List SRow) (x : SRow), choF m rest ch = d ++ x.slips :: r ∧ xs.map SRow.slips = d ∧ Jx (pre ++ xs ++ [x]) W' ∧ CF B W W')) := by
  intro q
  induction q using Nat.strongRecOn with
  | _ q ih =>
    intro rest ch A C cap cch pre W hq hrl hPR hPC hG hI hCh hJ0 hN
    have IH := Lib.hid ih
    have HPR := Lib.hid hPR
    have HPC := Lib.hid hPC
    clear hPR hPC
    have HG := Lib.hid hG
    have HI := Lib.hid hI
    have HCH := Lib.hid hCh
    have HJ0 := Lib.hid hJ0
    have hIl := hI.lens
    have hCl := hCh.lens
    have HN := Lib.hid hN
    have HQ := Lib.hid hq
    have m0 := hG.many.cell (j := 0) rfl
    have zM := hG.many.lt
    have y0 := hG.yield.cell (j := 0) rfl
    have zY := hG.yield.lt
    clear ih hG hI hJ0 hN hq hCh
    refine (callsIn_wide (n := 6)).1 ?_
    refine callsIn_of_wp Tryd.func107 rfl trivial ?_ rfl
    simp only [Tryd.ntmps107, List.size_toArray, List.length_cons, List.length_nil, Nat.reduceAdd, Nat.reduceSub, Array.replicate_succ, Array.replicate_zero, List.push_toArray, List.append_toArray, List.nil_append, List.cons_append]
    by_cases hcm : ch.length = m
    · have hdc : decide ((ch.length : Int) = m) = true := by simp; omega
      have HE : Hid (choF m rest ch = [ch]) := by unfold Hid choF; rw [if_pos hcm]
      have HL : Hid (pre.length < N) := by
        have h1 := HN.out
        rw [HE.out] at h1
        simp at h1
        unfold Hid
        omega
      have hYY := hY pre ⟨C, cch, ch⟩ W HJ0.out HL.out HCH.out hcm HPC.out
      change YieldAt Fence.wide 0 Tryd.prog l #[.slice C ch.length cch] W _ at hYY
      obtain ⟨fn, tmps, assign, body, hy, hR⟩ := yield_any (m' := 5) hYY
      clear hYY hdc
      subst hcm
      gi_wp2_with fail
      refine hR.mono ?_
      clear hy
      rintro e W3 (⟨rfl, hJ3, hk3⟩ | ⟨rfl, hJx3, hf3⟩)
      · have HJ9 : Hid (∃ xs : List SRow, xs.map SRow.slips = choF ch.length rest ch ∧ J (pre ++ xs) W3 ∧ CS W W3) := ⟨[⟨C, cch, ch⟩], by rw [HE.out]; rfl, hJ3, hk3⟩
        clear hJ3 hk3
        gi_wp2_with fail
        go_ret
        exact ⟨true, rfl, .inl ⟨rfl, HJ9.out⟩⟩
      · have HJ9 : Hid (∃ (d r : List (List Int)) (xs : List SRow) (x : SRow), choF ch.length rest ch = d ++ x.slips :: r ∧ xs.map SRow.slips = d ∧ Jx (pre ++ xs ++ [x]) W3 ∧ CF B W W3) := ⟨[], [], [], ⟨C, cch, ch⟩, by rw [HE.out]; rfl, rfl, by simpa using hJx3, hf3⟩
        clear hJx3 hf3
        gi_wp2_with fail
        go_ret
        exact ⟨false, rfl, .inr ⟨rfl, HJ9.out⟩⟩
    · have hbe : ((ch.length : Int) == (m : Int)) = false := by simp; omega
      have HE : Hid (choF m rest ch = chL m rest ch) := by unfold Hid choF; rw [if_neg hcm]
      gi_wp2_with fail
      gi_loopw [19] (fun i wr => ∃ (k : Nat) (em : List SRow), k ≤ rest.length ∧ i = .int .i64 k ∧ Hid (em.map SRow.slips ++ chL m (rest.drop k) ch = chL m rest ch) ∧ Hid (J (pre ++ em) wr) ∧ Hid (CS W wr)) (fun i _ => rest.length - (intOf i).toNat)
      case atStart => exact ⟨0, [], Nat.zero_le _, rfl, by simp [Hid], by simpa [Hid] using HJ0.out, CS.refl _⟩
      case round =>
        obtain ⟨k, em, hk, rfl, HE1, HJk, HC⟩ := hrel
        have HGk := Lib.hid (HG.out.cs HC.out)
        have HIk : Hid (IntsAt wr wr.heap.size A cap rest) := HC.out.rows HI.out
        have HCk : Hid (IntsAt wr wr.heap.size C cch ch) := HC.out.rows HCH.out
        have g0 := HGk.out.choose.cell (j := 0) rfl
        have zG := HGk.out.choose.lt
        by_cases hlt : k < rest.length
        · obtain ⟨x, hx⟩ : ∃ x, rest[k]? = some x := ⟨_, List.getElem?_eq_getElem hlt⟩
          have HLD := Lib.hid (chL_drop (m := m) (ch := ch) hx)
          obtain ⟨bb, off, rfl, hbb, x0⟩ := ints_at HIk.out hx
          have zbb := cell_lt x0
          simp only at zbb
          have hkI : (k : Int) < rest.length := by omega
          have h0k : (0 : Int) ≤ k := by omega
          have hkr : k + 1 ≤ rest.length := by omega
          obtain ⟨o2, ho2⟩ : ∃ o2, o2 = if cap = k + 1 then off else off + (k + 1) := ⟨_, rfl⟩
          have hif : (if cap = k + 1 then (some ⟨bb, off, none⟩ : Option Addr) else some ⟨bb, off + (k + 1), none⟩) = some ⟨bb, o2, none⟩ := by rw [ho2]; split <;> rfl
          have CHOOSE : Hid (∀ (Wx : World) (C' : Option Addr) (cap' : Nat), CS W Wx → J (pre ++ em) Wx → IntsAt Wx Wx.heap.size C' cap' (ch ++ [x]) → Calls Tryd.prog 107 #[.slice C' (ch.length + 1) cap', .slice (some ⟨bb, o2, none⟩) (rest.length - (k + 1)) (cap - (k + 1)), .pointer (some ⟨pM, 0, none⟩), .pointer (some ⟨pY, 0, none⟩), .pointer (some ⟨pC, 0, none⟩)] Wx fun e W' =>
              ∃ b : Bool, e = .returned (.bool b) ∧ Hid ((b = true ∧ ∃ xs : List SRow, xs.map SRow.slips = choF m (rest.drop (k + 1)) (ch ++ [x]) ∧ J (pre ++ em ++ xs) W' ∧ CS Wx W') ∨ (b = false ∧ ∃ (d r : List (List Int)) (xs : List SRow) (y : SRow), choF m (rest.drop (k + 1)) (ch ++ [x]) = d ++ y.slips :: r ∧ xs.map SRow.slips = d ∧ Jx (pre ++ em ++ xs ++ [y]) W' ∧ CF B Wx W'))) := fun Wx C' cap' hc hj hI' => by
            have hlen : (rest.drop (k + 1)).length = rest.length - (k + 1) := List.length_drop
            have h1 := IH.out (rest.drop (k + 1)).length (by rw [hlen, ← HQ.out]; omega) (rest.drop (k + 1)) (ch ++ [x]) (some ⟨bb, o2, none⟩) C' (cap - (k + 1)) cap' (pre ++ em) Wx rfl (by rw [hlen]; simp; omega) (fun y hy => HPR.out y (List.mem_of_mem_drop hy)) (fun y hy => by
              rcases List.mem_append.1 hy with hy | hy
              · exact HPC.out y hy
              · rw [List.mem_singleton] at hy; subst hy; exact HPR.out _ (List.mem_of_getElem? hx)) (HG.out.cs hc) (by
              have h7 := ints_drop (hc.rows HI.out) (k + 1) (by simpa using hkr)
              by_cases hck : cap = k + 1
              · have h8 : rest.drop (k + 1) = [] := List.drop_of_length_le (by omega)
                rw [h8]
                exact ⟨by simp, by omega, by simp, fun h => by simp at h⟩
              · rw [ho2, if_neg hck]
                exact h7) hI' hj (by
              have h2 := congrArg List.length HE1.out
              have h3 := HN.out
              rw [HE.out] at h3
              rw [HLD.out] at h2
              simp only [List.length_append, List.length_map] at h2 h3 ⊢
              omega)
            rw [hlen, List.length_append] at h1
            exact h1
          have HE2 : Hid (em.map SRow.slips ++ (choF m (rest.drop (k + 1)) (ch ++ [x]) ++ chL m (rest.drop (k + 1)) ch) = chL m rest ch) := by unfold Hid; rw [← HE1.out, HLD.out]
          have hkA : (0 : Int) ≤ (k : Int) + 1 := by omega
          have hwr : IntKind.wrap .i64 ((k : Int) + 1) = (k : Int) + 1 := wrapI (by omega) (by omega)
          have hkB : (k : Int) + 1 ≤ rest.length := by omega
          have hc0 : (0 : Int) ≤ ch.length := by omega
          have hcI : (ch.length : Int) ≤ cch := by omega
          clear hx ho2 m0 y0 zM zY
          gi_wp2_with fail
          refine wpIn_wide.2 ?_
          refine' wp_region_box (fun w' => CF B wr w') (fun a b h h' => h.trans ((cs_of_below h').cf B)) [0, 1, 2, 3, 4, 5, 6, 7, 10, 11, 12, 13] 4 41 (by kernel_rfl) (by kernel_rfl) rfl (by kernel_rfl) (by kernel_rfl) rfl (by kernel_rfl) ?hl5 ((CS.refl wr).cf B) ?hq5 ?hr5
          case hl5 =>
            simp only [List.map_cons, List.map_nil, List.getD_cons_zero, List.getD_cons_succ]
            exact rfl
          case hq5 =>
            intro w0 K
            have g0 := (K.box hBC HGk.out.choose).cell (j := 0) rfl
            have zG := (K.box hBC HGk.out.choose).lt
            (repeat (go_big_quiet_step (fail)))
            exact wpQuiet_nil rfl
          case hr5 =>
            obtain ⟨i0, hi, hy0, hy1, hy2⟩ := info_parts info_int
            refine wpUp_one (i := 8) (by kernel_rfl) rfl rfl (fun wa a1 a2 Ka hKa => ?_)
            go_simp
            obtain ⟨V, hV⟩ : ∃ V, V = wa.alloc (.cells #[vi x] 3) := ⟨_, rfl⟩
            have hbV : Below wa.heap.size wa V := by rw [hV]; exact (Below.refl _ _).alloc (Nat.le_refl _) _
            have HCV : Hid (CellsBox V wa.heap.size 3 [vi x]) := by unfold Hid; rw [hV]; exact CellsBox.new wa _ _
            rw [← hV]
            clear hV
            refine hKa _ _ (a2.trans ((cs_of_below hbV).cf B)) ?_
            refine wpUp_one (i := 9) (by kernel_rfl) rfl rfl (fun wc c1 c2 Kc hKc => ?_)
            have HBc : Below wr.heap.size wr wc := gr_trans (gr_trans a1 hbV) c1
            have hIc : IntsAt wc wc.heap.size C ch.length ch := by
              have h1 := (HCk.out.to HBc)
              exact ⟨by simp, by have := h1.few; simp at this; omega, h1.few, h1.row⟩
            refine wp_put_int (by rfl) _ _ _ 3 (by rfl) i0 Tryd.underlying22 hi hy0 hy1 hy2 C ch (by rfl) (fun h => by
              by_cases h0 : ch.length = 0
              · exact h0
              · obtain ⟨b', o', hA, _⟩ := HCk.out.row (by simp; omega)
                rw [h] at hA; cases hA) hIc (by omega) wa.heap.size x (by rfl) ((HCV.out.keep c1).cell (j := 0) rfl) ?_
            rintro C' cap' wd hId - hbd
            simp only [Act.put, List.setIfInBounds_toArray, List.set_cons_zero, List.set_cons_succ]
            refine hKc _ _ (c2.trans ((cs_of_below hbd).cf B)) ?_
            refine wpUp_one (i := 14) (by kernel_rfl) rfl rfl (fun we e1 e2 Ke hKe => ?_)
            have HBe : Below wr.heap.size wr we := gr_trans (gr_trans HBc hbd) e1
            have hIe := hId.to e1
            have HJe := abides_below hJ HJk.out HBe
            go_simp
            refine (CHOOSE.out we C' cap' (HC.out.trans (cs_of_below HBe)) HJe hIe).mono ?_
            rintro e wv ⟨b, rfl, hT⟩
            have hTC : CF B wr wv := by
              rcases hT.out with ⟨_, _, _, _, h⟩ | ⟨_, _, _, _, _, _, _, _, h⟩
              · exact ((cs_of_below HBe).trans h).cf B
              · exact ((cs_of_below HBe).cf B).trans h
            refine hKe _ _ hTC ?_
            refine wpUp_one (i := 15) (by kernel_rfl) rfl rfl (fun wf f1 f2 Kf hKf => ?_)
            go_simp
            refine hKf _ _ f2 (wpUp_done (by kernel_rfl) (fun W8 g1 g2 => NoPanic.normal ?_))
            have HB8 : Hid (Below wv.heap.size wv W8) := gr_trans f1 g1
            rcases b with _ | _
            · have hT2 : Hid (∃ (d r : List (List Int)) (xs : List SRow) (y : SRow), choF m rest ch = d ++ y.slips :: r ∧ xs.map SRow.slips = d ∧ Jx (pre ++ xs ++ [y]) W8 ∧ CF B W W8) := by
                rcases hT.out with ⟨h, _⟩ | ⟨_, d, r, xs, y, h1, h2, h3, h4⟩
                · cases h
                · refine ⟨em.map SRow.slips ++ d, r ++ chL m (rest.drop (k + 1)) ch, em ++ xs, y, ?_, ?_, ?_, ?_⟩
                  · rw [HE.out, ← HE2.out, h1]; simp
                  · rw [List.map_append, h2]
                  · have := abides_below hJx h3 HB8.out
                    simpa using this
                  · exact (HC.out.cf B).trans (((cs_of_below HBe).cf B).trans (h4.trans ((cs_of_below HB8.out).cf B)))
              clear hT
              gi_wp2_with fail
              go_ret
              exact ⟨false, rfl, .inr ⟨rfl, hT2.out⟩⟩
            · have hT2 : Hid (∃ xs : List SRow, xs.map SRow.slips ++ chL m (rest.drop (k + 1)) ch = chL m rest ch ∧ J (pre ++ xs) W8 ∧ CS W W8) := by
                rcases hT.out with ⟨_, xs, h1, h2, h3⟩ | ⟨h, _⟩
                · refine ⟨em ++ xs, ?_, ?_, ?_⟩
                  · rw [← HE2.out, List.map_append, h1]; simp
                  · have := abides_below hJ h2 HB8.out
                    simpa using this
                  · exact (HC.out.trans (cs_of_below HBe)).trans (h3.trans (cs_of_below HB8.out))
                · cases h
              obtain ⟨xs, t1, t2, t3⟩ := hT2.out
              have T1 := Lib.hid t1
              have T2 := Lib.hid t2
              have T3 := Lib.hid t3
              clear hT hT2 t1 t2 t3 hi hy0 hy1 hy2
              gi_wp2_with fail
              go_roundw
              case rel =>
                exact ⟨k + 1, xs, by omega, by go_num, T1, T2, T3⟩
              case measure => simp [intOf]; omega
        · obtain rfl : k = rest.length := by omega
          have hd0 : rest.drop rest.length = [] := List.drop_length
          have HE2 := Lib.hid HE1.out
          rw [hd0, chL, List.append_nil] at HE2
          have HJ9 : Hid (∃ xs : List SRow, xs.map SRow.slips = choF m rest ch ∧ J (pre ++ xs) wr ∧ CS W wr) := ⟨em, by rw [HE.out]; exact HE2.out, HJk.out, HC.out⟩
          clear hd0 HE2
          gi_wp2_with fail
          go_ret
          exact ⟨true, rfl, .inl ⟨rfl, HJ9.out⟩⟩
end Go.Proofs.YtomgnpfpaodpiaaDoor

/- The choices as a sequence: contracts of choices.Of and of what it returns. -/
namespace Go.Proofs.YtomgnpfpaodpiaaDoor
open Go Go.RowKit Go.Shelf
set_option maxHeartbeats 3000000
attribute [local go_sem] Oper.semAt_some
/-- a sequence whose things lie in memory that it made: the rounds are told where (R); a round that goes on keeps all cells, the last one those that the sequence made -/
def SeqM {α : Type} (F : Fence) (n : Nat) (P : Program) (g : Nat) (lb : Array Value) (encs : α → Array Value) (R : α → World → Prop) (S Sp : List α → Prop) (N : Nat) (w : World) : Prop :=
  ∀ (l : Nat) (J Jx : List α → World → Prop) (W : World), Below w.heap.size w W → AbidesFrom W.heap.size J → AbidesFrom W.heap.size Jx →
    (∀ pre x W1, J pre W1 → pre.length < N → R x W1 → YieldAt F (n - 1) P l (encs x) W1 fun e W' => (e = .returned (.bool true) ∧ J (pre ++ [x]) W' ∧ CS W1 W') ∨ (e = .returned (.bool false) ∧ Jx (pre ++ [x]) W' ∧ CF W.heap.size W1 W')) →
    J [] W → CallsIn F n P g (#[.func (.yield l) #[] #[]] ++ lb) W fun e W' => (∃ v, e = .returned v) ∧ ((∃ xs, S xs ∧ J xs W') ∨ (∃ pre, Sp pre ∧ Jx pre W'))
structure OfAt (w : World) (m : Nat) (list : List Int) (A : Option Addr) (cap pM pL : Nat) : Prop where
  many : CellsBox w pM 3 [vi m]
  box : CellsBox w pL 22 [.slice A list.length cap]
  ints : IntsAt w w.heap.size A cap list
theorem OfAt.cs {w w' : World} {m : Nat} {list : List Int} {A : Option Addr} {cap pM pL : Nat} (h : OfAt w m list A cap pM pL) (hc : CS w w') : OfAt w' m list A cap pM pL := ⟨hc.box h.many, hc.box h.box, hc.rows h.ints⟩
abbrev encR (x : SRow) : Array Value := #[x.slice]
def chosenR (m : Nat) (list : List Int) (x : SRow) (w : World) : Prop := x.at w ∧ x.slips.length = m ∧ ∀ y ∈ x.slips, y ∈ list
set_option maxRecDepth 100000 in
theorem of_seq (m : Nat) (hm : m ≤ 1000) (list : List Int) (hl : list.length ≤ 1000) (A : Option Addr) (cap pM pL : Nat) (w : World) (hA : OfAt w m list A cap pM pL) (n : Nat) :
    SeqM Fence.wide n Tryd.prog 106 #[.pointer (some ⟨pM, 0, none⟩), .pointer (some ⟨pL, 0, none⟩)] encR (chosenR m list) (fun xs => xs.map SRow.slips = choF m list []) (fun pre => ∃ (d r : List (List Int)) (xs : List SRow) (x : SRow), pre = xs ++ [x] ∧ choF m list [] = d ++ x.slips :: r ∧ xs.map SRow.slips = d) (choF m list []).length w := by
  intro l J Jx W hW hJ hJx hY' h0
  have hY : ∀ (pre : List SRow) (x : SRow) (W1 : World), J pre W1 → pre.length < (choF m list []).length → x.at W1 → x.slips.length = m → (∀ y ∈ x.slips, y ∈ list) → YieldAt Fence.wide 0 Tryd.prog l #[x.slice] W1 fun e W' => (e = .returned (.bool true) ∧ J (pre ++ [x]) W' ∧ CS W1 W') ∨ (e = .returned (.bool false) ∧ Jx (pre ++ [x]) W' ∧ CF W.heap.size W1 W') :=
    fun pre x W1 hj hl h1 h2 h3 => yield_any (m' := 0) (hY' pre x W1 hj hl ⟨h1, h2, h3⟩)
  have HA := Lib.hid (hA.cs (cs_of_below hW))
  have GV := Lib.hid (fun (pY pC : Nat) (W1 : World) (hB : W.heap.size ≤ pC) hb hg => choose_any (· ∈ list) m hm pM pY pC l (choF m list []).length W.heap.size J Jx hJ hJx hB hY list.length list [] A none cap 0 [] W1 rfl (by simpa using hl) (fun _ h => h) (fun _ h => by simp at h) hg (HA.out.cs (cs_of_below hb)).ints (rows_nil _ _) (abides_below hJ h0 hb) (by simp))
  simp only [List.nil_append, List.length_nil] at GV
  clear hA hY hW h0 hY'
  have f0 := HA.out.box.cell (j := 0) rfl
  have zL := HA.out.box.lt
  refine (callsIn_wide (n := n)).2 ?_
  refine (callsIn_wide (n := 6)).1 ?_
  refine callsIn_of_wp Tryd.func106 rfl trivial ?_ rfl
  simp only [Tryd.ntmps106, List.size_toArray, List.length_cons, List.length_nil, Nat.reduceAdd, Nat.reduceSub, Array.replicate_succ, Array.replicate_zero, List.push_toArray, List.append_toArray, List.nil_append, List.cons_append]
  gi_wp2_with fail
  refine ⟨trivial, ?_⟩
  have X1 := (CellsBox.new W 149 [.func (.yield l) #[] #[]]).alloc (.cells #[chooseV pM W.heap.size (W.heap.size + 1)] 57)
  have X2 := CellsBox.new (W.alloc (.cells #[.func (.yield l) #[] #[]] 149)) 57 [chooseV pM W.heap.size (W.heap.size + 1)]
  rw [World.size_alloc] at X2
  have hb : Below W.heap.size W ((W.alloc (.cells #[.func (.yield l) #[] #[]] 149)).alloc (.cells #[chooseV pM W.heap.size (W.heap.size + 1)] 57)) := by (repeat (first | exact Below.refl _ _ | refine Below.setCell ?_ (by first | omega | (simp; omega) | (simp; done)) _ | refine Below.alloc ?_ (by first | omega | (simp; omega) | (simp; done)) _ | refine Below.drew ?_ | refine below_drewN ?_ _ | refine Below.trans ?_ (Below.mono (by assumption) (by first | omega | (simp; omega) | (simp; done)))))
  have hA2 := HA.out.cs (cs_of_below hb)
  refine (callsIn_wide.2 (GV.out W.heap.size (W.heap.size + 1) _ (by omega) hb ⟨hA2.many, X1, X2⟩)).mono ?_
  rintro e W9 ⟨b, rfl, hT⟩
  have HT := Lib.hid hT
  clear hT X1 X2 hb hA2
  gi_wp2_with fail
  go_end0
  refine ⟨⟨_, rfl⟩, ?_⟩
  rcases HT.out.out with ⟨_, xs, h1, h2, _⟩ | ⟨_, d, r, xs, x, h1, h2, h3, _⟩
  · exact .inl ⟨xs, h1, h2⟩
  · exact .inr ⟨xs ++ [x], ⟨d, r, xs, x, rfl, h1, h2⟩, h3⟩
abbrev ofV (pM pL : Nat) : Value := .func (.func 106) #[] #[.pointer (some ⟨pM, 0, none⟩), .pointer (some ⟨pL, 0, none⟩)]
theorem of_any (m : Nat) (list : List Int) (A : Option Addr) (cap : Nat) (w : World) (h : IntsAt w w.heap.size A cap list) :
    Calls Tryd.prog 75 #[.slice A list.length cap, vi m] w fun e w' => ∃ pM pL, e = .returned (ofV pM pL) ∧ OfAt w' m list A cap pM pL ∧ Below w.heap.size w w' := by
  have HI := Lib.hid h
  clear h
  have X1 := (CellsBox.new w 22 [.slice A list.length cap]).alloc (.cells #[vi m] 3)
  have X2 := CellsBox.new (w.alloc (.cells #[.slice A list.length cap] 22)) 3 [vi m]
  rw [World.size_alloc] at X2
  have HX1 := Lib.hid X1
  have HX2 := Lib.hid X2
  have hb : Below w.heap.size w ((w.alloc (.cells #[.slice A list.length cap] 22)).alloc (.cells #[vi m] 3)) := by (repeat (first | exact Below.refl _ _ | refine Below.setCell ?_ (by first | omega | (simp; omega) | (simp; done)) _ | refine Below.alloc ?_ (by first | omega | (simp; omega) | (simp; done)) _ | refine Below.drew ?_ | refine below_drewN ?_ _ | refine Below.trans ?_ (Below.mono (by assumption) (by first | omega | (simp; omega) | (simp; done)))))
  have HB := Lib.hid hb
  clear X1 X2 hb
  go_enter Tryd.func75, Tryd.ntmps75
  go_wp2_with fail
  go_ret
  exact ⟨_, _, rfl, ⟨HX2.out, HX1.out, HI.out.to HB.out⟩, HB.out⟩
end Go.Proofs.YtomgnpfpaodpiaaDoor

/- A loop over a sequence whose things lie in memory that it made; the body may leave it. -/
namespace Go.Proofs.YtomgnpfpaodpiaaDoor
open Go Go.RowKit
variable {F : Fence} {n : Nat} {P : Program}
theorem CF.lower {B B' : Nat} {a b : World} (h : CF B a b) (hb : B ≤ B') : CF B' a b := ⟨h.size, fun k c t z hk => h.boxes k c t z (by omega)⟩
/-- how the body of a round may be left -/
def postM {α : Type} (B : Nat) (I : List α → World → Prop) (Ix : Code → List α → World → Prop) (xs : List α) (W : World) : Exit → Act → World → Prop
  | .normal, _, W' => KeepsFrom B W W' ∧ CS W W' ∧ I xs W'
  | .ret, _, W' => KeepsFrom B W W' ∧ CF B W W' ∧ Ix .ret xs W'
  | .exit id, _, W' => KeepsFrom B W W' ∧ CF B W W' ∧ Ix (.exit id) xs W'
  | .goto t, _, W' => KeepsFrom B W W' ∧ CF B W W' ∧ Ix (.goto t) xs W'
  | .panic _, _, _ => False
  | .outgrown, _, _ => False
theorem range_outerM {α : Type} {g : Operand} {ps : Array Tmp} {assign body : Code} {Q : Exit → Act → World → Prop} {a : Act} {w : World}
    (hro : F.round = none) (h1 : 1 ≤ n) {gf : Nat} {lb : Array Value} (hg : a.eval g = .func (.func gf) #[] lb) (hFg : F.fn gf) (eg : ∀ args w, (callFunc gf args).run P w = .ok (.enter gf args) w)
    {encs : α → Array Value} {R : α → World → Prop} {S Sp : List α → Prop} {N : Nat} {w0 : World} (hseq : SeqM F (n - 1) P gf lb encs R S Sp N w0)
    (hRk : ∀ x A B, CS A B → R x A → R x B) (hb0 : Below w0.heap.size w0 w) (hps : ∀ x, (encs x).size = ps.size)
    (I : List α → World → Prop) (Ix : Code → List α → World → Prop) (hI : OwnFrom w.heap.size I) (hIx : ∀ c, OwnFrom w.heap.size (Ix c)) (h0 : I [] w) (a₁ : α → Act)
    (hassign : ∀ (l : Nat) (x : α) (W : World) (K : Act → World → Prop), K (a₁ x) W →
      assign.wpIn (F.inRound l) (n - 1 - 1) P (Exit.then K (fun _ _ _ => False)) { tmps := (ps.zip (encs x)).foldl (fun t (p, v) => t.setIfInBounds p v) a.tmps, defers := [] } W)
    (hbody : ∀ (l : Nat) (pre : List α) (x : α) (W : World), w.heap.size ≤ l → I pre W → R x W → pre.length < N → body.wpIn (F.inRound l) (n - 1 - 1) P (postM w.heap.size I Ix (pre ++ [x]) W) (a₁ x) W)
    (hdone : ∀ (D : Nat) (xs : List α) (W : World), w.heap.size ≤ D → S xs → I xs W → W.heap[D]? = some (.deferred (some [])) → Q .normal { a with defers := { target := .collected D, args := #[] } :: a.defers } W)
    (hstop : ∀ (D : Nat) (c : Code) (pre : List α) (W : World), w.heap.size ≤ D → Sp pre → Ix c pre W → W.heap[D]? = some (.deferred (some [])) → c.wpIn F n P Q { a with defers := { target := .collected D, args := #[] } :: a.defers } W) :
    (Code.rangeFunc g ps assign body).wpIn F n P Q a w := by
  refine wpIn_rangeFunc fun fn hfn => ?_
  rw [hro]
  obtain ⟨W1, hW1⟩ : ∃ W1, (w.alloc (.deferred (some []))).alloc (.loop (lrec fn a.tmps ps assign body w.heap.size .ready)) = W1 := ⟨_, rfl⟩
  have hl1 : W1.heap[w.heap.size + 1]? = some (.loop (lrec fn a.tmps ps assign body w.heap.size .ready)) := by
    subst hW1
    have := World.alloc_heap_new (w.alloc (.deferred (some []))) (.loop (lrec fn a.tmps ps assign body w.heap.size .ready))
    rwa [World.size_alloc] at this
  have hd1 : W1.heap[w.heap.size]? = some (.deferred (some [])) := by
    subst hW1
    exact (Below.heap_alloc _ _ _ (by simp)).trans (World.alloc_heap_new w _)
  have hI1 : I [] W1 := by subst hW1; exact hI.alloc _ (hI.alloc _ h0)
  have hb1 : Below w0.heap.size w0 W1 := by subst hW1; exact hb0.trans ((((Below.refl _ w).alloc (Nat.le_refl _) _).alloc (by simp) _).mono hb0.size)
  have hsz1 : w.heap.size + 2 ≤ W1.heap.size := by subst hW1; simp
  have hlt1 : w.heap.size + 1 < W1.heap.size := by omega
  have up : ∀ {A : World} {row : Option Nat}, (∀ r, row = some r → W1.heap.size ≤ r ∧ ∃ o : Obj, A.heap[r]? = some o ∧ o.isWalk = true) → (∀ r, row = some r → w.heap.size ≤ r ∧ ∃ o : Obj, A.heap[r]? = some o ∧ o.isCells = false) :=
    fun hr r e => by obtain ⟨hB, o, ho, hw⟩ := hr r e; exact ⟨by omega, o, ho, Obj.not_cells_of_walk hw⟩
  refine ⟨w.heap.size + 1, [{ target := .collected w.heap.size, args := #[] }], W1, { target := .fn (.func gf) lb, args := #[.func (.yield (w.heap.size + 1)) #[] #[]] }, W1, gf, #[.func (.yield (w.heap.size + 1)) #[] #[]] ++ lb, W1, ?_, ?_, ?_, ?_, fun _ => h1, ?_⟩
  · rw [← hW1]; exact run_enterLoop_outer _ _ _ _ _
  · simp only [resolve, hg]
    simp [go_sem]
  · intro f' hf'; simp [Target.leads] at hf'; subst hf'; exact hFg
  · simp [invoke, go_sem, eg]
  · refine (hseq (w.heap.size + 1)
      (fun pre W => I pre W ∧ W.heap[w.heap.size + 1]? = some (.loop (lrec fn a.tmps ps assign body w.heap.size .ready)) ∧ W.heap[w.heap.size]? = some (.deferred (some [])))
      (fun pre W => ∃ c, Ix c pre W ∧ W.heap[w.heap.size + 1]? = some (.loop { lrec fn a.tmps ps assign body w.heap.size .done with pending := some c }) ∧ W.heap[w.heap.size]? = some (.deferred (some [])))
      W1 hb1 ?_ ?_ ?_ ⟨hI1, hl1, hd1⟩).mono ?_
    · intro s A B row hs hg' hr
      exact ⟨hI s A B row hs.1 hg' (up hr), heap_stays hg' (fun r e => (hr r e).1) hs.2.1 hlt1, heap_stays hg' (fun r e => (hr r e).1) hs.2.2 (by omega)⟩
    · rintro s A B row ⟨c, hc, hl, hk⟩ hg' hr
      exact ⟨c, hIx c s A B row hc hg' (up hr), heap_stays hg' (fun r e => (hr r e).1) hl hlt1, heap_stays hg' (fun r e => (hr r e).1) hk (by omega)⟩
    · rintro pre x W ⟨hi, hl, hk⟩ hlen hx
      have hlt : w.heap.size + 1 < W.heap.size := (Array.getElem?_eq_some_iff.1 hl).1
      have hy := run_yield (P := P) (args := encs x) hl (hps x)
      refine ⟨fn, _, assign, body, hy, roundIn_of_wpIn hfn (hassign _ x W _ ⟨_, run_beginRound hl rfl, ?_⟩)⟩
      have hl2 : (W.putObj (w.heap.size + 1) (.loop (lrec fn a.tmps ps assign body w.heap.size .busy))).heap[w.heap.size + 1]? = some (.loop (lrec fn a.tmps ps assign body w.heap.size .busy)) := World.putObj_heap_same hlt
      have hk2 : (W.putObj (w.heap.size + 1) (.loop (lrec fn a.tmps ps assign body w.heap.size .busy))).heap[w.heap.size]? = some (.deferred (some [])) := (World.putObj_heap_other (by omega)).trans hk
      have hc2 : CS W (W.putObj (w.heap.size + 1) (.loop (lrec fn a.tmps ps assign body w.heap.size .busy))) := CS.turn _ _ _ _ hl rfl
      refine wpIn_mono (hbody _ pre x _ (by omega) (hI.putObj _ hi (by omega) hl rfl) (hRk x _ _ hc2 hx) hlen) ?_
      have stop : ∀ (c : Code) (W3 : World), KeepsFrom w.heap.size (W.putObj (w.heap.size + 1) (.loop (lrec fn a.tmps ps assign body w.heap.size .busy))) W3 → CF w.heap.size (W.putObj (w.heap.size + 1) (.loop (lrec fn a.tmps ps assign body w.heap.size .busy))) W3 → Ix c (pre ++ [x]) W3 →
          ∃ b W4, (Instr.endRound (w.heap.size + 1) (some c)).run P W3 = .ok (.bool b) W4 ∧ ((Ending.returned (Value.bool b) = .returned (.bool true) ∧ (I (pre ++ [x]) W4 ∧ W4.heap[w.heap.size + 1]? = some (.loop (lrec fn a.tmps ps assign body w.heap.size .ready)) ∧ W4.heap[w.heap.size]? = some (.deferred (some []))) ∧ CS W W4) ∨
            (Ending.returned (Value.bool b) = .returned (.bool false) ∧ (∃ c, Ix c (pre ++ [x]) W4 ∧ W4.heap[w.heap.size + 1]? = some (.loop { lrec fn a.tmps ps assign body w.heap.size .done with pending := some c }) ∧ W4.heap[w.heap.size]? = some (.deferred (some []))) ∧ CF W1.heap.size W W4)) := fun c W3 hk3 hf3 hi3 => by
        have hl3 := hk3.same (w.heap.size + 1) _ (by omega) hl2 rfl
        have hr := run_endRound (P := P) (some c) hl3
        refine ⟨_, _, hr, .inr ⟨rfl, ⟨c, (hIx c).putObj _ hi3 (by omega) hl3 rfl, World.putObj_heap_same (Array.getElem?_eq_some_iff.1 hl3).1, (World.putObj_heap_other (by omega)).trans (hk3.same _ _ (Nat.le_refl _) hk2 rfl)⟩, ?_⟩⟩
        exact ((hc2.cf _).trans (hf3.lower (by omega))).trans ((CS.turn _ _ _ _ hl3 rfl).cf _)
      rintro e a3 W3 hp
      cases e with
      | normal =>
        obtain ⟨hk3, hc3, hi3⟩ := hp
        have hl3 := hk3.same (w.heap.size + 1) _ (by omega) hl2 rfl
        have hr := run_endRound (P := P) none hl3
        exact ⟨_, _, hr, .inl ⟨rfl, ⟨hI.putObj _ hi3 (by omega) hl3 rfl, World.putObj_heap_same (Array.getElem?_eq_some_iff.1 hl3).1, (World.putObj_heap_other (by omega)).trans (hk3.same _ _ (Nat.le_refl _) hk2 rfl)⟩, (hc2.trans hc3).trans (CS.turn _ _ _ _ hl3 rfl)⟩⟩
      | ret =>
        obtain ⟨b, W4, g1, g2⟩ := stop .ret W3 hp.1 hp.2.1 hp.2.2
        exact ⟨_, _, g1, g2⟩
      | exit id =>
        obtain ⟨b, W4, g1, g2⟩ := stop (.exit id) W3 hp.1 hp.2.1 hp.2.2
        exact ⟨_, _, g1, g2⟩
      | goto t =>
        obtain ⟨b, W4, g1, g2⟩ := stop (.goto t) W3 hp.1 hp.2.1 hp.2.2
        exact ⟨_, _, g1, g2⟩
      | panic ch => exact hp.elim
      | outgrown => exact hp.elim
    · rintro e W2 ⟨⟨v, rfl⟩, (⟨xs, hS, hi, hl, hk⟩ | ⟨pre, hSp, c, hi, hl, hk⟩)⟩
      · have := run_endLoop (P := P) hl (by simp)
        exact ⟨none, _, this, hdone _ xs _ (Nat.le_refl _) hS (hI.putObj _ hi (by omega) hl rfl) ((World.putObj_heap_other (by omega)).trans hk)⟩
      · have := run_endLoop (P := P) hl (by simp)
        exact ⟨some c, _, this, hstop _ c pre _ (Nat.le_refl _) hSp ((hIx c).putObj _ hi (by omega) hl rfl) ((World.putObj_heap_other (by omega)).trans hk)⟩
end Go.Proofs.YtomgnpfpaodpiaaDoor

/- A function that ends with many collected calls, none of them with anything to run; the plain form of Late. -/
namespace Go.Proofs.YtomgnpfpaodpiaaDoor
open Go Go.RowKit
abbrev marksOf (Ds : List Nat) : List Deferred := Ds.map fun D => { target := .collected D, args := #[] }
def shut (w : World) (Ds : List Nat) : World := Ds.foldl (fun X D => X.putObj D (.deferred none)) w
theorem shut_heap {k : Nat} : ∀ (Ds : List Nat) (w : World), k ∉ Ds → (shut w Ds).heap[k]? = w.heap[k]?
  | [], _, _ => rfl
  | D :: Ds, w, h => by
    have h1 : k ∉ Ds := fun e => h (by simp [e])
    have h2 : k ≠ D := fun e => h (by simp [e])
    exact (shut_heap Ds (w.putObj D (.deferred none)) h1).trans (World.putObj_heap_other h2)
theorem leaves_marks {F : Fence} {n : Nat} {P : Program} {fn : Func} {tmps : Array Value} {R : Ending → World → Prop} : ∀ (Ds : List Nat) (w : World), Ds.Nodup → (∀ D ∈ Ds, w.heap[D]? = some (.deferred (some []))) →
    LeavesInM F n P fn tmps R [] .returning (shut w Ds) → LeavesInM F n P fn tmps R (marksOf Ds) .returning w
  | [], _, _, _, h => h
  | D :: Ds, w, hn, hD, h => by
    obtain ⟨n1, n2⟩ := List.nodup_cons.1 hn
    have hd := hD D (by simp)
    refine ⟨by simp, .inl ⟨_, _, rfl, run_takeDeferred hd, ?_⟩⟩
    exact leaves_marks Ds _ n2 (fun E hE => (World.putObj_heap_other (fun e => by subst e; exact n1 hE)).trans (hD E (by simp [hE]))) h
/-- is there room among so many pickers for all slips but those -/
def canLess (f : Floor) (p : Nat) (l : List Int) : Bool := canF f p (lessF (allF f) (setF (l.map Int.toNat)))
/-- the slips of a floor, as members answers them -/
def slipsF (f : Floor) : List Int := (List.range f.slips.length).map Int.ofNat
/-- the fewest slips that are late -/
def lateF (f : Floor) (p : Nat) : List Int := ((List.range f.slips.length).findSome? fun many => (choF many (slipsF f) []).find? (canLess f p)).getD (slipsF f)
def LateV (f : Floor) (n : Int) : List Int × Int := if checkV f = 0 then (if hasB 1 5 n then (lateF f n.toNat, 0) else ([], 31)) else ([], checkV f)
end Go.Proofs.YtomgnpfpaodpiaaDoor

