/- Contract of can: a recursion over what a picker can be given, that keeps what it found in a map. -/
import Derived.Test.YtomgnpfpaodpiaaDoorH25
set_option linter.unusedVariables false
set_option linter.unusedSimpArgs false
namespace Go.Proofs.YtomgnpfpaodpiaaDoor
open Go Go.RowKit Go.Shelf
set_option maxHeartbeats 2000000
attribute [local go_sem] Oper.semAt_some
/-- the lists that a desk holds -/
structure DeskIn (W : World) (f : Floor) (oA qA : Option Addr) (oC : Nat) : Prop where
  floor : FloorAt W W.heap.size f
  ord : IntsAt W W.heap.size oA oC (orderF f)
  secs : IntsAt W W.heap.size qA f.slips.length (secsL f)
theorem DeskIn.cs {w w' : World} {f : Floor} {oA qA : Option Addr} {oC : Nat} (h : DeskIn w f oA qA oC) (hc : CS w w') : DeskIn w' f oA qA oC := ⟨hc.floor h.floor, hc.rows h.ord, hc.rows h.secs⟩
/-- what can leaves -/
structure CanPost (f : Floor) (bm p m : Nat) (μ μ' : Nat → Nat → Option Nat) (W W' : World) : Prop where
  map : CrewMap W' bm μ'
  inv : Inv f p μ'
  grows : Grows p μ μ'
  known : m ≠ 0 → p ≠ 0 → μ' m p ≠ none
  cs : CS W W'
  spare : Spare W.heap.size bm W W'
theorem cs_row {X Y : World} {row : Option Nat} {B : Nat} (hg : X.grownBy Y row) (hr : ∀ r, row = some r → B ≤ r ∧ ∃ o : Obj, X.heap[r]? = some o ∧ o.isCells = false) : CS X Y :=
  ⟨hg.os, hg.tape, hg.output, hg.size, fun k c t z hk => (hg.block k (Array.getElem?_eq_some_iff.1 hk).1 fun e => by
    obtain ⟨_, o, ho, hc⟩ := hr k e.symm
    rw [hk] at ho; cases ho; cases hc).trans hk⟩
theorem spare_row {X Y w : World} {row : Option Nat} {B n L : Nat} (h : Spare n L w X) (hn : n ≤ w.heap.size) (hB : n ≤ B) (hg : X.grownBy Y row) (hr : ∀ r, row = some r → B ≤ r ∧ ∃ o : Obj, X.heap[r]? = some o ∧ o.isCells = false) : Spare n L w Y :=
  h.trans ⟨hg.os, hg.tape, hg.output, hg.size, fun k hk _ => hg.block k (by have := h.size; omega) fun e => by have := (hr k e.symm).1; omega⟩
theorem crew_row {X Y : World} {row : Option Nat} {B bm : Nat} {μ : Nat → Nat → Option Nat} (h : CrewMap X bm μ) (hB : bm < B) (hg : X.grownBy Y row) (hr : ∀ r, row = some r → B ≤ r ∧ ∃ o : Obj, X.heap[r]? = some o ∧ o.isCells = false) : CrewMap Y bm μ :=
  h.keep (hg.block bm h.lt fun e => by have := (hr bm e.symm).1; omega)
/-- what is so between rounds: none of those that were given so far does -/
def CanI (f : Floor) (bm p m : Nat) (μ : Nat → Nat → Option Nat) (W w4 : World) (pre : List Nat) (X : World) : Prop :=
  ∃ μ', CrewMap X bm μ' ∧ Inv f p μ' ∧ Grows p (setM μ m (p + 1) 0) μ' ∧ (∀ x ∈ pre, canF f p (lessF m x) = false) ∧ CS w4 X ∧ Spare W.heap.size bm W X
def CanX (f : Floor) (bm p m br : Nat) (μ : Nat → Nat → Option Nat) (W : World) (c : Code) (pre : List Nat) (X : World) : Prop :=
  c = .ret ∧ ∃ d x μ', pre = d ++ [x] ∧ (∀ y ∈ d, canF f p (lessF m y) = false) ∧ canF f p (lessF m x) = true ∧ CrewMap X bm (setM μ' m (p + 1) x) ∧ Inv f p μ' ∧ Grows p (setM μ m (p + 1) 0) μ' ∧ (lessF m x ≠ 0 → p ≠ 0 → μ' (lessF m x) p ≠ none) ∧ CellsBox X br 4 [.bool true] ∧ CS W X ∧ Spare W.heap.size bm W X
theorem own_canI (f : Floor) (bm p m : Nat) (μ : Nat → Nat → Option Nat) (W w4 : World) (B : Nat) (hbm : bm < B) (hB : W.heap.size ≤ B) : OwnFrom B (CanI f bm p m μ W w4) := by
  rintro s X Y row ⟨μ', h1, h2, h3, h4, h5, h6⟩ hg hr
  exact ⟨μ', crew_row h1 hbm hg hr, h2, h3, h4, h5.trans (cs_row hg hr), spare_row h6 (Nat.le_refl _) hB hg hr⟩
theorem own_canX (f : Floor) (bm p m br : Nat) (μ : Nat → Nat → Option Nat) (W : World) (B : Nat) (hbm : bm < B) (hB : W.heap.size ≤ B) (c : Code) : OwnFrom B (CanX f bm p m br μ W c) := by
  rintro s X Y row ⟨hc, d, x, μ', h0, h1, h2, h3, h4, h5, h6, h7, h8, h9⟩ hg hr
  exact ⟨hc, d, x, μ', h0, h1, h2, crew_row h3 hbm hg hr, h4, h5, h6, (cs_row hg hr).box h7, h8.trans (cs_row hg hr), spare_row h9 (Nat.le_refl _) hB hg hr⟩
theorem can_zero (f : Floor) (p : Nat) : canF f p 0 = true := by cases p <;> simp [canF]
theorem can_none (f : Floor) {m : Nat} (hm : m ≠ 0) : canF f 0 m = false := by simpa [canF] using hm
set_option maxRecDepth 100000 in
theorem can_any (f : Floor) (hv : validB f = true) (oA qA : Option Addr) (oC qC bm : Nat) : ∀ (p m : Nat), p ≤ 5 → m < 512 → ∀ (W : World) (μ : Nat → Nat → Option Nat), DeskIn W f oA qA oC → CrewMap W bm μ → Inv f p μ →
    Calls Tryd.prog 76 #[.agg (deskC f oA oC qA f.slips.length qC bm).toArray, crewV m p] W fun e W' => e = .returned (.bool (canF f p m)) ∧ ∃ μ', CanPost f bm p m μ μ' W W' := by
  intro p
  induction p with
  | zero => 
    intro m _ hm W μ hD hM hI
    have HM := Lib.hid hM
    have HI := Lib.hid hI
    show Calls Tryd.prog 76 #[.agg #[.slice f.fA f.far.length f.fC, vi f.slo, vi f.shi, .slice f.pA f.picks.length f.pC, vi f.carry, .slice f.sA f.slips.length f.sC, .slice oA f.slips.length oC, .slice qA f.slips.length qC, .map (some bm)], .agg #[vi m, vi 0]] W _
    refine (callsIn_wide (n := 12)).1 ?_
    refine callsIn_of_wp_marks Tryd.func76 rfl trivial ?_ rfl
    simp only [Tryd.ntmps76, List.size_toArray, List.length_cons, List.length_nil, Nat.reduceAdd, Nat.reduceSub, Array.replicate_succ, Array.replicate_zero, List.push_toArray, List.append_toArray, List.nil_append, List.cons_append]
    have HP : Hid (∀ W', Below W.heap.size W W' → CanPost f bm 0 m μ μ W W') := fun W' hb => ⟨HM.out.below hb, HI.out, Grows.refl _ _, fun _ h => absurd rfl h, cs_of_below hb, spare_of_below bm hb (Nat.le_refl _)⟩
    by_cases hm0 : m = 0
    · subst hm0
      rw [can_zero]
      clear hD hM hI
      gi_wp2_with fail
      refine ⟨.bool true, by simp [results, Tryd.results76, go_sem], rfl, μ, HP.out _ ?_⟩
      (repeat (first | exact Below.refl _ _ | refine Below.setCell ?_ (by first | omega | (simp; omega) | (simp; done)) _ | refine Below.alloc ?_ (by first | omega | (simp; omega) | (simp; done)) _ | refine Below.drew ?_ | refine below_drewN ?_ _ | refine Below.trans ?_ (Below.mono (by assumption) (by first | omega | (simp; omega) | (simp; done)))))
    · have hme : ((m : Int) == 0) = false := by simp; omega
      rw [can_none f hm0]
      clear hD hM hI
      gi_wp2_with fail
      refine ⟨.bool false, by simp [results, Tryd.results76, go_sem], rfl, μ, HP.out _ ?_⟩
      (repeat (first | exact Below.refl _ _ | refine Below.setCell ?_ (by first | omega | (simp; omega) | (simp; done)) _ | refine Below.alloc ?_ (by first | omega | (simp; omega) | (simp; done)) _ | refine Below.drew ?_ | refine below_drewN ?_ _ | refine Below.trans ?_ (Below.mono (by assumption) (by first | omega | (simp; omega) | (simp; done)))))
  | succ p ih =>
    intro m hp hm W μ hD hM hI
    have IH := Lib.hid ih
    have HD := Lib.hid hD
    have HM := Lib.hid hM
    have HI := Lib.hid hI
    have HV := Lib.hid hv
    have zM := hM.lt
    clear ih hD hI hv
    show Calls Tryd.prog 76 #[.agg #[.slice f.fA f.far.length f.fC, vi f.slo, vi f.shi, .slice f.pA f.picks.length f.pC, vi f.carry, .slice f.sA f.slips.length f.sC, .slice oA f.slips.length oC, .slice qA f.slips.length qC, .map (some bm)], .agg #[vi m, vi (p + 1 : Nat)]] W _
    refine (callsIn_wide (n := 12)).1 ?_
    refine callsIn_of_wp_marks Tryd.func76 rfl trivial ?_ rfl
    simp only [Tryd.ntmps76, List.size_toArray, List.length_cons, List.length_nil, Nat.reduceAdd, Nat.reduceSub, Array.replicate_succ, Array.replicate_zero, List.push_toArray, List.append_toArray, List.nil_append, List.cons_append]
    obtain ⟨pI, hpI⟩ : ∃ pI : Int, pI = ((p + 1 : Nat) : Int) := ⟨_, rfl⟩
    have hpe : (pI == 0) = false := by simp; omega
    have hp1 : pI - 1 = p := by omega
    have HPI := Lib.hid hpI
    rw [← hpI]
    clear hpI
    by_cases hm0 : m = 0
    · subst hm0
      rw [can_zero]
      have HP : Hid (∀ W', Below W.heap.size W W' → CanPost f bm (p + 1) 0 μ μ W W') := fun W' hb => ⟨hM.below hb, HI.out, Grows.refl _ _, fun h => absurd rfl h, cs_of_below hb, spare_of_below bm hb (Nat.le_refl _)⟩
      gi_wp2_with fail
      refine ⟨.bool true, by simp [results, Tryd.results76, go_sem], rfl, μ, HP.out _ ?_⟩
      (repeat (first | exact Below.refl _ _ | refine Below.setCell ?_ (by first | omega | (simp; omega) | (simp; done)) _ | refine Below.alloc ?_ (by first | omega | (simp; omega) | (simp; done)) _ | refine Below.drew ?_ | refine below_drewN ?_ _ | refine Below.trans ?_ (Below.mono (by assumption) (by first | omega | (simp; omega) | (simp; done)))))
    · have hme : ((m : Int) == 0) = false := by simp; omega
      have HM0 := Lib.hid hm0
      obtain ⟨V, hV⟩ : ∃ V, V = ((W.alloc (.cells #[.slice f.fA f.far.length f.fC, vi f.slo, vi f.shi, .slice f.pA f.picks.length f.pC, vi f.carry, .slice f.sA f.slips.length f.sC, .slice oA f.slips.length oC, .slice qA f.slips.length qC, .map (some bm)] 108)).alloc (.cells #[vi m, vi pI] 116)).alloc (.cells #[.bool false] 4) := ⟨_, rfl⟩
      have hb : Below W.heap.size W V := by rw [hV]; (repeat (first | exact Below.refl _ _ | refine Below.setCell ?_ (by first | omega | (simp; omega) | (simp; done)) _ | refine Below.alloc ?_ (by first | omega | (simp; omega) | (simp; done)) _ | refine Below.drew ?_ | refine below_drewN ?_ _ | refine Below.trans ?_ (Below.mono (by assumption) (by first | omega | (simp; omega) | (simp; done)))))
      have HB := Lib.hid hb
      have X1 : Hid (CellsBox V W.heap.size 108 (deskC f oA oC qA f.slips.length qC bm)) := by unfold Hid; rw [hV]; exact ((CellsBox.new W 108 (deskC f oA oC qA f.slips.length qC bm)).alloc _).alloc _
      have X2 : Hid (CellsBox V (W.heap.size + 1) 116 [vi m, vi pI]) := by
        unfold Hid; rw [hV]
        have := (CellsBox.new (W.alloc (.cells #[.slice f.fA f.far.length f.fC, vi f.slo, vi f.shi, .slice f.pA f.picks.length f.pC, vi f.carry, .slice f.sA f.slips.length f.sC, .slice oA f.slips.length oC, .slice qA f.slips.length qC, .map (some bm)] 108)) 116 [vi m, vi pI]).alloc (.cells #[.bool false] 4)
        rwa [World.size_alloc] at this
      have X3 : Hid (CellsBox V (W.heap.size + 1 + 1) 4 [.bool false]) := by
        unfold Hid; rw [hV]
        have := CellsBox.new ((W.alloc (.cells #[.slice f.fA f.far.length f.fC, vi f.slo, vi f.shi, .slice f.pA f.picks.length f.pC, vi f.carry, .slice f.sA f.slips.length f.sC, .slice oA f.slips.length oC, .slice qA f.slips.length qC, .map (some bm)] 108)).alloc (.cells #[vi m, vi pI] 116)) 4 [.bool false]
        simpa using this
      have hlk0 := look_crew (hM.below hb) m (p + 1) true
      rw [show crewV m (p + 1) = .agg #[vi m, vi pI] from by rw [HPI.out]] at hlk0
      cases hk : μ m (p + 1) with
      | some s =>
        obtain ⟨_, _, hs⟩ := HI.out.val m (p + 1) s (Nat.le_refl _) hk
        have hcan : canF f (p + 1) m = decide (s ≠ 0) := by rw [can_share (by omega) hm0, ← hs]
        rw [hcan]
        have HP : Hid (∀ W', Below W.heap.size W W' → CanPost f bm (p + 1) m μ μ W W') := fun W' hb => ⟨hM.below hb, HI.out, Grows.refl _ _, fun _ _ => by rw [hk]; simp, cs_of_below hb, spare_of_below bm hb (Nat.le_refl _)⟩
        rw [hk, hV] at hlk0
        simp only [Option.getD_some, Option.isSome_some, if_true] at hlk0
        clear hs hcan hk hV hb
        gi_wp2_with fail
        refine ⟨.bool ((s : Int) != 0), by simp [results, Tryd.results76, go_sem], ?_, μ, HP.out _ ?_⟩
        · have e : ((s : Int) != 0) = decide (s ≠ 0) := by
            by_cases h : s = 0 <;> simp [h]
          rw [e]
        · (repeat (first | exact Below.refl _ _ | refine Below.setCell ?_ (by first | omega | (simp; omega) | (simp; done)) _ | refine Below.alloc ?_ (by first | omega | (simp; omega) | (simp; done)) _ | refine Below.drew ?_ | refine below_drewN ?_ _ | refine Below.trans ?_ (Below.mono (by assumption) (by first | omega | (simp; omega) | (simp; done)))))
      | none =>
        obtain ⟨w2, hst, hC2, hcs2, hsz2, hoth2⟩ := store_crew (hM.below hb) m (p + 1) 0
        rw [show crewV m (p + 1) = .agg #[vi m, vi pI] from by rw [HPI.out]] at hst
        rw [hV, show ((0 : Nat) : Int) = 0 from rfl] at hst
        rw [hk, hV] at hlk0
        simp only [Option.getD_none, Option.isSome_none, if_true] at hlk0
        have HK := Lib.hid hk
        have HC2 := Lib.hid hC2
        have HCS2 : Hid (CS W w2) := (cs_of_below hb).trans hcs2
        have HO2 : Hid (Spare W.heap.size bm W w2) := ⟨HCS2.out.os, HCS2.out.tape, HCS2.out.output, HCS2.out.size, fun k hk hl => (hoth2 k hl).trans (hb.block k hk)⟩
        have X1w := Lib.hid (hcs2.box X1.out)
        have X2w := Lib.hid (hcs2.box X2.out)
        have X3w := Lib.hid (hcs2.box X3.out)
        have hzV : V.heap.size = W.heap.size + 1 + 1 + 1 := by rw [hV]; simp
        rw [hzV] at hsz2
        have HD2 := Lib.hid (HD.out.cs HCS2.out)
        clear hk hV hb hC2 hcs2 hoth2 X1 X2 X3 HB hM
        have a0 := X1w.out.cell (j := 0) rfl
        have a1 := X1w.out.cell (j := 1) rfl
        have a2 := X1w.out.cell (j := 2) rfl
        have a3 := X1w.out.cell (j := 3) rfl
        have a4 := X1w.out.cell (j := 4) rfl
        have a5 := X1w.out.cell (j := 5) rfl
        have a6 := X1w.out.cell (j := 6) rfl
        have a7 := X1w.out.cell (j := 7) rfl
        have a8 := X1w.out.cell (j := 8) rfl
        have c0 := X2w.out.cell (j := 0) rfl
        have c1 := X2w.out.cell (j := 1) rfl
        have z1 := X1w.out.lt
        have z2 := X2w.out.lt
        gi_wp2_with fail
        refine ⟨trivial, ?_⟩
        refine (callsIn_wide.2 (given_any f m oA qA oC qC bm _ HD2.out.floor HD2.out.ord HD2.out.secs)).mono ?_
        rintro e w4 ⟨pD, pS, pJ, rfl, hGA, hb4⟩
        have hzb := hb4.size
        have HGA := Lib.hid hGA
        clear a0 a1 a2 a3 a4 a5 a6 a7 a8 c0 c1 z1 z2 hGA hst hlk0
        gi_wp2_with fail
        have hbmw : bm < w4.heap.size := by omega
        have hW4 : W.heap.size ≤ w4.heap.size := by omega
        have HCS4 : Hid (CS W w4) := HCS2.out.trans (cs_of_below hb4)
        have HO4 : Hid (Spare W.heap.size bm W w4) := HO2.out.trans (spare_of_below bm hb4 (by omega))
        have HC4 : Hid (CrewMap w4 bm (setM μ m (p + 1) 0)) := HC2.out.below hb4
        have X1v := Lib.hid (X1w.out.keep hb4)
        have X2v := Lib.hid (X2w.out.keep hb4)
        have X3v := Lib.hid (X3w.out.keep hb4)
        have HI0 : Hid (Inv f p (setM μ m (p + 1) 0)) := set_less (HI.out.less (Nat.le_succ p)) m 0
        refine wpIn_rangeFunc_ownG rfl (by omega) (gf := 117) (lb := #[.pointer (some ⟨pD, 0, none⟩), .pointer (some ⟨pS, 0, none⟩), .pointer (some ⟨pJ, 0, none⟩)]) rfl trivial (enters_of Tryd.func117 (by kernel_rfl) rfl)
          (given_seq f HV.out m hm oA qA oC qC bm pD pS pJ w4 HGA.out _) (fun h k => CS.trans h k) (fun W l o o' _ h h1 _ => CS.turn W l o o' h h1) (Below.refl _ _) (fun _ => rfl)
          (fun pre X => CanI f bm p m μ W w4 (Subs pre) X) (fun c pre X => CanX f bm p m (W.heap.size + 1 + 1) μ W c (Subs pre) X) (fun s X Y row hs hg hr => own_canI f bm p m μ W w4 _ hbmw hW4 (Subs s) X Y row hs hg hr) (fun c s X Y row hs hg hr => own_canX f bm p m _ μ W _ hbmw hW4 c (Subs s) X Y row hs hg hr)
          ⟨_, HC4.out, HI0.out, Grows.refl _ _, by simp [Subs], CS.refl _, HO4.out⟩
          (fun x => { tmps := #[.agg #[.slice f.fA f.far.length f.fC, vi f.slo, vi f.shi, .slice f.pA f.picks.length f.pC, vi f.carry, .slice f.sA f.slips.length f.sC, .slice oA f.slips.length oC, .slice qA f.slips.length qC, .map (some bm)], .agg #[vi m, vi pI], .pointer (some ⟨W.heap.size, 0, none⟩), .pointer (some ⟨W.heap.size + 1, 0, none⟩), .pointer (some ⟨W.heap.size + 1 + 1, 0, none⟩), vi 0, .bool false, vi x.1, .pointer (some ⟨W.heap.size + 1, 0, none⟩), vi m, .bool false, .bool false, .pointer (some ⟨W.heap.size + 1, 1, none⟩), vi pI, .bool false, .bool false, undef, undef, undef, .tuple #[vi 0, .bool false], .pointer (some ⟨W.heap.size, 8, none⟩), .map (some bm), .agg #[vi m, vi pI], .tuple #[vi 0, .bool false], vi 0, .bool false, .bool false, undef, undef, .pointer (some ⟨W.heap.size, 8, none⟩), .map (some bm), .agg #[vi m, vi pI], .agg #[.slice f.fA f.far.length f.fC, vi f.slo, vi f.shi, .slice f.pA f.picks.length f.pC, vi f.carry, .slice f.sA f.slips.length f.sC, .slice oA f.slips.length oC, .slice qA f.slips.length qC, .map (some bm)], .pointer (some ⟨W.heap.size + 1, 0, none⟩), vi m, .pointer (some ⟨W.heap.size, 0, none⟩), .agg #[.slice f.fA f.far.length f.fC, vi f.slo, vi f.shi, .slice f.pA f.picks.length f.pC, vi f.carry, .slice f.sA f.slips.length f.sC], inTimeV f, givenV pD pS pJ, vi x.1, undef, undef, undef, undef, undef, undef, undef, undef, undef, undef, undef, undef, undef, undef], defers := [] }) ?assign ?body ?done ?stop
        case assign =>
          intro l x X K hK
          gi_wp2
          exact hK
        case body =>
          rintro l pre ⟨x, hx⟩ X ⟨μ1, h1, h2, h3, h4, h5, h6⟩ hlt
          have hzX := h5.size
          have hbX : bm < X.heap.size := by omega
          have HX1 := Lib.hid (h5.box X1v.out)
          have HX2 := Lib.hid (h5.box X2v.out)
          have HX3 := Lib.hid (h5.box X3v.out)
          have a0 := HX1.out.cell (j := 0) rfl
          have a1 := HX1.out.cell (j := 1) rfl
          have a2 := HX1.out.cell (j := 2) rfl
          have a3 := HX1.out.cell (j := 3) rfl
          have a4 := HX1.out.cell (j := 4) rfl
          have a5 := HX1.out.cell (j := 5) rfl
          have a6 := HX1.out.cell (j := 6) rfl
          have a7 := HX1.out.cell (j := 7) rfl
          have a8 := HX1.out.cell (j := 8) rfl
          have c0 := HX2.out.cell (j := 0) rfl
          have c1 := HX2.out.cell (j := 1) rfl
          have z1 := HX1.out.lt
          have z2 := HX2.out.lt
          have hbits := less_fact m x hm hx
          have hpw : IntKind.wrap .i64 (pI - 1) = p := by rw [hp1]; exact wrapI (by omega) (by omega)
          have HSUB : Hid (Subs (pre ++ [⟨x, hx⟩]) = Subs pre ++ [x]) := by unfold Hid; simp [Subs]
          have HDX := Lib.hid (HD.out.cs (HCS4.out.trans h5))
          have CAN := Lib.hid (IH.out (lessF m x) (by omega) (less_lt hm x) X μ1 HDX.out h1 h2)
          obtain ⟨cb, hcb⟩ : ∃ cb, cb = canF f p (lessF m x) := ⟨_, rfl⟩
          have HCB := Lib.hid hcb
          rw [← hcb] at CAN
          obtain ⟨lx, hlx⟩ : ∃ lx, lx = lessF m x := ⟨_, rfl⟩
          have HLX := Lib.hid hlx
          rw [← hlx] at CAN hbits
          have H1 := Lib.hid h1
          have H2 := Lib.hid h2
          have H3 := Lib.hid h3
          have H4 := Lib.hid h4
          have H5 := Lib.hid h5
          have H6 := Lib.hid h6
          clear hcb hlx h1 h2 h3 h4 h5 h6
          gi_wp2_with fail
          refine ⟨trivial, ?_⟩
          refine (CallsIn.inRound l (callsIn_wide.2 CAN.out)).mono ?_
          rintro e X2 ⟨rfl, μ2, hP⟩
          have HP := Lib.hid hP
          have HS2 : Hid (Spare W.heap.size bm W X2) := ⟨hP.cs.os.trans H6.out.os, hP.cs.tape.trans H6.out.tape, hP.cs.output.trans H6.out.output, Nat.le_trans H6.out.size hP.cs.size, fun k hk hl => (hP.spare.block k (by omega) hl).trans (H6.out.block k hk hl)⟩
          have HKF : Hid (KeepsFrom w4.heap.size X X2) := ⟨hP.cs.size, fun k o hk ho _ => (hP.spare.block k (Array.getElem?_eq_some_iff.1 ho).1 (by omega)).trans ho⟩
          have Y1 := Lib.hid (hP.cs.box HX1.out)
          have Y2 := Lib.hid (hP.cs.box HX2.out)
          have Y3 := Lib.hid (hP.cs.box HX3.out)
          clear a0 a1 a2 a3 a4 a5 a6 a7 a8 c0 c1 z1 z2 hbits hpw hP
          rcases cb with _ | _
          · gi_wp2_with fail
            refine ⟨HKF.out, HP.out.cs, μ2, HP.out.map, HP.out.inv, H3.out.trans HP.out.grows, ?_, H5.out.trans HP.out.cs, HS2.out⟩
            intro y hy
            rw [HSUB.out, List.mem_append, List.mem_singleton] at hy
            rcases hy with hy | rfl
            · exact H4.out y hy
            · exact HCB.out.symm
          · obtain ⟨w5, hst, hC5, hcs5, hsz5, hoth5⟩ := store_crew HP.out.map m (p + 1) x
            rw [show crewV m (p + 1) = .agg #[vi m, vi pI] from by rw [HPI.out]] at hst
            have HC5 := Lib.hid hC5
            have HCS5 := Lib.hid hcs5
            have HO5 := Lib.hid hoth5
            have b0 := Y1.out.cell (j := 8) rfl
            have c0 := Y2.out.cell (j := 0) rfl
            have c1 := Y2.out.cell (j := 1) rfl
            have z1 := Y1.out.lt
            have z2 := Y2.out.lt
            have Y5 := hcs5.box Y3.out
            have r0 := Y5.cell (j := 0) rfl
            have q0 := Y5.frozen 0
            have zr := Y5.lt
            have HY5 := Lib.hid Y5
            have hzX2 := HP.out.cs.size
            have hrb : bm ≠ W.heap.size + 1 + 1 := by omega
            clear hC5 hcs5 hoth5 Y5
            gi_wp2_with fail
            refine ⟨?_, rfl, Subs pre, x, μ2, HSUB.out, H4.out, HCB.out.symm, ?_, HP.out.inv, H3.out.trans HP.out.grows, ?_, HY5.out.store 0 (.bool true), ?_, ?_⟩
            · refine ⟨by have := HKF.out.size; simp; omega, fun k o hk ho hc => ?_⟩
              have h1 := HKF.out.same k o hk ho hc
              rw [heap_setCell_other _ _ k _ (by rintro e; have := HX3.out; unfold CellsBox at this; simp only at e; rw [e, this] at ho; cases ho; cases hc), HO5.out k (by omega)]
              exact h1
            · exact HC5.out.keep (heap_setCell_other _ _ bm _ hrb)
            · intro g1 g2
              rw [← HLX.out]
              exact HP.out.known (by rw [HLX.out]; exact g1) g2
            · have hh : CS W w5 := (HCS4.out.trans H5.out).trans (HP.out.cs.trans HCS5.out)
              exact ⟨hh.os, hh.tape, hh.output, by have := hh.size; simpa using this, fun k c t z hk => (heap_setCell_other _ _ k _ (by have := (Array.getElem?_eq_some_iff.1 hk).1; simp only; omega)).trans (hh.boxes k c t z hk)⟩
            · have hh : CS W w5 := (HCS4.out.trans H5.out).trans (HP.out.cs.trans HCS5.out)
              exact ⟨hh.os, hh.tape, hh.output, by have := hh.size; simpa using this, fun k hk hl => ((heap_setCell_other _ _ k _ (by simp only; omega)).trans (HO5.out k hl)).trans (HS2.out.block k hk hl)⟩
        case done =>
          rintro D xs X hD hxs ⟨μ1, h1, h2, h3, h4, h5, h6⟩ hDf
          rw [hxs] at h4
          have hsh : shareF f (p + 1) m = 0 := by
            unfold shareF
            rw [Nat.add_sub_cancel, List.find?_eq_none.2 (fun x hx => by rw [h4 x hx]; simp)]
            rfl
          have hcan : canF f (p + 1) m = false := by rw [can_share (by omega) HM0.out, hsh]; simp
          obtain ⟨hinv, hgr⟩ := HI.out.close HM0.out HK.out h2 h3 0 hsh.symm (fun h => absurd rfl h)
          have heq : setM μ1 m (p + 1) 0 = μ1 := by
            funext m' p'
            unfold setM
            split
            · rename_i h
              obtain ⟨rfl, rfl⟩ := h
              exact (h3.keep m' (p + 1) 0 (by simp [setM])).symm
            · rfl
          rw [heq] at hinv hgr
          have hc := CS.box h5 X3v.out
          have r0 := hc.cell (j := 0) rfl
          have q0 := hc.frozen 0
          have zr := hc.lt
          have HCAN := Lib.hid hcan
          have hzX := h5.size
          obtain ⟨Z, hZ⟩ : ∃ Z, Z = X.setCell ⟨W.heap.size + 1 + 1, 0, none⟩ (.bool false) := ⟨_, rfl⟩
          have hZo : ∀ k, k ≠ W.heap.size + 1 + 1 → Z.heap[k]? = X.heap[k]? := fun k hk => by rw [hZ]; exact heap_setCell_other _ _ k _ hk
          have hZc : CellsBox Z (W.heap.size + 1 + 1) 4 [.bool false] := by rw [hZ]; exact hc.store 0 (.bool false)
          have hZD : Z.heap[D]? = some (.deferred (some [])) := (hZo D (by omega)).trans hDf
          have hZs : Z.heap.size = X.heap.size ∧ Z.os = X.os ∧ Z.tape = X.tape ∧ Z.output = X.output := by rw [hZ]; exact ⟨by simp, rfl, rfl, rfl⟩
          have HP : Hid (CanPost f bm (p + 1) m μ μ1 W (Z.putObj D (.deferred none))) := by
            have hW := HCS4.out.trans h5
            have hk : ∀ k, k ≠ D → k ≠ W.heap.size + 1 + 1 → (Z.putObj D (.deferred none)).heap[k]? = X.heap[k]? := fun k h1 h2 => (World.putObj_heap_other h1).trans (hZo k h2)
            have hbd := h1.lt
            refine ⟨h1.keep (hk bm (by omega) (by omega)), hinv, hgr, fun _ _ => ?_, ⟨hZs.2.1.trans hW.os, hZs.2.2.1.trans hW.tape, hZs.2.2.2.trans hW.output, by have := hW.size; simp; omega, fun k c t z hkc => ?_⟩, ⟨hZs.2.1.trans hW.os, hZs.2.2.1.trans hW.tape, hZs.2.2.2.trans hW.output, by have := hW.size; simp; omega, fun k hk1 hk2 => ?_⟩⟩
            · rw [h3.keep m (p + 1) 0 (by simp [setM])]; simp
            · have := (Array.getElem?_eq_some_iff.1 hkc).1
              exact (hk k (by omega) (by omega)).trans (hW.boxes k c t z hkc)
            · exact (hk k (by omega) (by omega)).trans (h6.block k hk1 hk2)
          have Z0 := hZc.cell (j := 0) rfl
          have HZ := Lib.hid hZ
          have HZD := Lib.hid hZD
          have HZ0 := Lib.hid Z0
          have HDne : Hid (D ≠ W.heap.size + 1 + 1) := by unfold Hid; omega
          clear hinv hgr heq hsh hcan h1 h2 h3 h4 h5 h6 hc hZ hZo hZc hZD hZs Z0
          gi_wp2
          refine (?_ : ∀ Z' : World, Z = Z' → bodyPostM _ _ _ _ _ _ _ Z') _ HZ.out
          rintro _ rfl
          refine ⟨by simp, .inl ⟨_, _, rfl, run_takeDeferred HZD.out, ?_⟩⟩
          have o0 : (Z.putObj D (.deferred none)).cell? ⟨W.heap.size + 1 + 1, 0, none⟩ = some (.bool false) := (World.cell?_of_block (World.putObj_heap_other HDne.out.symm)).trans HZ0.out
          refine ⟨.bool false, by simp [results, Tryd.results76, go_sem, o0], ?_, μ1, HP.out⟩
          rw [HCAN.out]
        case stop =>
          rintro D c pre X hD ⟨d, x, r, hd, hpre⟩ ⟨rfl, d', x', μ1, hpre', g1, g2, g3, g4, g5, g6, g7, g8, g9⟩ hDf
          have hdd : d = d' ∧ x = x' := by
            have := hpre.symm.trans hpre'
            have h1 := List.append_inj' this rfl
            exact ⟨h1.1, by simpa using h1.2⟩
          obtain ⟨rfl, rfl⟩ := hdd
          have hfind : (givenF f m).find? (fun y => canF f p (lessF m y)) = some x := by
            rw [hd, List.find?_append, List.find?_eq_none.2 (fun y hy => by rw [g1 y hy]; simp), List.find?_cons, g2]
            rfl
          have hsh : shareF f (p + 1) m = x := by
            unfold shareF
            rw [Nat.add_sub_cancel, hfind]
            rfl
          have hx0 : x ≠ 0 := given_pos f m _ _ _ x (by have : x ∈ givenF f m := by rw [hd]; simp
                                                        exact this)
          have hcan : canF f (p + 1) m = true := by rw [can_share (by omega) HM0.out, hsh]; simpa using hx0
          obtain ⟨hinv, hgr⟩ := HI.out.close HM0.out HK.out g4 g5 x hsh.symm (fun _ h1 h2 => g6 h1 h2)
          have HCAN := Lib.hid hcan
          have HP : Hid (CanPost f bm (p + 1) m μ (setM μ1 m (p + 1) x) W (X.putObj D (.deferred none))) := by
            have hk : ∀ k, k ≠ D → (X.putObj D (.deferred none)).heap[k]? = X.heap[k]? := fun k h1 => World.putObj_heap_other h1
            refine ⟨g3.keep (hk bm (by omega)), hinv, hgr, fun _ _ => by simp [setM], ⟨g8.os, g8.tape, g8.output, by have := g8.size; simpa using this, fun k c t z hkc => ?_⟩, ⟨g8.os, g8.tape, g8.output, by have := g8.size; simpa using this, fun k hk1 hk2 => ?_⟩⟩
            · have := (Array.getElem?_eq_some_iff.1 hkc).1
              exact (hk k (by omega)).trans (g8.boxes k c t z hkc)
            · exact (hk k (by omega)).trans (g9.block k hk1 hk2)
          have o0 : (X.putObj D (.deferred none)).cell? ⟨W.heap.size + 1 + 1, 0, none⟩ = some (.bool true) := (World.cell?_of_block (World.putObj_heap_other (by simp only; omega))).trans (g7.cell (j := 0) rfl)
          have HO0 := Lib.hid o0
          clear hinv hgr hcan hx0 hsh hfind g1 g2 g3 g4 g5 g6 g7 g8 g9 o0
          gi_wp2
          refine ⟨by simp, .inl ⟨_, _, rfl, run_takeDeferred hDf, ?_⟩⟩
          have o0 := HO0.out
          refine ⟨.bool true, by simp [results, Tryd.results76, go_sem, o0], ?_, _, HP.out⟩
          rw [HCAN.out]
end Go.Proofs.YtomgnpfpaodpiaaDoor

