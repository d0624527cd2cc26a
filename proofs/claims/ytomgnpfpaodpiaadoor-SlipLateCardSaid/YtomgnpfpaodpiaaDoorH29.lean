/- The closure of Spare. -/
import Derived.Test.YtomgnpfpaodpiaaDoorH28
import Derived.Test.YtomgnpfpaodpiaaDoorH15
set_option linter.unusedVariables false
set_option linter.unusedSimpArgs false
namespace Go.Proofs.YtomgnpfpaodpiaaDoor
open Go Go.RowKit Go.Shelf
set_option maxHeartbeats 3000000
/-- the floor with another Until, wherever its slips lie -/
abbrev tillF (f : Floor) (k : Nat) (u : Int) : Floor := withF f none 0 k u
theorem hi_at (f : Floor) (A : Option Addr) (C k : Nat) (u : Int) (l : List SLine) (st : Int) : ∀ n, secsKHi (withF f A C k u) l st n = secsKHi f l st n
  | 0 => rfl
  | n + 1 => by rw [secsKHi, secsKHi, hi_at f A C k u l st n]; rfl
theorem lo_at (f : Floor) (A : Option Addr) (C k : Nat) (u : Int) (l : List SLine) (st : Int) : ∀ n, secsKLo (withF f A C k u) l st n = secsKLo f l st n
  | 0 => rfl
  | n + 1 => by rw [secsKLo, secsKLo, lo_at f A C k u l st n]; rfl
theorem steps_at (f : Floor) (A : Option Addr) (C k : Nat) (u : Int) (s : SSlip) : stepsF (withF f A C k u) s = stepsF f s := by
  unfold stepsF
  rfl
theorem takes_at (f : Floor) (A : Option Addr) (C k : Nat) (u : Int) (s : SSlip) : takesF (withF f A C k u) s = takesF f s := by
  rw [takesF, takesF, steps_at, secsFLo, secsFLo, secsFHi, secsFHi, hi_at, lo_at]
theorem secs_at (f : Floor) (A : Option Addr) (C k : Nat) (u : Int) : secsL (withF f A C k u) = secsL (tillF f k u) := by
  unfold secsL
  apply List.map_congr_left
  intro s _
  rw [takes_at, takes_at]
theorem key_at (f : Floor) (A : Option Addr) (C k : Nat) (u : Int) : keyF (withF f A C k u) = keyF (tillF f k u) := rfl
theorem order_at (f : Floor) (A : Option Addr) (C k : Nat) (u : Int) : orderF (withF f A C k u) = orderF (tillF f k u) := rfl
theorem loop_at (f : Floor) (A : Option Addr) (C k : Nat) (u : Int) (m : Nat) : ∀ (rest : List Nat) (to : Nat) (sec : Int), loopF (withF f A C k u) m to sec rest = loopF (tillF f k u) m to sec rest
  | [], _, _ => rfl
  | s :: rest, to, sec => by
    rw [loopF, loopF, loop_at f A C k u m rest, loop_at f A C k u m rest, okF, okF, secs_at, key_at]
theorem given_at (f : Floor) (A : Option Addr) (C k : Nat) (u : Int) (m : Nat) : givenF (withF f A C k u) m = givenF (tillF f k u) m := loop_at f A C k u m _ _ _
theorem can_at (f : Floor) (A : Option Addr) (C k : Nat) (u : Int) : ∀ (p m : Nat), canF (withF f A C k u) p m = canF (tillF f k u) p m
  | 0, _ => rfl
  | p + 1, m => by
    rw [canF, canF, given_at]
    have : (fun x => canF (withF f A C k u) p (lessF m x)) = fun x => canF (tillF f k u) p (lessF m x) := funext fun x => can_at f A C k u p (lessF m x)
    rw [this]
theorem valid_till {f : Floor} (hv : validB f = true) (A : Option Addr) (C k : Nat) {u : Int} (h0 : 0 ≤ u) (h1 : u ≤ 100000) : validB (withF f A C k u) = true := by
  unfold validB at hv ⊢
  simp only [Bool.and_eq_true] at hv ⊢
  obtain ⟨⟨⟨⟨v1, v2⟩, v3⟩, v4⟩, v5⟩ := hv
  have hl : (withF f A C k u).slips.length = f.slips.length := by simp [withF]
  rw [hl]
  refine ⟨⟨⟨⟨v1, v2⟩, v3⟩, v4⟩, ?_⟩
  rw [List.all_eq_true] at v5 ⊢
  intro i hi
  have hg := v5 i hi
  have hlt := List.mem_range.1 hi
  have e : (withF f A C k u).slips[i]? = some (if k = i then { f.slips[i] with till := u } else f.slips[i]) := by
    simp only [withF, List.getElem?_modify, List.getElem?_eq_getElem hlt, Option.map_some]
    split <;> rfl
  rw [goodSlip_of (List.getElem?_eq_getElem hlt), Bool.and_eq_true] at hg
  rw [goodSlip_of e, Bool.and_eq_true]
  split
  · exact ⟨by simp [hasB]; omega, hg.2⟩
  · exact hg
/-- are so many pickers enough with another Until -/
def enoughF (f : Floor) (k p : Nat) (u : Int) : Bool := canF (tillF f k u) p (allF f)
end Go.Proofs.YtomgnpfpaodpiaaDoor

/- Contract of the closure of Spare. -/
namespace Go.Proofs.YtomgnpfpaodpiaaDoor
open Go Go.RowKit Go.Shelf
set_option maxHeartbeats 3000000
set_option maxRecDepth 100000 in
theorem enough_any (f : Floor) (hv : validB f = true) (k p u : Nat) (s : SSlip) (hs : f.slips[k]? = some s) (hp : p ≤ 5) (hu : u ≤ 100000) (bF bN bP : Nat) (w : World)
    (hF : CellsBox w bF 28 f.cells) (hN : CellsBox w bN 3 [vi k]) (hP : CellsBox w bP 3 [vi p]) (h : FloorAt w w.heap.size f) :
    Calls Tryd.prog 79 #[vi u, .pointer (some ⟨bF, 0, none⟩), .pointer (some ⟨bN, 0, none⟩), .pointer (some ⟨bP, 0, none⟩)] w fun e w' => e = .returned (.bool (enoughF f k p u)) ∧ Below w.heap.size w w' := by
  have h9 := (fine hv).slips9
  have HF := Lib.hid h
  have HV := Lib.hid hv
  have HPB := Lib.hid hP
  have a0 := hF.cell (j := 0) rfl
  have a1 := hF.cell (j := 1) rfl
  have a2 := hF.cell (j := 2) rfl
  have a3 := hF.cell (j := 3) rfl
  have a4 := hF.cell (j := 4) rfl
  have a5 := hF.cell (j := 5) rfl
  have za := hF.lt
  have n0 := hN.cell (j := 0) rfl
  have zn := hN.lt
  have zp := hP.lt
  have WA := Lib.hid (fun (W : World) hW => with_any f k s hs h9 u W hW)
  have H9 := Lib.hid h9
  obtain ⟨an, han⟩ : ∃ an, an = enoughF f k p u := ⟨_, rfl⟩
  rw [← han]
  have HAN := Lib.hid han
  clear h hv hs h9 han hF hN hP
  go_enter Tryd.func79, Tryd.ntmps79
  go_wp2_with fail
  refine (WA.out _ (HF.out.to (by (repeat (first | exact Below.refl _ _ | refine Below.setCell ?_ (by first | omega | (simp; omega) | (simp; done)) _ | refine Below.alloc ?_ (by first | omega | (simp; omega) | (simp; done)) _ | refine Below.drew ?_ | refine below_drewN ?_ _ | refine Below.trans ?_ (Below.mono (by assumption) (by first | omega | (simp; omega) | (simp; done)))))))).mono ?_
  rintro e W0 ⟨g, c, rfl, hFW, hb⟩
  have HB0 : Below w.heap.size w W0 := by (repeat (first | exact Below.refl _ _ | refine Below.setCell ?_ (by first | omega | (simp; omega) | (simp; done)) _ | refine Below.alloc ?_ (by first | omega | (simp; omega) | (simp; done)) _ | refine Below.drew ?_ | refine below_drewN ?_ _ | refine Below.trans ?_ (Below.mono (by assumption) (by first | omega | (simp; omega) | (simp; done)))))
  have HFW := Lib.hid hFW
  have hvw : validB (withF f (some ⟨g, 0, none⟩) c k u) = true := valid_till HV.out _ _ _ (by omega) (by omega)
  have HVW := Lib.hid hvw
  obtain ⟨f2, hf2⟩ : ∃ f2, f2 = withF f (some ⟨g, 0, none⟩) c k u := ⟨_, rfl⟩
  rw [← hf2] at HFW HVW hvw ⊢
  have HF2 := Lib.hid hf2
  clear hb hFW hf2 a0 a1 a2 a3 a4 a5 n0
  go_wp2_with fail
  refine (desk_any f2 hvw _ HFW.out).mono ?_
  rintro e W1 ⟨oA, qA, qC, bm, rfl, hD, hbm, hb⟩
  have hz0 := HB0.size
  have hz1 := hb.size
  have HB1 : Below w.heap.size w W1 := HB0.trans (hb.mono HB0.size)
  have HD := Lib.hid (hD.into (HFW.out.to hb))
  have hMt := (Array.getElem?_eq_some_iff.1 hD.map).1
  have HM := Lib.hid (CrewMap.new hD.map)
  clear hb hD
  go_wp2_with fail
  obtain ⟨V, hV⟩ : ∃ V, V = W1.alloc (.cells #[.slice f2.fA f2.far.length f2.fC, vi f2.slo, vi f2.shi, .slice f2.pA f2.picks.length f2.pC, vi f2.carry, .slice f2.sA f2.slips.length f2.sC, .slice oA f2.slips.length f2.slips.length, .slice qA f2.slips.length qC, .map (some bm)] 108) := ⟨_, rfl⟩
  have hbV : Below W1.heap.size W1 V := by rw [hV]; (repeat (first | exact Below.refl _ _ | refine Below.setCell ?_ (by first | omega | (simp; omega) | (simp; done)) _ | refine Below.alloc ?_ (by first | omega | (simp; omega) | (simp; done)) _ | refine Below.drew ?_ | refine below_drewN ?_ _ | refine Below.trans ?_ (Below.mono (by assumption) (by first | omega | (simp; omega) | (simp; done)))))
  have HX : Hid (CellsBox V W1.heap.size 108 (deskC f2 oA f2.slips.length qA f2.slips.length qC bm)) := by unfold Hid; rw [hV]; exact CellsBox.new W1 _ _
  rw [← hV]
  clear hV
  have HBV := HB1.trans (hbV.mono HB1.size)
  have HDV := Lib.hid (HD.out.cs (cs_of_below hbV))
  have HMV := Lib.hid (HM.out.below hbV)
  have HPV : Hid (CellsBox V bP 3 [vi p]) := HPB.out.keep HBV
  have hlen : f2.slips.length = f.slips.length := by rw [HF2.out]; simp [withF]
  have hz2 := HBV.size
  have hm9 : allF f < 512 := allF_lt H9.out
  have AL := Lib.hid (fun X => all_any f2 (by rw [hlen]; exact H9.out) X)
  have E0 : (2 ^ f2.slips.length - 1 : Nat) = allF f := by rw [hlen]; rfl
  rw [E0] at AL
  have CAN := Lib.hid (fun X hX hY => can_any f2 HVW.out oA qA f2.slips.length qC bm p (allF f) hp hm9 X (fun _ _ => none) hX hY (Inv.empty f2 p))
  have EAN : Hid (canF f2 p (allF f) = an) := by unfold Hid; rw [HAN.out, HF2.out, can_at, enoughF]
  rw [EAN.out] at CAN
  obtain ⟨m, hm⟩ : ∃ m, m = allF f := ⟨_, rfl⟩
  rw [← hm] at AL CAN
  clear hbV HD HM E0 hm hm9 hlen hvw
  refine' wp_region_box (fun w' => CS V w') (fun a b h h' => h.trans (cs_of_below h')) [0, 1, 2, 3, 4, 5] 2 20 (by kernel_rfl) (by kernel_rfl) rfl (by kernel_rfl) (by kernel_rfl) rfl (by kernel_rfl) ?hl5 (CS.refl _) ?hq5 ?hr5
  case hl5 =>
    simp only [List.map_cons, List.map_nil, List.getD_cons_zero, List.getD_cons_succ]
    exact rfl
  case hq5 =>
    intro w0 K
    have Y := K.box HX.out
    have f0 := Y.cell (j := 0) rfl
    have f1 := Y.cell (j := 1) rfl
    have f2 := Y.cell (j := 2) rfl
    have f3 := Y.cell (j := 3) rfl
    have f4 := Y.cell (j := 4) rfl
    have f5 := Y.cell (j := 5) rfl
    have f6 := Y.cell (j := 6) rfl
    have f7 := Y.cell (j := 7) rfl
    have f8 := Y.cell (j := 8) rfl
    have zf := Y.lt
    have q0 := (K.box HPV.out).cell (j := 0) rfl
    have zq := (K.box HPV.out).lt
    (repeat (go_big_quiet_step ((go_at_call 71; refine Calls.grow_of (AL.out _)))))
    exact wpQuiet_nil rfl
  case hr5 =>
    refine wpUp_one (i := 6) (by kernel_rfl) rfl rfl (fun wa a1 a2 Ka hKa => ?_)
    go_simp
    refine (CAN.out wa (HDV.out.cs a2) (HMV.out.below a1)).mono ?_
    rintro e w3 ⟨rfl, μ, hP⟩
    have HP := Lib.hid hP
    clear hP
    refine hKa _ _ (a2.trans HP.out.cs) ?_
    refine wpUp_one (i := 7) (by kernel_rfl) rfl rfl (fun wc c1 c2 Kc hKc => ?_)
    go_simp
    refine hKc _ _ c2 (wpUp_done (by kernel_rfl) (fun W8 g1 g2 => NoPanic.normal ?_))
    have HBa : Below w.heap.size w wa := HBV.trans (a1.mono HBV.size)
    have HB3 : Below w.heap.size w w3 := below_spare HBa HP.out.spare (by omega)
    have HB8 : Below w.heap.size w W8 := HB3.trans ((gr_trans c1 g1).mono HB3.size)
    go_wp2_with fail
    go_ret
    exact ⟨rfl, HB8⟩
end Go.Proofs.YtomgnpfpaodpiaaDoor

/- Contract of Spare. -/
namespace Go.Proofs.YtomgnpfpaodpiaaDoor
open Go Go.RowKit Go.Shelf
set_option maxHeartbeats 3000000
structure IsSpare (f : Floor) (k p t r : Nat) : Prop where
  le : r ≤ t
  under : ∀ j : Nat, r = j + 1 → enoughF f k p j = false
  enough : r < t → enoughF f k p r = true
/-- what Spare answers -/
def SpareA (f : Floor) (n v c : Int) : Prop :=
  (checkSlipV f n ≠ 0 ∧ v = 0 ∧ c = checkSlipV f n) ∨ (checkSlipV f n = 0 ∧ fewF f = none ∧ v = 0 ∧ c = 4) ∨
    (checkSlipV f n = 0 ∧ c = 0 ∧ ∃ (k p t r : Nat) (s : SSlip), n = k ∧ f.slips[k]? = some s ∧ s.till = t ∧ fewF f = some p ∧ v = r ∧ IsSpare f k p t r)
set_option maxRecDepth 100000 in
theorem Spare_any (f : Floor) (n : Int) (w : World) (hl : Lim w) (h : FloorAt w w.heap.size f) :
    Calls Tryd.prog 33 #[f.val, vi n] w fun e w' => ∃ v c, e = .returned (.tuple #[vi v, vi c]) ∧ SpareA f n v c ∧ Below w.heap.size w w' := by
  have HL := Lib.hid hl
  have HF := Lib.hid h
  rcases check_cases f n with hc | ⟨hc, hv, k, s, rfl, hs⟩
  · obtain ⟨ec, hec⟩ : ∃ ec, checkSlipV f n = ec := ⟨_, rfl⟩
    have hne : ec ≠ 0 := by omega
    have hned : decide (ec = 0) = false := by simpa using hne
    have CH := Lib.hid (fun (W : World) hL hW => checkSlip_is hec W hL hW)
    have HA : Hid (SpareA f n 0 ec) := .inl ⟨by omega, rfl, hec.symm⟩
    clear h hl hc hec
    go_enter Tryd.func33, Tryd.ntmps33
    go_wp2_with fail
    refine (CH.out _ (HL.out.next (by (repeat (first | exact Below.refl _ _ | refine Below.setCell ?_ (by first | omega | (simp; omega) | (simp; done)) _ | refine Below.alloc ?_ (by first | omega | (simp; omega) | (simp; done)) _ | refine Below.drew ?_ | refine below_drewN ?_ _ | refine Below.trans ?_ (Below.mono (by assumption) (by first | omega | (simp; omega) | (simp; done))))))) (HF.out.to (by (repeat (first | exact Below.refl _ _ | refine Below.setCell ?_ (by first | omega | (simp; omega) | (simp; done)) _ | refine Below.alloc ?_ (by first | omega | (simp; omega) | (simp; done)) _ | refine Below.drew ?_ | refine below_drewN ?_ _ | refine Below.trans ?_ (Below.mono (by assumption) (by first | omega | (simp; omega) | (simp; done)))))))).mono ?_
    rintro e W ⟨rfl, hb⟩
    have HB0 : Below w.heap.size w W := by (repeat (first | exact Below.refl _ _ | refine Below.setCell ?_ (by first | omega | (simp; omega) | (simp; done)) _ | refine Below.alloc ?_ (by first | omega | (simp; omega) | (simp; done)) _ | refine Below.drew ?_ | refine below_drewN ?_ _ | refine Below.trans ?_ (Below.mono (by assumption) (by first | omega | (simp; omega) | (simp; done)))))
    clear hb
    go_wp2_with fail
    go_ret2
    exact ⟨0, ec, rfl, HA.out, HB0⟩
  · have CH := Lib.hid (fun (W : World) hL hW => checkSlip_is hc W hL hW)
    have hf := fine hv
    have HC := Lib.hid hc
    have HV := Lib.hid hv
    have H9 := Lib.hid hf.slips9
    have HS := Lib.hid hs
    have hk := (List.getElem?_eq_some_iff.1 hs).1
    have hkI : (k : Int) < f.slips.length := by omega
    have h0k : (0 : Int) ≤ k := by omega
    have htill := (hf.slips s (List.mem_of_getElem? hs)).1
    have htill2 := (hf.slips s (List.mem_of_getElem? hs)).2.1
    clear h hl hc hf hs
    go_enter Tryd.func33, Tryd.ntmps33
    go_wp2_with fail
    refine (CH.out _ (HL.out.next (by (repeat (first | exact Below.refl _ _ | refine Below.setCell ?_ (by first | omega | (simp; omega) | (simp; done)) _ | refine Below.alloc ?_ (by first | omega | (simp; omega) | (simp; done)) _ | refine Below.drew ?_ | refine below_drewN ?_ _ | refine Below.trans ?_ (Below.mono (by assumption) (by first | omega | (simp; omega) | (simp; done))))))) (HF.out.to (by (repeat (first | exact Below.refl _ _ | refine Below.setCell ?_ (by first | omega | (simp; omega) | (simp; done)) _ | refine Below.alloc ?_ (by first | omega | (simp; omega) | (simp; done)) _ | refine Below.drew ?_ | refine below_drewN ?_ _ | refine Below.trans ?_ (Below.mono (by assumption) (by first | omega | (simp; omega) | (simp; done)))))))).mono ?_
    rintro e W ⟨rfl, hb⟩
    have HB0 : Below w.heap.size w W := by (repeat (first | exact Below.refl _ _ | refine Below.setCell ?_ (by first | omega | (simp; omega) | (simp; done)) _ | refine Below.alloc ?_ (by first | omega | (simp; omega) | (simp; done)) _ | refine Below.drew ?_ | refine below_drewN ?_ _ | refine Below.trans ?_ (Below.mono (by assumption) (by first | omega | (simp; omega) | (simp; done)))))
    have XF : Hid (CellsBox W w.heap.size 28 f.cells) := ((CellsBox.new w 28 f.cells).alloc _).keep hb
    have XN0 := CellsBox.new (w.alloc (.cells f.cells.toArray 28)) 3 [vi k]
    rw [World.size_alloc] at XN0
    have XN : Hid (CellsBox W (w.heap.size + 1) 3 [vi k]) := XN0.keep hb
    have a0 := XF.out.cell (j := 0) rfl
    have a1 := XF.out.cell (j := 1) rfl
    have a2 := XF.out.cell (j := 2) rfl
    have a3 := XF.out.cell (j := 3) rfl
    have a4 := XF.out.cell (j := 4) rfl
    have a5 := XF.out.cell (j := 5) rfl
    have zW := XF.out.lt
    clear hb CH XN0
    go_wp2_with fail
    refine (desk_any f hv _ (HF.out.to HB0)).mono ?_
    rintro e W1 ⟨oA, qA, qC, bm, rfl, hD, hbm, hb⟩
    have HB1 : Below w.heap.size w W1 := HB0.trans (hb.mono HB0.size)
    have hz0 := HB0.size
    have hz1 := hb.size
    have HD := Lib.hid (hD.into (HF.out.to HB1))
    have hMt := (Array.getElem?_eq_some_iff.1 hD.map).1
    have HM := Lib.hid (CrewMap.new hD.map)
    have XF1 := Lib.hid (XF.out.keep hb)
    have XN1 := Lib.hid (XN.out.keep hb)
    clear hb hD a0 a1 a2 a3 a4 a5 XF XN
    go_wp2_with fail
    refine (fewest_any f hv oA qA f.slips.length qC bm W1 _ (HL.out.next HB1) HD.out HM.out (Inv.empty f 5)).mono ?_
    rintro e W2 ⟨rfl, μ, hP, -⟩
    have HB2 := below_spare HB1 hP.spare (by omega)
    have XF2 := Lib.hid (hP.cs.box XF1.out)
    have XN2 := Lib.hid (hP.cs.box XN1.out)
    have hz2 := hP.cs.size
    clear hP XF1 XN1 hv HD HM
    have a4 := XF2.out.cell (j := 5) rfl
    have n0 := XN2.out.cell (j := 0) rfl
    have zF := XF2.out.lt
    have zN := XN2.out.lt
    cases hfew : fewF f with
    | none =>
      have HA : Hid (SpareA f k 0 4) := .inr (.inl ⟨HC.out, hfew, rfl, rfl⟩)
      clear hfew
      go_wp2_with fail
      go_ret2
      refine ⟨0, 4, rfl, HA.out, ?_⟩
      (repeat (first | exact Below.refl _ _ | refine Below.setCell ?_ (by first | omega | (simp; omega) | (simp; done)) _ | refine Below.alloc ?_ (by first | omega | (simp; omega) | (simp; done)) _ | refine Below.drew ?_ | refine below_drewN ?_ _ | refine Below.trans ?_ (Below.mono (by assumption) (by first | omega | (simp; omega) | (simp; done)))))
    | some p =>
      obtain ⟨hp1, hp5, hcan⟩ := few_can hfew
      have HFEW := Lib.hid hfew
      clear hfew hcan
      obtain ⟨t, ht⟩ : ∃ t : Nat, s.till = t := ⟨s.till.toNat, by omega⟩
      have hsl := (HF.out.to HB2).slips
      obtain ⟨bs, os, hsA, hbs, s0, s1⟩ := row2 hsl.row HS.out rfl
      have hsln := hsl.lens
      rw [ht] at s1
      have zs := cell_lt s1
      obtain ⟨V, hV⟩ : ∃ V, V = W2.alloc (.cells #[vi p] 3) := ⟨_, rfl⟩
      clear hsl
      rw [hsA] at a4
      go_wp2_with fail
      rw [← hV]
      have hbV : Below w.heap.size w V := by rw [hV]; (repeat (first | exact Below.refl _ _ | refine Below.setCell ?_ (by first | omega | (simp; omega) | (simp; done)) _ | refine Below.alloc ?_ (by first | omega | (simp; omega) | (simp; done)) _ | refine Below.drew ?_ | refine below_drewN ?_ _ | refine Below.trans ?_ (Below.mono (by assumption) (by first | omega | (simp; omega) | (simp; done)))))
      have hb2V : Below W2.heap.size W2 V := by rw [hV]; (repeat (first | exact Below.refl _ _ | refine Below.setCell ?_ (by first | omega | (simp; omega) | (simp; done)) _ | refine Below.alloc ?_ (by first | omega | (simp; omega) | (simp; done)) _ | refine Below.drew ?_ | refine below_drewN ?_ _ | refine Below.trans ?_ (Below.mono (by assumption) (by first | omega | (simp; omega) | (simp; done)))))
      have XFV := Lib.hid (XF2.out.keep hb2V)
      have XNV := Lib.hid (XN2.out.keep hb2V)
      have XPV : Hid (CellsBox V W2.heap.size 3 [vi p]) := by unfold Hid; rw [hV]; exact CellsBox.new W2 _ _
      have HBV := Lib.hid hbV
      have HT := Lib.hid ht
      have ht2 : t ≤ 100000 := by omega
      clear hV hb2V a4 n0 s0 s1
      refine (search_any t ht2 (fun u => enoughF f k p u) w.heap.size (w.heap.size + 1) W2.heap.size V (fun i X hi hX => enough_any f HV.out k p i s HS.out hp5 (by omega) _ _ _ X (XFV.out.keep hX) (XNV.out.keep hX) (XPV.out.keep hX) (HF.out.to (HBV.out.trans (hX.mono HBV.out.size))))).mono ?_
      rintro e W3 ⟨r, rfl, r1, r2, r3, hb3⟩
      have HB3 : Below w.heap.size w W3 := hbV.trans (hb3.mono hbV.size)
      have HA : Hid (SpareA f k r 0) := .inr (.inr ⟨HC.out, rfl, k, p, t, r, s, rfl, HS.out, HT.out, HFEW.out, rfl, ⟨r1, r2, r3⟩⟩)
      clear r1 r2 r3 hb3
      go_wp2_with fail
      go_ret2
      exact ⟨r, 0, rfl, HA.out, HB3⟩
end Go.Proofs.YtomgnpfpaodpiaaDoor

/- Contract of Tours. -/
namespace Go.Proofs.YtomgnpfpaodpiaaDoor
open Go Go.RowKit Go.Shelf
set_option maxHeartbeats 2000000
attribute [local go_sem] Oper.semAt_some
/-- a list of lines in a block of its own -/
structure TourIn (W : World) (t : STour) : Prop where
  lines : SLinesAt W W.heap.size t.ad t.cap t.lines
  blk : ∀ b, t.ad = some b → ∃ cs, W.heap[b.block]? = some (.cells cs 64 (0, 0))
theorem TourIn.keep {w w' : World} {t : STour} (h : TourIn w t) (hs : w.heap.size ≤ w'.heap.size) (hk : ∀ (k : Nat) (cs : Array Value), w.heap[k]? = some (.cells cs 64 (0, 0)) → w'.heap[k]? = w.heap[k]?) : TourIn w' t := by
  obtain ⟨hl, hb⟩ := h
  refine ⟨⟨hl.len, hl.cap, hl.few, fun h0 => ?_⟩, fun b e => ?_⟩
  · obtain ⟨b, off, hA, hlt, hc⟩ := hl.row h0
    obtain ⟨cs, hcs⟩ := hb _ hA
    have e := hk _ cs hcs
    exact ⟨b, off, hA, by omega, fun i r hr j u hj hu => by
      have h9 := hc i r hr j u hj hu
      simp only [World.cell?] at h9 ⊢
      rw [e]
      exact h9⟩
  · obtain ⟨cs, hcs⟩ := hb b e
    exact ⟨cs, (hk _ cs hcs).trans hcs⟩
theorem TourIn.to {w w' : World} {t : STour} (h : TourIn w t) (hb : Below w.heap.size w w') : TourIn w' t := h.keep hb.size fun k cs hk => hb.block k (Array.getElem?_eq_some_iff.1 hk).1
abbrev lsT : TypeId := 50
abbrev llT : TypeId := 29
/-- the list of tours so far, in the box L -/
structure ListIn (W : World) (base L : Nat) (want : List (List SLine)) (v : Value) (ts : List STour) : Prop where
  box : Boxed W L llT v
  eq : ts.map STour.lines = want
  own : W.ownsRow base lsT 1 v ts.length (ts.map STour.slice)
  each : ∀ t ∈ ts, TourIn W t
theorem ListIn.to {w w' : World} {base L : Nat} {want : List (List SLine)} {v : Value} {ts : List STour} (h : ListIn w base L want v ts) (hb : Below w.heap.size w w') : ListIn w' base L want v ts :=
  ⟨boxed_below h.box hb, h.eq, own_keep h.own hb, fun t ht => (h.each t ht).to hb⟩
theorem ownE_list {β : Type} {base L B : Nat} (hL : L < B) (want : β → List (List SLine)) : OwnE 102 B (fun s W => ∃ v ts, ListIn W base L (want s) v ts) := by
  rintro s X Y row ⟨v, ts, h⟩ hg hr
  have ne : ∀ (k : Nat) (cs : Array Value) (t : TypeId), t ≠ 102 → X.heap[k]? = some (.cells cs t (0, 0)) → Y.heap[k]? = X.heap[k]? := fun k cs t ht hk =>
    hg.block k (Array.getElem?_eq_some_iff.1 hk).1 fun e => by
      obtain ⟨_, o, ho, h1 | ⟨c, z, h1⟩⟩ := hr k e.symm
      · rw [hk] at ho; cases ho; cases h1
      · rw [hk] at ho; cases ho; cases h1; exact ht rfl
  refine ⟨v, ts, (hg.block L h.box.lt fun e => by have := (hr L e.symm).1; omega).trans h.box, h.eq, h.own.kept hg ?_, fun t ht => (h.each t ht).keep hg.size fun k cs hk => ne k cs _ (by decide) hk⟩
  rcases h.own.2 with ⟨rfl, _⟩ | ⟨g, cap, cur, rfl, _, hh, _⟩
  · exact .inl rfl
  · right
    intro e
    have := (hr g e.symm).2
    obtain ⟨o, ho, h1 | ⟨c, z, h1⟩⟩ := this
    · rw [hh] at ho; cases ho; cases h1
    · rw [hh] at ho; cases ho; cases h1
def ToursV (f : Floor) (n : Int) : List (List SLine) := if checkSlipV f n = 0 then (match f.slips[n.toNat]? with | some s => (loadsOf f s).map linesOf | none => []) else []
theorem info_lines : (Tryd.prog.info? lsT).map (fun i => (i.zero, i.size, i.bytes)) = some (some (.slice none 0 0), 1, 24) := by kernel_rfl
end Go.Proofs.YtomgnpfpaodpiaaDoor

