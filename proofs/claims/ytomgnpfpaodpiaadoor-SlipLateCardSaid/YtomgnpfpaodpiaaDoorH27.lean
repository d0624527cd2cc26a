/- Contract of fewest. -/
import Derived.Test.YtomgnpfpaodpiaaDoorH26
import Derived.Test.YtomgnpfpaodpiaaDoorH06
import Derived.Deep.RegionHeld3
import Derived.Deep.AppendLies
set_option linter.unusedVariables false
set_option linter.unusedSimpArgs false
namespace Go.Proofs.YtomgnpfpaodpiaaDoor
open Go Go.RowKit Go.Shelf
set_option maxHeartbeats 2000000
theorem Lim.cs {a b : World} (h : Lim a) (hc : CS a b) : Lim b :=
  ⟨by have := hc.size; have := h.pos; omega, fun k hk => hc.cell (h.lo k hk), fun k hk => hc.cell (h.hi k hk)⟩
theorem Inv.widen {f : Floor} {p P : Nat} {μ μ' : Nat → Nat → Option Nat} (h : Inv f P μ) (h' : Inv f p μ') (hg : Grows p μ μ') (hp : p ≤ P) : Inv f P μ' := by
  refine ⟨fun m q s hq e => ?_, fun m q s hq e h1 h2 h3 => ?_⟩
  · by_cases hc : q ≤ p
    · exact h'.val m q s hc e
    · rw [hg.above m q (by omega)] at e
      exact h.val m q s hq e
  · by_cases hc : q ≤ p
    · exact h'.rest m q s hc e h1 h2 h3
    · rw [hg.above m q (by omega)] at e
      have := h.rest m q s hq e h1 h2 h3
      cases hr : μ (lessF m s) (q - 1) with
      | none => exact absurd hr this
      | some t => rw [hg.keep _ _ _ hr]; simp
/-- all slips of a floor -/
def allF (f : Floor) : Nat := 2 ^ f.slips.length - 1
theorem allF_lt {f : Floor} (h : f.slips.length ≤ 9) : allF f < 512 := by
  have : 2 ^ f.slips.length ≤ 2 ^ 9 := Nat.pow_le_pow_right (by omega) h
  unfold allF
  omega
/-- how many pickers at least have all in time -/
def fewF (f : Floor) : Option Nat := [1, 2, 3, 4, 5].find? fun p => canF f p (allF f)
theorem few_some {f : Floor} {k : Nat} (h1 : 1 ≤ k) (h5 : k ≤ 5) (hb : ∀ j, 1 ≤ j → j < k → canF f j (allF f) = false) (hk : canF f k (allF f) = true) : fewF f = some k := by
  unfold fewF
  obtain rfl | rfl | rfl | rfl | rfl : k = 1 ∨ k = 2 ∨ k = 3 ∨ k = 4 ∨ k = 5 := by omega
  · simp [List.find?_cons, hk]
  · simp [List.find?_cons, hk, hb 1 (by omega) (by omega)]
  · simp [List.find?_cons, hk, hb 1 (by omega) (by omega), hb 2 (by omega) (by omega)]
  · simp [List.find?_cons, hk, hb 1 (by omega) (by omega), hb 2 (by omega) (by omega), hb 3 (by omega) (by omega)]
  · simp [List.find?_cons, hk, hb 1 (by omega) (by omega), hb 2 (by omega) (by omega), hb 3 (by omega) (by omega), hb 4 (by omega) (by omega)]
theorem few_none {f : Floor} (hb : ∀ j, 1 ≤ j → j < 6 → canF f j (allF f) = false) : fewF f = none := by
  unfold fewF
  simp [List.find?_cons, hb 1 (by omega) (by omega), hb 2 (by omega) (by omega), hb 3 (by omega) (by omega), hb 4 (by omega) (by omega), hb 5 (by omega) (by omega)]
/-- what fewest leaves -/
structure FewPost (f : Floor) (bm : Nat) (μ' : Nat → Nat → Option Nat) (W W' : World) : Prop where
  map : CrewMap W' bm μ'
  inv : Inv f 5 μ'
  cs : CS W W'
  spare : Spare W.heap.size bm W W'
/-- what is so between rounds -/
structure FewI (f : Floor) (bm bd k : Nat) (dc : List Value) (μ' : Nat → Nat → Option Nat) (W X : World) : Prop extends FewPost f bm μ' W X where
  box : CellsBox X bd 108 dc
  none : ∀ j, 1 ≤ j → j < k → canF f j (allF f) = false
set_option maxRecDepth 100000 in
theorem fewest_any (f : Floor) (hv : validB f = true) (oA qA : Option Addr) (oC qC bm : Nat) (W : World) (μ : Nat → Nat → Option Nat) (hL : Lim W) (hD : DeskIn W f oA qA oC) (hM : CrewMap W bm μ) (hI : Inv f 5 μ) :
    Calls Tryd.prog 69 #[.agg (deskC f oA oC qA f.slips.length qC bm).toArray] W fun e W' => e = .returned (.tuple #[vi ((fewF f).getD 0 : Nat), .bool (fewF f).isSome]) ∧ ∃ μ', FewPost f bm μ' W W' ∧ ∀ p, fewF f = some p → allF f ≠ 0 → μ' (allF f) p ≠ none := by
  have h9 : f.slips.length ≤ 9 := (fine hv).slips9
  have HA := Lib.hid (allF_lt h9)
  have HV := Lib.hid hv
  have HD := Lib.hid hD
  have HL := Lib.hid hL
  have H9 := Lib.hid h9
  have zM := hM.lt
  have HW : Hid (FewI f bm W.heap.size 1 (deskC f oA oC qA f.slips.length qC bm) μ W (W.alloc (.cells (deskC f oA oC qA f.slips.length qC bm).toArray 108))) := by
    have hb : Below W.heap.size W (W.alloc (.cells (deskC f oA oC qA f.slips.length qC bm).toArray 108)) := by (repeat (first | exact Below.refl _ _ | refine Below.setCell ?_ (by first | omega | (simp; omega) | (simp; done)) _ | refine Below.alloc ?_ (by first | omega | (simp; omega) | (simp; done)) _ | refine Below.drew ?_ | refine below_drewN ?_ _ | refine Below.trans ?_ (Below.mono (by assumption) (by first | omega | (simp; omega) | (simp; done)))))
    exact ⟨⟨hM.below hb, hI, cs_of_below hb, spare_of_below bm hb (Nat.le_refl _)⟩, CellsBox.new _ _ _, fun j h1 h2 => by omega⟩
  have l0 := (hL.row 9 (by omega) (a := 1) (b := 5) (by decide) (by decide)).1
  have l1 := (hL.row 9 (by omega) (a := 1) (b := 5) (by decide) (by decide)).2
  have zL := hL.pos
  clear hv hD hL h9 hM hI
  show Calls Tryd.prog 69 #[.agg #[.slice f.fA f.far.length f.fC, vi f.slo, vi f.shi, .slice f.pA f.picks.length f.pC, vi f.carry, .slice f.sA f.slips.length f.sC, .slice oA f.slips.length oC, .slice qA f.slips.length qC, .map (some bm)]] W _
  go_enter Tryd.func69, Tryd.ntmps69
  go_wp2_with fail
  go_loopw [4] (fun v wr => ∃ (k : Nat) (μ' : Nat → Nat → Option Nat), 1 ≤ k ∧ k ≤ 6 ∧ v = vi k ∧ FewI f bm W.heap.size k (deskC f oA oC qA f.slips.length qC bm) μ' W wr) (fun v _ => 6 - (intOf v).toNat)
  case atStart => exact ⟨1, μ, by omega, by omega, rfl, HW.out⟩
  obtain ⟨k, μ1, h1, h6, rfl, hF⟩ := hrel
  have HF := Lib.hid hF
  have HCS : Hid (CS W wr) := hF.cs
  have l0 := HCS.out.cell l0
  have l1 := HCS.out.cell l1
  have zL : 0 < wr.heap.size := (HL.out.cs HCS.out).pos
  have a0 := hF.box.cell (j := 0) rfl
  have a1 := hF.box.cell (j := 1) rfl
  have a2 := hF.box.cell (j := 2) rfl
  have a3 := hF.box.cell (j := 3) rfl
  have a4 := hF.box.cell (j := 4) rfl
  have a5 := hF.box.cell (j := 5) rfl
  have a6 := hF.box.cell (j := 6) rfl
  have a7 := hF.box.cell (j := 7) rfl
  have a8 := hF.box.cell (j := 8) rfl
  have z1 := hF.box.lt
  clear hF
  by_cases hk : k ≤ 5
  · have hkI : (k : Int) ≤ 5 := by omega
    have hwr : IntKind.wrap .i64 ((k : Int) + 1) = (k : Int) + 1 := wrapI (by omega) (by omega)
    have BX : Hid (CellsBox wr W.heap.size 108 (deskC f oA oC qA f.slips.length qC bm)) := HF.out.box
    have AL := Lib.hid (fun X => all_any f H9.out X)
    have HDR := Lib.hid (HD.out.cs HCS.out)
    have CAN := Lib.hid (fun X hX hY hZ => can_any f HV.out oA qA oC qC bm k (allF f) hk HA.out X μ1 hX hY hZ)
    obtain ⟨cb, hcb⟩ : ∃ cb, cb = canF f k (allF f) := ⟨_, rfl⟩
    have HCB := Lib.hid hcb
    have E0 : (2 ^ f.slips.length - 1 : Nat) = allF f := rfl
    rw [E0] at AL
    rw [← hcb] at CAN
    obtain ⟨m, hm⟩ : ∃ m, m = allF f := ⟨_, rfl⟩
    have HMM := Lib.hid hm
    rw [← hm] at CAN AL
    clear hcb hm E0
    go_wp2_with fail
    refine' wp_region_box (fun w' => CS wr w') (fun a b h h' => h.trans (cs_of_below h')) [0, 1, 2, 3, 4, 5] 1 23 (by kernel_rfl) (by kernel_rfl) rfl (by kernel_rfl) (by kernel_rfl) rfl (by kernel_rfl) ?hl5 (CS.refl _) ?hq5 ?hr5
    case hl5 =>
      simp only [List.map_cons, List.map_nil, List.getD_cons_zero, List.getD_cons_succ]
      exact rfl
    case hq5 =>
      intro w0 K
      have Y := K.box BX.out
      have f0 := Y.cell (j := 0) rfl
      have f1 := Y.cell (j := 1) rfl
      have f2 := Y.cell (j := 2) rfl
      have f3 := Y.cell (j := 3) rfl
      have f4 := Y.cell (j := 4) rfl
      have f5 := Y.cell (j := 5) rfl
      have f6 := Y.cell (j := 6) rfl
      have f7 := Y.cell (j := 7) rfl
      have f8 := Y.cell (j := 8) rfl
      have zf := Y.lt
      (repeat (go_big_quiet_step ((go_at_call 71; refine Calls.grow_of (AL.out _)))))
      exact wpQuiet_nil rfl
    case hr5 =>
      refine wpUp_one (i := 6) (by kernel_rfl) rfl rfl (fun wa a1 a2 Ka hKa => ?_)
      go_simp
      refine (CAN.out wa (HDR.out.cs a2) (HF.out.map.below a1) (HF.out.inv.less hk)).mono ?_
      rintro e w2 ⟨rfl, μ2, hP⟩
      have HP := Lib.hid hP
      clear hP
      refine hKa _ _ (a2.trans HP.out.cs) (wpUp_done (by kernel_rfl) (fun W8 g1 g2 => NoPanic.normal ?_))
      have H8 : Hid (FewPost f bm μ2 W W8) := by
        have hsa := spare_of_below bm a1 (Nat.le_refl _)
        have hz0 := HCS.out.size
        have hz1 := a1.size
        have hz2 := HP.out.cs.size
        refine ⟨HP.out.map.below g1, HF.out.inv.widen HP.out.inv HP.out.grows hk, (HCS.out.trans a2).trans (HP.out.cs.trans (cs_of_below g1)), ?_⟩
        have s1 : Spare W.heap.size bm wr wa := spare_of_below bm a1 hz0
        have s2 : Spare W.heap.size bm wa w2 := ⟨HP.out.cs.os, HP.out.cs.tape, HP.out.cs.output, HP.out.cs.size, fun k hk hl => HP.out.spare.block k (by omega) hl⟩
        have s3 : Spare W.heap.size bm w2 W8 := spare_of_below bm g1 (by omega)
        exact HF.out.spare.trans (s1.trans (s2.trans s3))
      have HB8 : Hid (CellsBox W8 W.heap.size 108 (deskC f oA oC qA f.slips.length qC bm)) := (a2.trans (HP.out.cs.trans (cs_of_below g1))).box BX.out
      rcases cb with _ | _
      · go_wp2_with fail
        go_roundw
        case rel =>
          refine ⟨k + 1, μ2, by omega, by omega, by go_num, H8.out, HB8.out, fun j h1 h2 => ?_⟩
          by_cases e : j = k
          · subst e; exact HCB.out.symm
          · exact HF.out.none j h1 (by omega)
        case measure => simp [intOf]; omega
      · have hsome := few_some h1 hk HF.out.none HCB.out.symm
        go_wp2_with fail
        go_ret2
        rw [hsome]
        refine ⟨rfl, μ2, H8.out, fun p hp hne => ?_⟩
        cases hp
        have := HP.out.known (by rw [HMM.out]; exact hne) (by omega)
        rwa [HMM.out] at this
  · obtain rfl : k = 6 := by omega
    have HN := few_none HF.out.none
    go_wp2_with fail
    go_ret2
    rw [HN]
    exact ⟨rfl, μ1, HF.out.toFewPost, fun p h => by cases h⟩
end Go.Proofs.YtomgnpfpaodpiaaDoor

/- Contract of desk.sorted. -/
namespace Go.Proofs.YtomgnpfpaodpiaaDoor
open Go Go.RowKit
set_option maxHeartbeats 2000000
def sortedK (m : Nat) (l : List Nat) (k : Nat) : List Nat := (l.take k).filter (fun s => m.testBit s)
def sortedF (m : Nat) (l : List Nat) : List Nat := l.filter (fun s => m.testBit s)
theorem sortedK_succ {m : Nat} {l : List Nat} {k s : Nat} (h : l[k]? = some s) : sortedK m l (k + 1) = sortedK m l k ++ (if m.testBit s then [s] else []) := by
  obtain ⟨hk, rfl⟩ := List.getElem?_eq_some_iff.1 h
  unfold sortedK
  rw [List.take_succ_eq_append_getElem hk, List.filter_append]
  by_cases h : m.testBit l[k] <;> simp [h]
theorem sortedK_le (m : Nat) (l : List Nat) (k : Nat) : (sortedK m l k).length ≤ k := by
  have := List.length_filter_le (fun s => m.testBit s) (l.take k)
  rw [List.length_take] at this
  unfold sortedK
  omega
theorem sorted_any (f0 f1 f2 f3 f4 f5 : Value) (oA : Option Addr) (oC : Nat) (ol : List Nat) (qs mv : Value) (ho : ∀ s ∈ ol, s < 9) (hol : ol.length ≤ 9) (m : Nat) (hm : m < 512) (w : World) (h : IntsAt w w.heap.size oA oC (natsC ol)) (c0 : f0.oneCell' = true) (c1 : f1.oneCell' = true) (c2 : f2.oneCell' = true) (c3 : f3.oneCell' = true) (c4 : f4.oneCell' = true) (c5 : f5.oneCell' = true) (cq : qs.oneCell' = true) (cm : mv.oneCell' = true) :
    Calls Tryd.prog 104 #[.agg #[f0, f1, f2, f3, f4, f5, .slice oA ol.length oC, qs, mv], vi m] w fun e w' => ∃ A, e = .returned (.slice A (sortedF m ol).length (sortedF m ol).length) ∧ IntsAt w' w'.heap.size A (sortedF m ol).length (natsC (sortedF m ol)) ∧ (∀ b, A = some b → w.heap.size ≤ b.block) ∧ Below w.heap.size w w' := by
  have hll := h.lens
  simp only [List.length_map] at hll
  have HH := Lib.hid h
  obtain ⟨i0, hi, hy0, hy1, hy2⟩ := info_parts info_int
  have HX : Hid (∀ (k s : Nat), ol[k]? = some s → s < 9 ∧ ∃ b : Bool, m.testBit s = b ∧ sortedK m ol (k + 1) = sortedK m ol k ++ (if b then [s] else [])) := fun k s hs => ⟨ho s (List.mem_of_getElem? hs), _, rfl, sortedK_succ hs⟩
  have HL : Hid (∀ k, (sortedK m ol k).length ≤ k) := sortedK_le m ol
  have HA : Hid (sortedK m ol ol.length = sortedF m ol) := by unfold Hid sortedK sortedF; rw [List.take_length]
  have E0 : Hid (sortedK m ol 0 = []) := rfl
  obtain ⟨R, hR⟩ : ∃ R, R = sortedF m ol := ⟨_, rfl⟩
  obtain ⟨S, hS⟩ : ∃ S, S = sortedK m ol := ⟨_, rfl⟩
  rw [← hS] at HX HL HA E0
  rw [← hR] at HA ⊢
  clear hR hS h ho
  go_enter Tryd.func104, Tryd.ntmps104
  go_wp2_with fail
  go_loopw [5, 7, 11] (fun v x i wr => ∃ k : Nat, k ≤ ol.length ∧ i = .int .i64 k ∧ Below w.heap.size w wr ∧ wr.ownsRow w.heap.size 3 1 v (S k).length ((natsC (S k)).map vi)) (fun _ _ i _ => ol.length - (intOf i).toNat)
  case atStart => exact ⟨0, Nat.zero_le _, rfl, by (repeat (first | exact Below.refl _ _ | refine Below.setCell ?_ (by first | omega | (simp; omega) | (simp; done)) _ | refine Below.alloc ?_ (by first | omega | (simp; omega) | (simp; done)) _ | refine Below.drew ?_ | refine below_drewN ?_ _ | refine Below.trans ?_ (Below.mono (by assumption) (by first | omega | (simp; omega) | (simp; done))))), by rw [E0.out]; exact World.ownsRow_nil _ _ _ _⟩
  obtain ⟨k, hk, rfl, hB, hown⟩ := hrel
  have hlen := HL.out k
  have hz := hB.size
  by_cases hlt : k < ol.length
  · obtain ⟨s, hs⟩ : ∃ s, ol[k]? = some s := ⟨_, List.getElem?_eq_getElem hlt⟩
    obtain ⟨s9, b, hb, S1⟩ := HX.out k s hs
    obtain ⟨bb, off, rfl, hbb, x0⟩ := ints_at (HH.out.to hB) (k := k) (x := (s : Int)) (by rw [List.getElem?_map, hs]; rfl)
    have hkI : (k : Int) < ol.length := by omega
    have h0k : (0 : Int) ≤ k := by omega
    have HI := Lib.hid (setHas_is hb hm s9)
    have S1 := Lib.hid S1
    have zbb : bb < wr.heap.size := cell_lt x0
    obtain ⟨L, hL⟩ : ∃ L, L = S k := ⟨_, rfl⟩
    rw [← hL] at hown hlen S1
    clear hL hb hs
    obtain ⟨A', c', rfl, h1, h2⟩ := own_form hown
    go_wp2_with fail
    refine (HI.out _).mono ?_
    rintro e W2 ⟨rfl, hb2⟩
    have HB2 : Below w.heap.size w W2 := hB.trans (hb2.mono hz)
    have hown2 := own_keep hown hb2
    have hz2 := HB2.size
    clear hb2 hown x0
    rcases b with _ | _
    · go_wp2_with fail
      go_roundw
      case rel =>
        refine ⟨k + 1, by omega, by go_num, HB2, ?_⟩
        rw [S1.out]
        simpa using hown2
      case measure => simp [intOf]; omega
    · go_wp2_with (at_builtin; go_loud (refine wpList_append_own _ rfl _ _ 22 rfl w.heap.size 3 i0 (.int .i64 0) 1 8 Tryd.underlying22 hi hy0 hy1 hy2 rfl (by decide) _ _ _ rfl (hown2.alloc _) ⟨W2.heap.size, 0, none⟩ 1 1 [vi s] rfl rfl (cell_one_new _ _ _) (by simp [Value.oneCell']) (by unfold maxLen; omega) (by omega) (by simp; omega) ?_; intro v5 w5 hown5 hgrow5 _))
      have HB5 : Below w.heap.size w w5 := Below.grown (HB2.alloc (by omega) _) hgrow5 (by simp; omega) (fun j e => (hown2.lt j e).1)
      obtain ⟨A5, c5, rfl, -, -⟩ := own_form hown5
      go_roundw
      case rel =>
        refine ⟨k + 1, by omega, by go_num, HB5, ?_⟩
        rw [S1.out]
        simpa using hown5
      case measure => simp [intOf]; omega
  · obtain rfl : k = ol.length := by omega
    rw [HA.out] at hown hlen
    rw [← intC_flat] at hown
    obtain ⟨A', c', rfl, h1, h2, h3⟩ := own_rows (m := (natsC R).map intC) (intC_one _) hown (by simp) (by omega)
    go_wp2_with fail
    go_ret
    exact ⟨A', rfl, h3, fun b hb => (hown.lt b.block (by rw [hb]; rfl)).1, hB⟩
end Go.Proofs.YtomgnpfpaodpiaaDoor

/- Contract of roster. -/
namespace Go.Proofs.YtomgnpfpaodpiaaDoor
open Go Go.RowKit Go.Shelf
set_option maxHeartbeats 3000000
theorem info_ints : (Tryd.prog.info? 22).map (fun i => (i.zero, i.size, i.bytes)) = some (some (.slice none 0 0), 1, 24) := by kernel_rfl
/-- what one of so many is given -/
def oneF (f : Floor) (p m : Nat) : Nat := if m = 0 then 0 else shareF f p m
/-- the lists of a crew -/
def rosterF (f : Floor) : Nat → Nat → List (List Nat)
  | 0, _ => []
  | p + 1, m => sortedF (oneF f (p + 1) m) (ordN f) :: rosterF f p (lessF m (oneF f (p + 1) m))
theorem roster_len (f : Floor) : ∀ p m : Nat, (rosterF f p m).length = p
  | 0, _ => rfl
  | p + 1, m => by rw [rosterF, List.length_cons, roster_len f p]
/-- an int row that does not lie in a block -/
def FreeI (t : SRow) (g : Nat) : Prop := 0 < t.slips.length → ∀ b, t.ad = some b → b.block ≠ g
theorem ints_apart {w w' : World} {B cap g : Nat} {A : Option Addr} {l : List Int} (h : IntsAt w B A cap l) (ha : 0 < l.length → ∀ b, A = some b → b.block ≠ g) (hk : ∀ p : Addr, p.block < B → p.block ≠ g → w'.cell? p = w.cell? p) : IntsAt w' B A cap l := by
  refine ⟨h.len, h.cap, h.few, fun hl => ?_⟩
  obtain ⟨b, off, hA, hb, hc⟩ := h.row hl
  have hne := ha (by simpa using hl) _ hA
  exact ⟨b, off, hA, hb, fun i r hr j u hj hu => (hk ⟨b, off + i * 1 + j, none⟩ hb hne).trans (hc i r hr j u hj hu)⟩
theorem ints_more {w : World} {B B' cap : Nat} {A : Option Addr} {l : List Int} (h : IntsAt w B A cap l) (hB : B ≤ B') : IntsAt w B' A cap l := by
  refine ⟨h.len, h.cap, h.few, fun hl => ?_⟩
  obtain ⟨b, off, hA, hb, hc⟩ := h.row hl
  exact ⟨b, off, hA, Nat.lt_of_lt_of_le hb hB, hc⟩
/-- a crew that can have its slips in time, and that the map knows -/
structure Crew (f : Floor) (μ : Nat → Nat → Option Nat) (p m : Nat) : Prop where
  many : p ≤ 5
  lt : m < 512
  can : canF f p m = true
  known : m ≠ 0 → p ≠ 0 → μ m p ≠ none
theorem Crew.share {f : Floor} (h9 : f.slips.length ≤ 9) {μ : Nat → Nat → Option Nat} {p m : Nat} (h : Crew f μ (p + 1) m) (hI : Inv f 5 μ) : (μ m (p + 1)).getD 0 = oneF f (p + 1) m ∧ oneF f (p + 1) m < 512 := by
  have hs : oneF f (p + 1) m < 512 := by
    unfold oneF
    split
    · omega
    · unfold shareF
      cases hf : (givenF f m).find? fun x => canF f (p + 1 - 1) (lessF m x) with
      | none => simp
      | some x => exact given_lt f m (ordN f) 0 0 (by omega) (fun s hs => Nat.lt_of_lt_of_le (ordN_mem h9 s hs) h9) x (List.mem_of_find?_eq_some hf)
  refine ⟨?_, hs⟩
  by_cases h0 : m = 0
  · subst h0
    cases hk : μ 0 (p + 1) with
    | none => simp [oneF]
    | some s => exact absurd rfl (hI.val 0 (p + 1) s h.many hk).1
  · cases hk : μ m (p + 1) with
    | none => exact absurd hk (h.known h0 (by omega))
    | some s =>
      have := (hI.val m (p + 1) s h.many hk).2.2
      simp [oneF, h0, this]
theorem Crew.next {f : Floor} {μ : Nat → Nat → Option Nat} {p m : Nat} (h : Crew f μ (p + 1) m) (hI : Inv f 5 μ) : Crew f μ p (lessF m (oneF f (p + 1) m)) := by
  have hm := h.many
  refine ⟨by omega, less_lt h.lt _, ?_, ?_⟩
  · by_cases h0 : m = 0
    · subst h0
      have : lessF 0 (oneF f (p + 1) 0) = 0 := by simp [lessF]
      rw [this, can_zero]
    · have hc := h.can
      rw [can_share (by omega) h0, decide_eq_true_eq] at hc
      simp only [oneF, h0, if_false]
      unfold shareF at hc ⊢
      cases hf : (givenF f m).find? fun x => canF f (p + 1 - 1) (lessF m x) with
      | none => rw [hf] at hc; exact absurd rfl hc
      | some x =>
        have := List.find?_some (p := fun x => canF f (p + 1 - 1) (lessF m x)) hf
        exact this
  · intro h1 h2
    have h0 : m ≠ 0 := by
      rintro rfl
      exact h1 (by simp [lessF])
    have hc := h.can
    rw [can_share (by omega) h0, decide_eq_true_eq] at hc
    cases hk : μ m (p + 1) with
    | none => exact absurd hk (h.known h0 (by omega))
    | some s =>
      have hv := (hI.val m (p + 1) s h.many hk).2.2
      have := hI.rest m (p + 1) s h.many hk (by rw [hv]; exact hc) (by rw [hv]; simpa [oneF, h0] using h1) (by omega)
      rw [hv] at this
      simpa [oneF, h0] using this
end Go.Proofs.YtomgnpfpaodpiaaDoor

