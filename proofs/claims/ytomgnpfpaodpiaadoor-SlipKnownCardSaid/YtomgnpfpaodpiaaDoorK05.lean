/- Contract of floor.desk: what it is; its first region. -/
import Derived.Test.YtomgnpfpaodpiaaDoorK04
import Derived.Stop.RegionWithIn
import Derived.WalkSpells
set_option linter.unusedVariables false
set_option linter.unusedSimpArgs false
namespace Go.Proofs.YtomgnpfpaodpiaaDoor
open Go Go.RowKit
set_option maxHeartbeats 4000000
section
variable {P : Program} {Q : Exit → Act → World → Prop} {md : Region.Mode}
theorem wpUp_three {ops : Array Oper} {C : World → Prop} {n i j k : Nat} {o o' o'' : Oper} {listed : Array Bool} {a : Act} {w : World} (hr : Region.ready md ops listed = [i, j, k]) (ho : ops[i]? = some o) (hw : Region.wanted o (yielded ops a.tmps) = true) (ho' : ops[j]? = some o') (hw' : Region.wanted o' (yielded ops a.tmps) = true) (ho'' : ops[k]? = some o'') (hw'' : Region.wanted o'' (yielded ops a.tmps) = true)
    (h : ∀ w', Below w.heap.size w w' → C w' → ∀ K : Act → World → Prop, (∀ a1 w1, C w1 → wpUp P md ops Q C n (listed.setIfInBounds i true) a1 w1 → K a1 w1) → o.wp P a w' K Q)
    (h' : ∀ w', Below w.heap.size w w' → C w' → ∀ K : Act → World → Prop, (∀ a1 w1, C w1 → wpUp P md ops Q C n (listed.setIfInBounds j true) a1 w1 → K a1 w1) → o'.wp P a w' K Q)
    (h'' : ∀ w', Below w.heap.size w w' → C w' → ∀ K : Act → World → Prop, (∀ a1 w1, C w1 → wpUp P md ops Q C n (listed.setIfInBounds k true) a1 w1 → K a1 w1) → o''.wp P a w' K Q) :
    wpUp P md ops Q C (n + 1) listed a w := fun w' h1 h2 => by
  refine ⟨fun h0 => (by rw [hr] at h0; cases h0), fun l hl => ?_⟩
  rw [hr, List.mem_cons, List.mem_cons, List.mem_singleton] at hl
  unfold wpOp
  rcases hl with rfl | rfl | rfl
  · simp only [ho, hw, if_true]
    exact .inl (h w' h1 h2 _ fun a1 w1 h3 h4 => ⟨h3, h4⟩)
  · simp only [ho', hw', if_true]
    exact .inl (h' w' h1 h2 _ fun a1 w1 h3 h4 => ⟨h3, h4⟩)
  · simp only [ho'', hw'', if_true]
    exact .inl (h'' w' h1 h2 _ fun a1 w1 h3 h4 => ⟨h3, h4⟩)
end
theorem members_all : ∀ n : Fin 10, membersF (2 ^ n.val - 1) = List.range n.val := by decide +kernel
def orderF (f : Floor) : List Int := isortF (keyF f) (natsC (membersF (2 ^ f.slips.length - 1)))
/-- what a desk holds -/
structure DeskAt (w : World) (f : Floor) (oA qA : Option Addr) (qC bm : Nat) : Prop where
  ord : IntsAt w w.heap.size oA f.slips.length (orderF f)
  secs : IntsAt w w.heap.size qA f.slips.length (secsL f)
  map : w.heap[bm]? = some (.map #[] 0)
abbrev deskC (f : Floor) (oA : Option Addr) (oC : Nat) (qA : Option Addr) (qn qC : Nat) (bm : Nat) : List Value := f.cells ++ [.slice oA f.slips.length oC, .slice qA qn qC, .map (some bm)]
abbrev desk0 (f : Floor) (oA : Option Addr) (bm : Nat) : List Value := [.slice f.fA f.far.length f.fC, vi f.slo, vi f.shi, .slice f.pA f.picks.length f.pC, vi f.carry, .slice f.sA f.slips.length f.sC, .slice oA f.slips.length f.slips.length, .slice none 0 0, .map (some bm)]
def dfree (w : World) (A : Option Addr) (l : List Int) (lo : Nat) : Prop := ∀ b, A = some b → lo ≤ b.block ∧ b = ⟨b.block, 0, none⟩ ∧ ∃ cur, w.heap[b.block]? = some (.cells cur 3 (0, 0)) ∧ cur.toList.take l.length = l.map vi
theorem dfree_keep {w w' : World} {A : Option Addr} {l : List Int} {lo : Nat} (h : dfree w A l lo) (hb : Below w.heap.size w w') : dfree w' A l lo := fun b e => by
  obtain ⟨h1, h2, cur, h3, h4⟩ := h b e
  exact ⟨h1, h2, cur, (hb.block _ (Array.getElem?_eq_some_iff.1 h3).1).trans h3, h4⟩
theorem map_keep {w w' : World} {b : Nat} {es : Array MapEntry} {c : Nat} (h : w.heap[b]? = some (.map es c)) (hb : Below w.heap.size w w') : w'.heap[b]? = some (.map es c) := (hb.block _ (Array.getElem?_eq_some_iff.1 h).1).trans h
/-- the first region of desk: a list of all slips, a map, and the desk that holds them -/
structure Desk1 (V0 Z : World) (f : Floor) (ml : List Nat) (oA : Option Addr) (b3 bm : Nat) : Prop where
  below : Below V0.heap.size V0 Z
  ints : IntsAt Z Z.heap.size oA ml.length (natsC ml)
  free : dfree Z oA (natsC ml) V0.heap.size
  map : Z.heap[bm]? = some (.map #[] 0)
  newm : V0.heap.size ≤ bm
  newb : V0.heap.size ≤ b3
  box : CellsBox Z b3 108 (desk0 f oA bm)
theorem desk1_end {V0 w7 Z : World} {f : Floor} {ml : List Nat} {oA : Option Addr} {b3 bm lo : Nat} {cs0 : List Value} (h0 : CellsBox w7 b3 108 cs0) (hY : CellsBox (((((((((w7.setCell ⟨b3, 0, none⟩ (.slice f.fA f.far.length f.fC)).setCell ⟨b3, 1, none⟩ (vi f.slo)).setCell ⟨b3, 2, none⟩ (vi f.shi)).setCell ⟨b3, 3, none⟩ (.slice f.pA f.picks.length f.pC)).setCell ⟨b3, 4, none⟩ (vi f.carry)).setCell ⟨b3, 5, none⟩ (.slice f.sA f.slips.length f.sC)).setCell ⟨b3, 6, none⟩ (.slice oA f.slips.length f.slips.length)).setCell ⟨b3, 7, none⟩ (.slice none 0 0)).setCell ⟨b3, 8, none⟩ (.map (some bm))) b3 108 (desk0 f oA bm)) (hB : Below V0.heap.size V0 (((((((((w7.setCell ⟨b3, 0, none⟩ (.slice f.fA f.far.length f.fC)).setCell ⟨b3, 1, none⟩ (vi f.slo)).setCell ⟨b3, 2, none⟩ (vi f.shi)).setCell ⟨b3, 3, none⟩ (.slice f.pA f.picks.length f.pC)).setCell ⟨b3, 4, none⟩ (vi f.carry)).setCell ⟨b3, 5, none⟩ (.slice f.sA f.slips.length f.sC)).setCell ⟨b3, 6, none⟩ (.slice oA f.slips.length f.slips.length)).setCell ⟨b3, 7, none⟩ (.slice none 0 0)).setCell ⟨b3, 8, none⟩ (.map (some bm)))) (hI : IntsAt w7 w7.heap.size oA ml.length (natsC ml)) (hD : dfree w7 oA (natsC ml) lo) (hlo : V0.heap.size ≤ lo) (hM : w7.heap[bm]? = some (.map #[] 0)) (hm : V0.heap.size ≤ bm) (hb : V0.heap.size ≤ b3) (hZ : Below (((((((((w7.setCell ⟨b3, 0, none⟩ (.slice f.fA f.far.length f.fC)).setCell ⟨b3, 1, none⟩ (vi f.slo)).setCell ⟨b3, 2, none⟩ (vi f.shi)).setCell ⟨b3, 3, none⟩ (.slice f.pA f.picks.length f.pC)).setCell ⟨b3, 4, none⟩ (vi f.carry)).setCell ⟨b3, 5, none⟩ (.slice f.sA f.slips.length f.sC)).setCell ⟨b3, 6, none⟩ (.slice oA f.slips.length f.slips.length)).setCell ⟨b3, 7, none⟩ (.slice none 0 0)).setCell ⟨b3, 8, none⟩ (.map (some bm))).heap.size (((((((((w7.setCell ⟨b3, 0, none⟩ (.slice f.fA f.far.length f.fC)).setCell ⟨b3, 1, none⟩ (vi f.slo)).setCell ⟨b3, 2, none⟩ (vi f.shi)).setCell ⟨b3, 3, none⟩ (.slice f.pA f.picks.length f.pC)).setCell ⟨b3, 4, none⟩ (vi f.carry)).setCell ⟨b3, 5, none⟩ (.slice f.sA f.slips.length f.sC)).setCell ⟨b3, 6, none⟩ (.slice oA f.slips.length f.slips.length)).setCell ⟨b3, 7, none⟩ (.slice none 0 0)).setCell ⟨b3, 8, none⟩ (.map (some bm))) Z) : Desk1 V0 Z f ml oA b3 bm := by
  obtain ⟨C, hC⟩ : ∃ C, C = (((((((((w7.setCell ⟨b3, 0, none⟩ (.slice f.fA f.far.length f.fC)).setCell ⟨b3, 1, none⟩ (vi f.slo)).setCell ⟨b3, 2, none⟩ (vi f.shi)).setCell ⟨b3, 3, none⟩ (.slice f.pA f.picks.length f.pC)).setCell ⟨b3, 4, none⟩ (vi f.carry)).setCell ⟨b3, 5, none⟩ (.slice f.sA f.slips.length f.sC)).setCell ⟨b3, 6, none⟩ (.slice oA f.slips.length f.slips.length)).setCell ⟨b3, 7, none⟩ (.slice none 0 0)).setCell ⟨b3, 8, none⟩ (.map (some bm))) := ⟨_, rfl⟩
  have same : ∀ k, k ≠ b3 → C.heap[k]? = w7.heap[k]? := fun k hk => by
    rw [hC]
    rw [heap_setCell_other _ _ k _ hk, heap_setCell_other _ _ k _ hk, heap_setCell_other _ _ k _ hk, heap_setCell_other _ _ k _ hk, heap_setCell_other _ _ k _ hk, heap_setCell_other _ _ k _ hk, heap_setCell_other _ _ k _ hk, heap_setCell_other _ _ k _ hk, heap_setCell_other _ _ k _ hk]
  have hsz : C.heap.size = w7.heap.size := by rw [hC]; simp
  rw [← hC] at hY hB hZ
  clear hC
  unfold CellsBox at h0
  have hmne : bm ≠ b3 := by rintro rfl; rw [hM] at h0; cases h0
  have hMC : C.heap[bm]? = some (.map #[] 0) := (same bm hmne).trans hM
  have hDC : dfree C oA (natsC ml) lo := fun b e => by
    obtain ⟨h1, h2, cur, h3, h4⟩ := hD b e
    refine ⟨h1, h2, cur, (same _ ?_).trans h3, h4⟩
    rintro e3
    rw [e3, h0] at h3
    cases h3
  have hIC : IntsAt C C.heap.size oA ml.length (natsC ml) := by
    refine ⟨hI.len, hI.cap, hI.few, fun hl => ?_⟩
    obtain ⟨b, off, hA, hlt, hc⟩ := hI.row hl
    obtain ⟨_, _, cur, h3, _⟩ := hD _ hA
    refine ⟨b, off, hA, by omega, fun i r hr j u hj hu => ?_⟩
    have h9 := hc i r hr j u hj hu
    simp only [World.cell?] at h9 ⊢
    rw [same b (by rintro rfl; rw [h0] at h3; cases h3)]
    exact h9
  exact ⟨hB.trans (hZ.mono hB.size), hIC.to hZ, fun b e => by
    obtain ⟨h1, h2, h3⟩ := dfree_keep hDC hZ b e
    exact ⟨by omega, h2, h3⟩, map_keep hMC hZ, hm, hb, hY.keep hZ⟩
set_option maxRecDepth 100000 in
theorem desk_any (f : Floor) (hv : validB f = true) (w : World) (h : FloorAt w w.heap.size f) :
    Calls Tryd.prog 68 #[f.val] w fun e w' => ∃ oA qA qC bm, e = .returned (.agg (deskC f oA f.slips.length qA f.slips.length qC bm).toArray) ∧ DeskAt w' f oA qA qC bm ∧ w.heap.size ≤ bm ∧ Below w.heap.size w w' := by
  have hf := fine hv
  have h9 := hf.slips9
  have HF := Lib.hid h
  obtain ⟨m, hm⟩ : ∃ m : Nat, m = 2 ^ f.slips.length - 1 := ⟨_, rfl⟩
  have hm5 : m < 512 := by
    have : 2 ^ f.slips.length ≤ 2 ^ 9 := Nat.pow_le_pow_right (by omega) h9
    omega
  have AL := Lib.hid (fun (W : World) => all_is (f := f) (a := (m : Int)) (by rw [hm]) h9 W)
  have hmem : membersF m = List.range f.slips.length := by rw [hm]; exact members_all ⟨f.slips.length, by omega⟩
  have MEM := Lib.hid (fun (W : World) => members_any m hm5 W)
  obtain ⟨ml, hml⟩ : ∃ ml, ml = membersF m := ⟨_, rfl⟩
  have hmll : ml.length = f.slips.length := by rw [hml, hmem, List.length_range]
  rw [← hml] at MEM
  have HORD : Hid (orderF f = isortF (keyF f) (natsC ml)) := by unfold Hid orderF; rw [← hm, ← hml]
  have HMB : Hid (∀ x ∈ natsC ml, 0 ≤ x ∧ x < f.slips.length) := fun x hx => by
    obtain ⟨y, hy, rfl⟩ := List.mem_map.1 hx
    rw [hml, hmem] at hy
    have := List.mem_range.1 hy
    omega
  clear hm hmem h
  go_enter Tryd.func68, Tryd.ntmps68
  go_wp2_with fail
  obtain ⟨V0, hV0⟩ : ∃ V0, V0 = (w.alloc (.cells #[.slice f.fA f.far.length f.fC, vi f.slo, vi f.shi, .slice f.pA f.picks.length f.pC, vi f.carry, .slice f.sA f.slips.length f.sC] 89)).alloc (.cells #[.slice none 0 0, vi 0, vi 0, .slice none 0 0, vi 0, .slice none 0 0, .slice none 0 0, .slice none 0 0, .map none] 108) := ⟨_, rfl⟩
  have hb0 : Below w.heap.size w V0 := by rw [hV0]; (repeat (first | exact Below.refl _ _ | refine Below.setCell ?_ (by first | omega | (simp; omega) | (simp; done)) _ | refine Below.alloc ?_ (by first | omega | (simp; omega) | (simp; done)) _ | refine Below.drew ?_ | refine below_drewN ?_ _ | refine Below.trans ?_ (Below.mono (by assumption) (by first | omega | (simp; omega) | (simp; done)))))
  have XF : Hid (CellsBox V0 w.heap.size 89 f.cells) := by unfold Hid; rw [hV0]; exact (CellsBox.new w 89 f.cells).alloc _
  have XR : Hid (CellsBox V0 (w.heap.size + 1) 108 [.slice none 0 0, vi 0, vi 0, .slice none 0 0, vi 0, .slice none 0 0, .slice none 0 0, .slice none 0 0, .map none]) := by
    unfold Hid; rw [hV0]
    have := CellsBox.new (w.alloc (.cells #[.slice f.fA f.far.length f.fC, vi f.slo, vi f.shi, .slice f.pA f.picks.length f.pC, vi f.carry, .slice f.sA f.slips.length f.sC] 89)) 108 [.slice none 0 0, vi 0, vi 0, .slice none 0 0, vi 0, .slice none 0 0, .slice none 0 0, .slice none 0 0, .map none]
    simpa using this
  rw [← hV0]
  clear hV0
  have hmm : ∀ W : World, (Instr.makeMap 106 none).run Tryd.prog W = .ok (.map (some W.heap.size)) (W.alloc (.map #[] 0)) := fun W => by (show (_ : Result _) = _); kernel_rfl
  refine Code.wp_mono (Q := fun e a Z => e = .normal ∧ ∃ oA b3 bm, a = { tmps := #[f.val, .pointer (some ⟨w.heap.size, 0, none⟩), .pointer (some ⟨w.heap.size + 1, 0, none⟩), .pointer (some ⟨b3, 0, none⟩), undef, .agg #[.slice f.fA f.far.length f.fC, vi f.slo, vi f.shi, .slice f.pA f.picks.length f.pC, vi f.carry, .slice f.sA f.slips.length f.sC], .agg #[.slice f.fA f.far.length f.fC, vi f.slo, vi f.shi, .slice f.pA f.picks.length f.pC, vi f.carry, .slice f.sA f.slips.length f.sC], vi m, .slice oA f.slips.length f.slips.length, .map (some bm), .agg #[.slice f.fA f.far.length f.fC, vi f.slo, vi f.shi, .slice f.pA f.picks.length f.pC, vi f.carry, .slice f.sA f.slips.length f.sC, .slice oA f.slips.length f.slips.length, .slice none 0 0, .map (some bm)], undef, undef, undef, undef, undef, undef, undef, undef, undef, undef, undef, undef, undef, undef, undef, undef, undef, undef, undef, undef, undef, undef], defers := [] } ∧ Desk1 V0 Z f ml oA b3 bm) ?post ?reg
  case reg =>
    refine' wp_region_box (fun w' => CellsBox w' w.heap.size 89 f.cells) (fun a b h h' => h.keep h') [0, 1, 2] 5 33 (by kernel_rfl) (by kernel_rfl) rfl (by kernel_rfl) (by kernel_rfl) rfl (by kernel_rfl) ?hl5 XF.out ?hq5 ?hr5
    case hl5 =>
      simp only [List.map_cons, List.map_nil, List.getD_cons_zero, List.getD_cons_succ]
      exact rfl
    case hq5 =>
      intro w0 K
      have f0 := K.cell (j := 0) rfl
      have f1 := K.cell (j := 1) rfl
      have f2 := K.cell (j := 2) rfl
      have f3 := K.cell (j := 3) rfl
      have f4 := K.cell (j := 4) rfl
      have f5 := K.cell (j := 5) rfl
      have zf := K.lt
      (repeat (go_big_quiet_step ((go_at_call 71; refine Calls.grow_of (AL.out _)))))
      exact wpQuiet_nil rfl
    refine wpUp_three (i := 3) (j := 4) (k := 6) (by kernel_rfl) rfl rfl rfl rfl rfl rfl (fun wa a1 a2 Ka hKa => ?_) (fun wa a1 a2 Ka hKa => ?_) (fun wa a1 a2 Ka hKa => ?_)
    · go_simp
      refine (MEM.out _).mono ?_
      rintro e wla ⟨oA, rfl, hIA, hIb, hbla⟩
      rw [hmll]
      have HIA := Lib.hid hIA
      have HIB : Hid (dfree wla oA (natsC ml) wa.heap.size) := fun b hb => by have := hIb b hb; rwa [List.length_map]
      clear hIA hIb
      refine hKa _ _ (a2.keep hbla) ?_
      refine wpUp_two (i := 4) (j := 6) (by kernel_rfl) rfl rfl rfl rfl (fun wb b1 b2 Kb hKb => ?_) (fun wb b1 b2 Kb hKb => ?_)
      · go_simp
        have hbVb : Below wb.heap.size wb (wb.alloc (.map #[] 0)) := (Below.refl _ _).alloc (Nat.le_refl _) _
        have HM : Hid ((wb.alloc (.map #[] 0)).heap[wb.heap.size]? = some (.map #[] 0)) := World.alloc_heap_new _ _
        have HMs : Hid (V0.heap.size ≤ wb.heap.size) := (show Below V0.heap.size V0 wb from gr_trans (gr_trans (a1) hbla) b1).size
        obtain ⟨bm, hbm⟩ : ∃ bm, bm = wb.heap.size := ⟨_, rfl⟩
        rw [← hbm] at HM HMs
        try rw [← hbm]
        clear hbm
        refine hKb _ _ (b2.keep hbVb) ?_
        refine wpUp_two (i := 5) (j := 6) (by kernel_rfl) rfl rfl rfl rfl (fun wc c1 c2 Kc hKc => ?_) (fun wc c1 c2 Kc hKc => ?_)
        · go_simp
          refine hKc _ _ c2 ?_
          refine wpUp_one (i := 6) (by kernel_rfl) rfl rfl (fun wd d1 d2 Kd hKd => ?_)
          go_simp
          have hbAd : Below wd.heap.size wd (wd.alloc (.cells #[.slice none 0 0, vi 0, vi 0, .slice none 0 0, vi 0, .slice none 0 0, .slice none 0 0, .slice none 0 0, .map none] 108)) := (Below.refl _ _).alloc (Nat.le_refl _) _
          have HB3 := Lib.hid (CellsBox.new wd 108 [.slice none 0 0, vi 0, vi 0, .slice none 0 0, vi 0, .slice none 0 0, .slice none 0 0, .slice none 0 0, .map none])
          have HBs : Hid (V0.heap.size ≤ wd.heap.size) := (show Below V0.heap.size V0 wd from gr_trans (gr_trans (gr_trans (gr_trans (gr_trans (a1) hbla) b1) hbVb) c1) d1).size
          obtain ⟨b3, hb3⟩ : ∃ b3, b3 = wd.heap.size := ⟨_, rfl⟩
          rw [← hb3] at HB3 HBs
          try rw [← hb3]
          clear hb3
          refine hKd _ _ (d2.keep hbAd) ?_
          refine wpUp_one (i := 7) (by kernel_rfl) rfl rfl (fun we e1 e2 Ke hKe => ?_)
          have Y := HB3.out.keep (e1)
          have ce0 := Y.cell (j := 0) rfl
          have ce1 := Y.cell (j := 1) rfl
          have ce2 := Y.cell (j := 2) rfl
          have ce3 := Y.cell (j := 3) rfl
          have ce4 := Y.cell (j := 4) rfl
          have ce5 := Y.cell (j := 5) rfl
          have ce6 := Y.cell (j := 6) rfl
          have ce7 := Y.cell (j := 7) rfl
          have ce8 := Y.cell (j := 8) rfl
          have ze0 := Y.frozen 0
          have ze1 := Y.frozen 1
          have ze2 := Y.frozen 2
          have ze3 := Y.frozen 3
          have ze4 := Y.frozen 4
          have ze5 := Y.frozen 5
          have ze6 := Y.frozen 6
          have ze7 := Y.frozen 7
          have ze8 := Y.frozen 8
          have Y9 := (((((((((Y.store 0 (.slice f.fA f.far.length f.fC)).store 1 (vi f.slo)).store 2 (vi f.shi)).store 3 (.slice f.pA f.picks.length f.pC)).store 4 (vi f.carry)).store 5 (.slice f.sA f.slips.length f.sC)).store 6 (.slice oA f.slips.length f.slips.length)).store 7 (.slice none 0 0)).store 8 (.map (some bm)))
          have B9 : Below V0.heap.size V0 _ := ((((((((((show Below V0.heap.size V0 we from gr_trans (gr_trans (gr_trans (gr_trans (gr_trans (gr_trans (gr_trans (a1) hbla) b1) hbVb) c1) d1) hbAd) e1).setCell (p := ⟨b3, 0, none⟩) HBs.out (.slice f.fA f.far.length f.fC)).setCell (p := ⟨b3, 1, none⟩) HBs.out (vi f.slo)).setCell (p := ⟨b3, 2, none⟩) HBs.out (vi f.shi)).setCell (p := ⟨b3, 3, none⟩) HBs.out (.slice f.pA f.picks.length f.pC)).setCell (p := ⟨b3, 4, none⟩) HBs.out (vi f.carry)).setCell (p := ⟨b3, 5, none⟩) HBs.out (.slice f.sA f.slips.length f.sC)).setCell (p := ⟨b3, 6, none⟩) HBs.out (.slice oA f.slips.length f.slips.length)).setCell (p := ⟨b3, 7, none⟩) HBs.out (.slice none 0 0)).setCell (p := ⟨b3, 8, none⟩) HBs.out (.map (some bm)))
          have F9 := (((((((((e2.apart ⟨b3, 0, none⟩ (.slice f.fA f.far.length f.fC) (by have := HBs.out; have := XF.out.lt; simp only; omega)).apart ⟨b3, 1, none⟩ (vi f.slo) (by have := HBs.out; have := XF.out.lt; simp only; omega)).apart ⟨b3, 2, none⟩ (vi f.shi) (by have := HBs.out; have := XF.out.lt; simp only; omega)).apart ⟨b3, 3, none⟩ (.slice f.pA f.picks.length f.pC) (by have := HBs.out; have := XF.out.lt; simp only; omega)).apart ⟨b3, 4, none⟩ (vi f.carry) (by have := HBs.out; have := XF.out.lt; simp only; omega)).apart ⟨b3, 5, none⟩ (.slice f.sA f.slips.length f.sC) (by have := HBs.out; have := XF.out.lt; simp only; omega)).apart ⟨b3, 6, none⟩ (.slice oA f.slips.length f.slips.length) (by have := HBs.out; have := XF.out.lt; simp only; omega)).apart ⟨b3, 7, none⟩ (.slice none 0 0) (by have := HBs.out; have := XF.out.lt; simp only; omega)).apart ⟨b3, 8, none⟩ (.map (some bm)) (by have := HBs.out; have := XF.out.lt; simp only; omega))
          have I9 := (HIA.out.to (gr_trans (gr_trans (gr_trans (gr_trans (gr_trans (b1) hbVb) c1) d1) hbAd) e1))
          have D9 := dfree_keep HIB.out (gr_trans (gr_trans (gr_trans (gr_trans (gr_trans (b1) hbVb) c1) d1) hbAd) e1)
          have M9 := map_keep HM.out (gr_trans (gr_trans (gr_trans (c1) d1) hbAd) e1)
          have HZ0 := Lib.hid Y
          have HY9 := Lib.hid Y9
          have HB9 := Lib.hid B9
          have HF9 := Lib.hid F9
          have HI9 := Lib.hid I9
          have HD9 := Lib.hid D9
          have HM9 := Lib.hid M9
          clear Y Y9 B9 F9 I9 D9 M9
          go_simp
          refine hKe _ _ HF9.out (wpUp_done (by kernel_rfl) (fun W8 g1 g2 => NoPanic.normal ?_))
          refine ⟨rfl, oA, b3, bm, rfl, ?_⟩
          exact desk1_end HZ0.out (w7 := we) HY9.out HB9.out HI9.out HD9.out (show Below V0.heap.size V0 wa from a1).size HM9.out HMs.out HBs.out g1
        · go_simp
          have hbAc : Below wc.heap.size wc (wc.alloc (.cells #[.slice none 0 0, vi 0, vi 0, .slice none 0 0, vi 0, .slice none 0 0, .slice none 0 0, .slice none 0 0, .map none] 108)) := (Below.refl _ _).alloc (Nat.le_refl _) _
          have HB3 := Lib.hid (CellsBox.new wc 108 [.slice none 0 0, vi 0, vi 0, .slice none 0 0, vi 0, .slice none 0 0, .slice none 0 0, .slice none 0 0, .map none])
          have HBs : Hid (V0.heap.size ≤ wc.heap.size) := (show Below V0.heap.size V0 wc from gr_trans (gr_trans (gr_trans (gr_trans (a1) hbla) b1) hbVb) c1).size
          obtain ⟨b3, hb3⟩ : ∃ b3, b3 = wc.heap.size := ⟨_, rfl⟩
          rw [← hb3] at HB3 HBs
          try rw [← hb3]
          clear hb3
          refine hKc _ _ (c2.keep hbAc) ?_
          refine wpUp_one (i := 5) (by kernel_rfl) rfl rfl (fun wd d1 d2 Kd hKd => ?_)
          go_simp
          refine hKd _ _ d2 ?_
          refine wpUp_one (i := 7) (by kernel_rfl) rfl rfl (fun we e1 e2 Ke hKe => ?_)
          have Y := HB3.out.keep (gr_trans (d1) e1)
          have ce0 := Y.cell (j := 0) rfl
          have ce1 := Y.cell (j := 1) rfl
          have ce2 := Y.cell (j := 2) rfl
          have ce3 := Y.cell (j := 3) rfl
          have ce4 := Y.cell (j := 4) rfl
          have ce5 := Y.cell (j := 5) rfl
          have ce6 := Y.cell (j := 6) rfl
          have ce7 := Y.cell (j := 7) rfl
          have ce8 := Y.cell (j := 8) rfl
          have ze0 := Y.frozen 0
          have ze1 := Y.frozen 1
          have ze2 := Y.frozen 2
          have ze3 := Y.frozen 3
          have ze4 := Y.frozen 4
          have ze5 := Y.frozen 5
          have ze6 := Y.frozen 6
          have ze7 := Y.frozen 7
          have ze8 := Y.frozen 8
          have Y9 := (((((((((Y.store 0 (.slice f.fA f.far.length f.fC)).store 1 (vi f.slo)).store 2 (vi f.shi)).store 3 (.slice f.pA f.picks.length f.pC)).store 4 (vi f.carry)).store 5 (.slice f.sA f.slips.length f.sC)).store 6 (.slice oA f.slips.length f.slips.length)).store 7 (.slice none 0 0)).store 8 (.map (some bm)))
          have B9 : Below V0.heap.size V0 _ := ((((((((((show Below V0.heap.size V0 we from gr_trans (gr_trans (gr_trans (gr_trans (gr_trans (gr_trans (gr_trans (a1) hbla) b1) hbVb) c1) hbAc) d1) e1).setCell (p := ⟨b3, 0, none⟩) HBs.out (.slice f.fA f.far.length f.fC)).setCell (p := ⟨b3, 1, none⟩) HBs.out (vi f.slo)).setCell (p := ⟨b3, 2, none⟩) HBs.out (vi f.shi)).setCell (p := ⟨b3, 3, none⟩) HBs.out (.slice f.pA f.picks.length f.pC)).setCell (p := ⟨b3, 4, none⟩) HBs.out (vi f.carry)).setCell (p := ⟨b3, 5, none⟩) HBs.out (.slice f.sA f.slips.length f.sC)).setCell (p := ⟨b3, 6, none⟩) HBs.out (.slice oA f.slips.length f.slips.length)).setCell (p := ⟨b3, 7, none⟩) HBs.out (.slice none 0 0)).setCell (p := ⟨b3, 8, none⟩) HBs.out (.map (some bm)))
          have F9 := (((((((((e2.apart ⟨b3, 0, none⟩ (.slice f.fA f.far.length f.fC) (by have := HBs.out; have := XF.out.lt; simp only; omega)).apart ⟨b3, 1, none⟩ (vi f.slo) (by have := HBs.out; have := XF.out.lt; simp only; omega)).apart ⟨b3, 2, none⟩ (vi f.shi) (by have := HBs.out; have := XF.out.lt; simp only; omega)).apart ⟨b3, 3, none⟩ (.slice f.pA f.picks.length f.pC) (by have := HBs.out; have := XF.out.lt; simp only; omega)).apart ⟨b3, 4, none⟩ (vi f.carry) (by have := HBs.out; have := XF.out.lt; simp only; omega)).apart ⟨b3, 5, none⟩ (.slice f.sA f.slips.length f.sC) (by have := HBs.out; have := XF.out.lt; simp only; omega)).apart ⟨b3, 6, none⟩ (.slice oA f.slips.length f.slips.length) (by have := HBs.out; have := XF.out.lt; simp only; omega)).apart ⟨b3, 7, none⟩ (.slice none 0 0) (by have := HBs.out; have := XF.out.lt; simp only; omega)).apart ⟨b3, 8, none⟩ (.map (some bm)) (by have := HBs.out; have := XF.out.lt; simp only; omega))
          have I9 := (HIA.out.to (gr_trans (gr_trans (gr_trans (gr_trans (gr_trans (b1) hbVb) c1) hbAc) d1) e1))
          have D9 := dfree_keep HIB.out (gr_trans (gr_trans (gr_trans (gr_trans (gr_trans (b1) hbVb) c1) hbAc) d1) e1)
          have M9 := map_keep HM.out (gr_trans (gr_trans (gr_trans (c1) hbAc) d1) e1)
          have HZ0 := Lib.hid Y
          have HY9 := Lib.hid Y9
          have HB9 := Lib.hid B9
          have HF9 := Lib.hid F9
          have HI9 := Lib.hid I9
          have HD9 := Lib.hid D9
          have HM9 := Lib.hid M9
          clear Y Y9 B9 F9 I9 D9 M9
          go_simp
          refine hKe _ _ HF9.out (wpUp_done (by kernel_rfl) (fun W8 g1 g2 => NoPanic.normal ?_))
          refine ⟨rfl, oA, b3, bm, rfl, ?_⟩
          exact desk1_end HZ0.out (w7 := we) HY9.out HB9.out HI9.out HD9.out (show Below V0.heap.size V0 wa from a1).size HM9.out HMs.out HBs.out g1
      · go_simp
        have hbAb : Below wb.heap.size wb (wb.alloc (.cells #[.slice none 0 0, vi 0, vi 0, .slice none 0 0, vi 0, .slice none 0 0, .slice none 0 0, .slice none 0 0, .map none] 108)) := (Below.refl _ _).alloc (Nat.le_refl _) _
        have HB3 := Lib.hid (CellsBox.new wb 108 [.slice none 0 0, vi 0, vi 0, .slice none 0 0, vi 0, .slice none 0 0, .slice none 0 0, .slice none 0 0, .map none])
        have HBs : Hid (V0.heap.size ≤ wb.heap.size) := (show Below V0.heap.size V0 wb from gr_trans (gr_trans (a1) hbla) b1).size
        obtain ⟨b3, hb3⟩ : ∃ b3, b3 = wb.heap.size := ⟨_, rfl⟩
        rw [← hb3] at HB3 HBs
        try rw [← hb3]
        clear hb3
        refine hKb _ _ (b2.keep hbAb) ?_
        refine wpUp_one (i := 4) (by kernel_rfl) rfl rfl (fun wc c1 c2 Kc hKc => ?_)
        go_simp
        have hbVc : Below wc.heap.size wc (wc.alloc (.map #[] 0)) := (Below.refl _ _).alloc (Nat.le_refl _) _
        have HM : Hid ((wc.alloc (.map #[] 0)).heap[wc.heap.size]? = some (.map #[] 0)) := World.alloc_heap_new _ _
        have HMs : Hid (V0.heap.size ≤ wc.heap.size) := (show Below V0.heap.size V0 wc from gr_trans (gr_trans (gr_trans (gr_trans (a1) hbla) b1) hbAb) c1).size
        obtain ⟨bm, hbm⟩ : ∃ bm, bm = wc.heap.size := ⟨_, rfl⟩
        rw [← hbm] at HM HMs
        try rw [← hbm]
        clear hbm
        refine hKc _ _ (c2.keep hbVc) ?_
        refine wpUp_one (i := 5) (by kernel_rfl) rfl rfl (fun wd d1 d2 Kd hKd => ?_)
        go_simp
        refine hKd _ _ d2 ?_
        refine wpUp_one (i := 7) (by kernel_rfl) rfl rfl (fun we e1 e2 Ke hKe => ?_)
        have Y := HB3.out.keep (gr_trans (gr_trans (gr_trans (c1) hbVc) d1) e1)
        have ce0 := Y.cell (j := 0) rfl
        have ce1 := Y.cell (j := 1) rfl
        have ce2 := Y.cell (j := 2) rfl
        have ce3 := Y.cell (j := 3) rfl
        have ce4 := Y.cell (j := 4) rfl
        have ce5 := Y.cell (j := 5) rfl
        have ce6 := Y.cell (j := 6) rfl
        have ce7 := Y.cell (j := 7) rfl
        have ce8 := Y.cell (j := 8) rfl
        have ze0 := Y.frozen 0
        have ze1 := Y.frozen 1
        have ze2 := Y.frozen 2
        have ze3 := Y.frozen 3
        have ze4 := Y.frozen 4
        have ze5 := Y.frozen 5
        have ze6 := Y.frozen 6
        have ze7 := Y.frozen 7
        have ze8 := Y.frozen 8
        have Y9 := (((((((((Y.store 0 (.slice f.fA f.far.length f.fC)).store 1 (vi f.slo)).store 2 (vi f.shi)).store 3 (.slice f.pA f.picks.length f.pC)).store 4 (vi f.carry)).store 5 (.slice f.sA f.slips.length f.sC)).store 6 (.slice oA f.slips.length f.slips.length)).store 7 (.slice none 0 0)).store 8 (.map (some bm)))
        have B9 : Below V0.heap.size V0 _ := ((((((((((show Below V0.heap.size V0 we from gr_trans (gr_trans (gr_trans (gr_trans (gr_trans (gr_trans (gr_trans (a1) hbla) b1) hbAb) c1) hbVc) d1) e1).setCell (p := ⟨b3, 0, none⟩) HBs.out (.slice f.fA f.far.length f.fC)).setCell (p := ⟨b3, 1, none⟩) HBs.out (vi f.slo)).setCell (p := ⟨b3, 2, none⟩) HBs.out (vi f.shi)).setCell (p := ⟨b3, 3, none⟩) HBs.out (.slice f.pA f.picks.length f.pC)).setCell (p := ⟨b3, 4, none⟩) HBs.out (vi f.carry)).setCell (p := ⟨b3, 5, none⟩) HBs.out (.slice f.sA f.slips.length f.sC)).setCell (p := ⟨b3, 6, none⟩) HBs.out (.slice oA f.slips.length f.slips.length)).setCell (p := ⟨b3, 7, none⟩) HBs.out (.slice none 0 0)).setCell (p := ⟨b3, 8, none⟩) HBs.out (.map (some bm)))
        have F9 := (((((((((e2.apart ⟨b3, 0, none⟩ (.slice f.fA f.far.length f.fC) (by have := HBs.out; have := XF.out.lt; simp only; omega)).apart ⟨b3, 1, none⟩ (vi f.slo) (by have := HBs.out; have := XF.out.lt; simp only; omega)).apart ⟨b3, 2, none⟩ (vi f.shi) (by have := HBs.out; have := XF.out.lt; simp only; omega)).apart ⟨b3, 3, none⟩ (.slice f.pA f.picks.length f.pC) (by have := HBs.out; have := XF.out.lt; simp only; omega)).apart ⟨b3, 4, none⟩ (vi f.carry) (by have := HBs.out; have := XF.out.lt; simp only; omega)).apart ⟨b3, 5, none⟩ (.slice f.sA f.slips.length f.sC) (by have := HBs.out; have := XF.out.lt; simp only; omega)).apart ⟨b3, 6, none⟩ (.slice oA f.slips.length f.slips.length) (by have := HBs.out; have := XF.out.lt; simp only; omega)).apart ⟨b3, 7, none⟩ (.slice none 0 0) (by have := HBs.out; have := XF.out.lt; simp only; omega)).apart ⟨b3, 8, none⟩ (.map (some bm)) (by have := HBs.out; have := XF.out.lt; simp only; omega))
        have I9 := (HIA.out.to (gr_trans (gr_trans (gr_trans (gr_trans (gr_trans (b1) hbAb) c1) hbVc) d1) e1))
        have D9 := dfree_keep HIB.out (gr_trans (gr_trans (gr_trans (gr_trans (gr_trans (b1) hbAb) c1) hbVc) d1) e1)
        have M9 := map_keep HM.out (gr_trans (d1) e1)
        have HZ0 := Lib.hid Y
        have HY9 := Lib.hid Y9
        have HB9 := Lib.hid B9
        have HF9 := Lib.hid F9
        have HI9 := Lib.hid I9
        have HD9 := Lib.hid D9
        have HM9 := Lib.hid M9
        clear Y Y9 B9 F9 I9 D9 M9
        go_simp
        refine hKe _ _ HF9.out (wpUp_done (by kernel_rfl) (fun W8 g1 g2 => NoPanic.normal ?_))
        refine ⟨rfl, oA, b3, bm, rfl, ?_⟩
        exact desk1_end HZ0.out (w7 := we) HY9.out HB9.out HI9.out HD9.out (show Below V0.heap.size V0 wa from a1).size HM9.out HMs.out HBs.out g1
    · go_simp
      have hbVa : Below wa.heap.size wa (wa.alloc (.map #[] 0)) := (Below.refl _ _).alloc (Nat.le_refl _) _
      have HM : Hid ((wa.alloc (.map #[] 0)).heap[wa.heap.size]? = some (.map #[] 0)) := World.alloc_heap_new _ _
      have HMs : Hid (V0.heap.size ≤ wa.heap.size) := (show Below V0.heap.size V0 wa from a1).size
      obtain ⟨bm, hbm⟩ : ∃ bm, bm = wa.heap.size := ⟨_, rfl⟩
      rw [← hbm] at HM HMs
      try rw [← hbm]
      clear hbm
      refine hKa _ _ (a2.keep hbVa) ?_
      refine wpUp_two (i := 3) (j := 6) (by kernel_rfl) rfl rfl rfl rfl (fun wb b1 b2 Kb hKb => ?_) (fun wb b1 b2 Kb hKb => ?_)
      · go_simp
        refine (MEM.out _).mono ?_
        rintro e wlb ⟨oA, rfl, hIA, hIb, hblb⟩
        rw [hmll]
        have HIA := Lib.hid hIA
        have HIB : Hid (dfree wlb oA (natsC ml) wb.heap.size) := fun b hb => by have := hIb b hb; rwa [List.length_map]
        clear hIA hIb
        refine hKb _ _ (b2.keep hblb) ?_
        refine wpUp_two (i := 5) (j := 6) (by kernel_rfl) rfl rfl rfl rfl (fun wc c1 c2 Kc hKc => ?_) (fun wc c1 c2 Kc hKc => ?_)
        · go_simp
          refine hKc _ _ c2 ?_
          refine wpUp_one (i := 6) (by kernel_rfl) rfl rfl (fun wd d1 d2 Kd hKd => ?_)
          go_simp
          have hbAd : Below wd.heap.size wd (wd.alloc (.cells #[.slice none 0 0, vi 0, vi 0, .slice none 0 0, vi 0, .slice none 0 0, .slice none 0 0, .slice none 0 0, .map none] 108)) := (Below.refl _ _).alloc (Nat.le_refl _) _
          have HB3 := Lib.hid (CellsBox.new wd 108 [.slice none 0 0, vi 0, vi 0, .slice none 0 0, vi 0, .slice none 0 0, .slice none 0 0, .slice none 0 0, .map none])
          have HBs : Hid (V0.heap.size ≤ wd.heap.size) := (show Below V0.heap.size V0 wd from gr_trans (gr_trans (gr_trans (gr_trans (gr_trans (a1) hbVa) b1) hblb) c1) d1).size
          obtain ⟨b3, hb3⟩ : ∃ b3, b3 = wd.heap.size := ⟨_, rfl⟩
          rw [← hb3] at HB3 HBs
          try rw [← hb3]
          clear hb3
          refine hKd _ _ (d2.keep hbAd) ?_
          refine wpUp_one (i := 7) (by kernel_rfl) rfl rfl (fun we e1 e2 Ke hKe => ?_)
          have Y := HB3.out.keep (e1)
          have ce0 := Y.cell (j := 0) rfl
          have ce1 := Y.cell (j := 1) rfl
          have ce2 := Y.cell (j := 2) rfl
          have ce3 := Y.cell (j := 3) rfl
          have ce4 := Y.cell (j := 4) rfl
          have ce5 := Y.cell (j := 5) rfl
          have ce6 := Y.cell (j := 6) rfl
          have ce7 := Y.cell (j := 7) rfl
          have ce8 := Y.cell (j := 8) rfl
          have ze0 := Y.frozen 0
          have ze1 := Y.frozen 1
          have ze2 := Y.frozen 2
          have ze3 := Y.frozen 3
          have ze4 := Y.frozen 4
          have ze5 := Y.frozen 5
          have ze6 := Y.frozen 6
          have ze7 := Y.frozen 7
          have ze8 := Y.frozen 8
          have Y9 := (((((((((Y.store 0 (.slice f.fA f.far.length f.fC)).store 1 (vi f.slo)).store 2 (vi f.shi)).store 3 (.slice f.pA f.picks.length f.pC)).store 4 (vi f.carry)).store 5 (.slice f.sA f.slips.length f.sC)).store 6 (.slice oA f.slips.length f.slips.length)).store 7 (.slice none 0 0)).store 8 (.map (some bm)))
          have B9 : Below V0.heap.size V0 _ := ((((((((((show Below V0.heap.size V0 we from gr_trans (gr_trans (gr_trans (gr_trans (gr_trans (gr_trans (gr_trans (a1) hbVa) b1) hblb) c1) d1) hbAd) e1).setCell (p := ⟨b3, 0, none⟩) HBs.out (.slice f.fA f.far.length f.fC)).setCell (p := ⟨b3, 1, none⟩) HBs.out (vi f.slo)).setCell (p := ⟨b3, 2, none⟩) HBs.out (vi f.shi)).setCell (p := ⟨b3, 3, none⟩) HBs.out (.slice f.pA f.picks.length f.pC)).setCell (p := ⟨b3, 4, none⟩) HBs.out (vi f.carry)).setCell (p := ⟨b3, 5, none⟩) HBs.out (.slice f.sA f.slips.length f.sC)).setCell (p := ⟨b3, 6, none⟩) HBs.out (.slice oA f.slips.length f.slips.length)).setCell (p := ⟨b3, 7, none⟩) HBs.out (.slice none 0 0)).setCell (p := ⟨b3, 8, none⟩) HBs.out (.map (some bm)))
          have F9 := (((((((((e2.apart ⟨b3, 0, none⟩ (.slice f.fA f.far.length f.fC) (by have := HBs.out; have := XF.out.lt; simp only; omega)).apart ⟨b3, 1, none⟩ (vi f.slo) (by have := HBs.out; have := XF.out.lt; simp only; omega)).apart ⟨b3, 2, none⟩ (vi f.shi) (by have := HBs.out; have := XF.out.lt; simp only; omega)).apart ⟨b3, 3, none⟩ (.slice f.pA f.picks.length f.pC) (by have := HBs.out; have := XF.out.lt; simp only; omega)).apart ⟨b3, 4, none⟩ (vi f.carry) (by have := HBs.out; have := XF.out.lt; simp only; omega)).apart ⟨b3, 5, none⟩ (.slice f.sA f.slips.length f.sC) (by have := HBs.out; have := XF.out.lt; simp only; omega)).apart ⟨b3, 6, none⟩ (.slice oA f.slips.length f.slips.length) (by have := HBs.out; have := XF.out.lt; simp only; omega)).apart ⟨b3, 7, none⟩ (.slice none 0 0) (by have := HBs.out; have := XF.out.lt; simp only; omega)).apart ⟨b3, 8, none⟩ (.map (some bm)) (by have := HBs.out; have := XF.out.lt; simp only; omega))
          have I9 := (HIA.out.to (gr_trans (gr_trans (gr_trans (c1) d1) hbAd) e1))
          have D9 := dfree_keep HIB.out (gr_trans (gr_trans (gr_trans (c1) d1) hbAd) e1)
          have M9 := map_keep HM.out (gr_trans (gr_trans (gr_trans (gr_trans (gr_trans (b1) hblb) c1) d1) hbAd) e1)
          have HZ0 := Lib.hid Y
          have HY9 := Lib.hid Y9
          have HB9 := Lib.hid B9
          have HF9 := Lib.hid F9
          have HI9 := Lib.hid I9
          have HD9 := Lib.hid D9
          have HM9 := Lib.hid M9
          clear Y Y9 B9 F9 I9 D9 M9
          go_simp
          refine hKe _ _ HF9.out (wpUp_done (by kernel_rfl) (fun W8 g1 g2 => NoPanic.normal ?_))
          refine ⟨rfl, oA, b3, bm, rfl, ?_⟩
          exact desk1_end HZ0.out (w7 := we) HY9.out HB9.out HI9.out HD9.out (show Below V0.heap.size V0 wb from gr_trans (gr_trans (a1) hbVa) b1).size HM9.out HMs.out HBs.out g1
        · go_simp
          have hbAc : Below wc.heap.size wc (wc.alloc (.cells #[.slice none 0 0, vi 0, vi 0, .slice none 0 0, vi 0, .slice none 0 0, .slice none 0 0, .slice none 0 0, .map none] 108)) := (Below.refl _ _).alloc (Nat.le_refl _) _
          have HB3 := Lib.hid (CellsBox.new wc 108 [.slice none 0 0, vi 0, vi 0, .slice none 0 0, vi 0, .slice none 0 0, .slice none 0 0, .slice none 0 0, .map none])
          have HBs : Hid (V0.heap.size ≤ wc.heap.size) := (show Below V0.heap.size V0 wc from gr_trans (gr_trans (gr_trans (gr_trans (a1) hbVa) b1) hblb) c1).size
          obtain ⟨b3, hb3⟩ : ∃ b3, b3 = wc.heap.size := ⟨_, rfl⟩
          rw [← hb3] at HB3 HBs
          try rw [← hb3]
          clear hb3
          refine hKc _ _ (c2.keep hbAc) ?_
          refine wpUp_one (i := 5) (by kernel_rfl) rfl rfl (fun wd d1 d2 Kd hKd => ?_)
          go_simp
          refine hKd _ _ d2 ?_
          refine wpUp_one (i := 7) (by kernel_rfl) rfl rfl (fun we e1 e2 Ke hKe => ?_)
          have Y := HB3.out.keep (gr_trans (d1) e1)
          have ce0 := Y.cell (j := 0) rfl
          have ce1 := Y.cell (j := 1) rfl
          have ce2 := Y.cell (j := 2) rfl
          have ce3 := Y.cell (j := 3) rfl
          have ce4 := Y.cell (j := 4) rfl
          have ce5 := Y.cell (j := 5) rfl
          have ce6 := Y.cell (j := 6) rfl
          have ce7 := Y.cell (j := 7) rfl
          have ce8 := Y.cell (j := 8) rfl
          have ze0 := Y.frozen 0
          have ze1 := Y.frozen 1
          have ze2 := Y.frozen 2
          have ze3 := Y.frozen 3
          have ze4 := Y.frozen 4
          have ze5 := Y.frozen 5
          have ze6 := Y.frozen 6
          have ze7 := Y.frozen 7
          have ze8 := Y.frozen 8
          have Y9 := (((((((((Y.store 0 (.slice f.fA f.far.length f.fC)).store 1 (vi f.slo)).store 2 (vi f.shi)).store 3 (.slice f.pA f.picks.length f.pC)).store 4 (vi f.carry)).store 5 (.slice f.sA f.slips.length f.sC)).store 6 (.slice oA f.slips.length f.slips.length)).store 7 (.slice none 0 0)).store 8 (.map (some bm)))
          have B9 : Below V0.heap.size V0 _ := ((((((((((show Below V0.heap.size V0 we from gr_trans (gr_trans (gr_trans (gr_trans (gr_trans (gr_trans (gr_trans (a1) hbVa) b1) hblb) c1) hbAc) d1) e1).setCell (p := ⟨b3, 0, none⟩) HBs.out (.slice f.fA f.far.length f.fC)).setCell (p := ⟨b3, 1, none⟩) HBs.out (vi f.slo)).setCell (p := ⟨b3, 2, none⟩) HBs.out (vi f.shi)).setCell (p := ⟨b3, 3, none⟩) HBs.out (.slice f.pA f.picks.length f.pC)).setCell (p := ⟨b3, 4, none⟩) HBs.out (vi f.carry)).setCell (p := ⟨b3, 5, none⟩) HBs.out (.slice f.sA f.slips.length f.sC)).setCell (p := ⟨b3, 6, none⟩) HBs.out (.slice oA f.slips.length f.slips.length)).setCell (p := ⟨b3, 7, none⟩) HBs.out (.slice none 0 0)).setCell (p := ⟨b3, 8, none⟩) HBs.out (.map (some bm)))
          have F9 := (((((((((e2.apart ⟨b3, 0, none⟩ (.slice f.fA f.far.length f.fC) (by have := HBs.out; have := XF.out.lt; simp only; omega)).apart ⟨b3, 1, none⟩ (vi f.slo) (by have := HBs.out; have := XF.out.lt; simp only; omega)).apart ⟨b3, 2, none⟩ (vi f.shi) (by have := HBs.out; have := XF.out.lt; simp only; omega)).apart ⟨b3, 3, none⟩ (.slice f.pA f.picks.length f.pC) (by have := HBs.out; have := XF.out.lt; simp only; omega)).apart ⟨b3, 4, none⟩ (vi f.carry) (by have := HBs.out; have := XF.out.lt; simp only; omega)).apart ⟨b3, 5, none⟩ (.slice f.sA f.slips.length f.sC) (by have := HBs.out; have := XF.out.lt; simp only; omega)).apart ⟨b3, 6, none⟩ (.slice oA f.slips.length f.slips.length) (by have := HBs.out; have := XF.out.lt; simp only; omega)).apart ⟨b3, 7, none⟩ (.slice none 0 0) (by have := HBs.out; have := XF.out.lt; simp only; omega)).apart ⟨b3, 8, none⟩ (.map (some bm)) (by have := HBs.out; have := XF.out.lt; simp only; omega))
          have I9 := (HIA.out.to (gr_trans (gr_trans (gr_trans (c1) hbAc) d1) e1))
          have D9 := dfree_keep HIB.out (gr_trans (gr_trans (gr_trans (c1) hbAc) d1) e1)
          have M9 := map_keep HM.out (gr_trans (gr_trans (gr_trans (gr_trans (gr_trans (b1) hblb) c1) hbAc) d1) e1)
          have HZ0 := Lib.hid Y
          have HY9 := Lib.hid Y9
          have HB9 := Lib.hid B9
          have HF9 := Lib.hid F9
          have HI9 := Lib.hid I9
          have HD9 := Lib.hid D9
          have HM9 := Lib.hid M9
          clear Y Y9 B9 F9 I9 D9 M9
          go_simp
          refine hKe _ _ HF9.out (wpUp_done (by kernel_rfl) (fun W8 g1 g2 => NoPanic.normal ?_))
          refine ⟨rfl, oA, b3, bm, rfl, ?_⟩
          exact desk1_end HZ0.out (w7 := we) HY9.out HB9.out HI9.out HD9.out (show Below V0.heap.size V0 wb from gr_trans (gr_trans (a1) hbVa) b1).size HM9.out HMs.out HBs.out g1
      · go_simp
        have hbAb : Below wb.heap.size wb (wb.alloc (.cells #[.slice none 0 0, vi 0, vi 0, .slice none 0 0, vi 0, .slice none 0 0, .slice none 0 0, .slice none 0 0, .map none] 108)) := (Below.refl _ _).alloc (Nat.le_refl _) _
        have HB3 := Lib.hid (CellsBox.new wb 108 [.slice none 0 0, vi 0, vi 0, .slice none 0 0, vi 0, .slice none 0 0, .slice none 0 0, .slice none 0 0, .map none])
        have HBs : Hid (V0.heap.size ≤ wb.heap.size) := (show Below V0.heap.size V0 wb from gr_trans (gr_trans (a1) hbVa) b1).size
        obtain ⟨b3, hb3⟩ : ∃ b3, b3 = wb.heap.size := ⟨_, rfl⟩
        rw [← hb3] at HB3 HBs
        try rw [← hb3]
        clear hb3
        refine hKb _ _ (b2.keep hbAb) ?_
        refine wpUp_one (i := 3) (by kernel_rfl) rfl rfl (fun wc c1 c2 Kc hKc => ?_)
        go_simp
        refine (MEM.out _).mono ?_
        rintro e wlc ⟨oA, rfl, hIA, hIb, hblc⟩
        rw [hmll]
        have HIA := Lib.hid hIA
        have HIB : Hid (dfree wlc oA (natsC ml) wc.heap.size) := fun b hb => by have := hIb b hb; rwa [List.length_map]
        clear hIA hIb
        refine hKc _ _ (c2.keep hblc) ?_
        refine wpUp_one (i := 5) (by kernel_rfl) rfl rfl (fun wd d1 d2 Kd hKd => ?_)
        go_simp
        refine hKd _ _ d2 ?_
        refine wpUp_one (i := 7) (by kernel_rfl) rfl rfl (fun we e1 e2 Ke hKe => ?_)
        have Y := HB3.out.keep (gr_trans (gr_trans (gr_trans (c1) hblc) d1) e1)
        have ce0 := Y.cell (j := 0) rfl
        have ce1 := Y.cell (j := 1) rfl
        have ce2 := Y.cell (j := 2) rfl
        have ce3 := Y.cell (j := 3) rfl
        have ce4 := Y.cell (j := 4) rfl
        have ce5 := Y.cell (j := 5) rfl
        have ce6 := Y.cell (j := 6) rfl
        have ce7 := Y.cell (j := 7) rfl
        have ce8 := Y.cell (j := 8) rfl
        have ze0 := Y.frozen 0
        have ze1 := Y.frozen 1
        have ze2 := Y.frozen 2
        have ze3 := Y.frozen 3
        have ze4 := Y.frozen 4
        have ze5 := Y.frozen 5
        have ze6 := Y.frozen 6
        have ze7 := Y.frozen 7
        have ze8 := Y.frozen 8
        have Y9 := (((((((((Y.store 0 (.slice f.fA f.far.length f.fC)).store 1 (vi f.slo)).store 2 (vi f.shi)).store 3 (.slice f.pA f.picks.length f.pC)).store 4 (vi f.carry)).store 5 (.slice f.sA f.slips.length f.sC)).store 6 (.slice oA f.slips.length f.slips.length)).store 7 (.slice none 0 0)).store 8 (.map (some bm)))
        have B9 : Below V0.heap.size V0 _ := ((((((((((show Below V0.heap.size V0 we from gr_trans (gr_trans (gr_trans (gr_trans (gr_trans (gr_trans (gr_trans (a1) hbVa) b1) hbAb) c1) hblc) d1) e1).setCell (p := ⟨b3, 0, none⟩) HBs.out (.slice f.fA f.far.length f.fC)).setCell (p := ⟨b3, 1, none⟩) HBs.out (vi f.slo)).setCell (p := ⟨b3, 2, none⟩) HBs.out (vi f.shi)).setCell (p := ⟨b3, 3, none⟩) HBs.out (.slice f.pA f.picks.length f.pC)).setCell (p := ⟨b3, 4, none⟩) HBs.out (vi f.carry)).setCell (p := ⟨b3, 5, none⟩) HBs.out (.slice f.sA f.slips.length f.sC)).setCell (p := ⟨b3, 6, none⟩) HBs.out (.slice oA f.slips.length f.slips.length)).setCell (p := ⟨b3, 7, none⟩) HBs.out (.slice none 0 0)).setCell (p := ⟨b3, 8, none⟩) HBs.out (.map (some bm)))
        have F9 := (((((((((e2.apart ⟨b3, 0, none⟩ (.slice f.fA f.far.length f.fC) (by have := HBs.out; have := XF.out.lt; simp only; omega)).apart ⟨b3, 1, none⟩ (vi f.slo) (by have := HBs.out; have := XF.out.lt; simp only; omega)).apart ⟨b3, 2, none⟩ (vi f.shi) (by have := HBs.out; have := XF.out.lt; simp only; omega)).apart ⟨b3, 3, none⟩ (.slice f.pA f.picks.length f.pC) (by have := HBs.out; have := XF.out.lt; simp only; omega)).apart ⟨b3, 4, none⟩ (vi f.carry) (by have := HBs.out; have := XF.out.lt; simp only; omega)).apart ⟨b3, 5, none⟩ (.slice f.sA f.slips.length f.sC) (by have := HBs.out; have := XF.out.lt; simp only; omega)).apart ⟨b3, 6, none⟩ (.slice oA f.slips.length f.slips.length) (by have := HBs.out; have := XF.out.lt; simp only; omega)).apart ⟨b3, 7, none⟩ (.slice none 0 0) (by have := HBs.out; have := XF.out.lt; simp only; omega)).apart ⟨b3, 8, none⟩ (.map (some bm)) (by have := HBs.out; have := XF.out.lt; simp only; omega))
        have I9 := (HIA.out.to (gr_trans (d1) e1))
        have D9 := dfree_keep HIB.out (gr_trans (d1) e1)
        have M9 := map_keep HM.out (gr_trans (gr_trans (gr_trans (gr_trans (gr_trans (b1) hbAb) c1) hblc) d1) e1)
        have HZ0 := Lib.hid Y
        have HY9 := Lib.hid Y9
        have HB9 := Lib.hid B9
        have HF9 := Lib.hid F9
        have HI9 := Lib.hid I9
        have HD9 := Lib.hid D9
        have HM9 := Lib.hid M9
        clear Y Y9 B9 F9 I9 D9 M9
        go_simp
        refine hKe _ _ HF9.out (wpUp_done (by kernel_rfl) (fun W8 g1 g2 => NoPanic.normal ?_))
        refine ⟨rfl, oA, b3, bm, rfl, ?_⟩
        exact desk1_end HZ0.out (w7 := we) HY9.out HB9.out HI9.out HD9.out (show Below V0.heap.size V0 wc from gr_trans (gr_trans (gr_trans (gr_trans (a1) hbVa) b1) hbAb) c1).size HM9.out HMs.out HBs.out g1
    · go_simp
      have hbAa : Below wa.heap.size wa (wa.alloc (.cells #[.slice none 0 0, vi 0, vi 0, .slice none 0 0, vi 0, .slice none 0 0, .slice none 0 0, .slice none 0 0, .map none] 108)) := (Below.refl _ _).alloc (Nat.le_refl _) _
      have HB3 := Lib.hid (CellsBox.new wa 108 [.slice none 0 0, vi 0, vi 0, .slice none 0 0, vi 0, .slice none 0 0, .slice none 0 0, .slice none 0 0, .map none])
      have HBs : Hid (V0.heap.size ≤ wa.heap.size) := (show Below V0.heap.size V0 wa from a1).size
      obtain ⟨b3, hb3⟩ : ∃ b3, b3 = wa.heap.size := ⟨_, rfl⟩
      rw [← hb3] at HB3 HBs
      try rw [← hb3]
      clear hb3
      refine hKa _ _ (a2.keep hbAa) ?_
      refine wpUp_two (i := 3) (j := 4) (by kernel_rfl) rfl rfl rfl rfl (fun wb b1 b2 Kb hKb => ?_) (fun wb b1 b2 Kb hKb => ?_)
      · go_simp
        refine (MEM.out _).mono ?_
        rintro e wlb ⟨oA, rfl, hIA, hIb, hblb⟩
        rw [hmll]
        have HIA := Lib.hid hIA
        have HIB : Hid (dfree wlb oA (natsC ml) wb.heap.size) := fun b hb => by have := hIb b hb; rwa [List.length_map]
        clear hIA hIb
        refine hKb _ _ (b2.keep hblb) ?_
        refine wpUp_one (i := 4) (by kernel_rfl) rfl rfl (fun wc c1 c2 Kc hKc => ?_)
        go_simp
        have hbVc : Below wc.heap.size wc (wc.alloc (.map #[] 0)) := (Below.refl _ _).alloc (Nat.le_refl _) _
        have HM : Hid ((wc.alloc (.map #[] 0)).heap[wc.heap.size]? = some (.map #[] 0)) := World.alloc_heap_new _ _
        have HMs : Hid (V0.heap.size ≤ wc.heap.size) := (show Below V0.heap.size V0 wc from gr_trans (gr_trans (gr_trans (gr_trans (a1) hbAa) b1) hblb) c1).size
        obtain ⟨bm, hbm⟩ : ∃ bm, bm = wc.heap.size := ⟨_, rfl⟩
        rw [← hbm] at HM HMs
        try rw [← hbm]
        clear hbm
        refine hKc _ _ (c2.keep hbVc) ?_
        refine wpUp_one (i := 5) (by kernel_rfl) rfl rfl (fun wd d1 d2 Kd hKd => ?_)
        go_simp
        refine hKd _ _ d2 ?_
        refine wpUp_one (i := 7) (by kernel_rfl) rfl rfl (fun we e1 e2 Ke hKe => ?_)
        have Y := HB3.out.keep (gr_trans (gr_trans (gr_trans (gr_trans (gr_trans (b1) hblb) c1) hbVc) d1) e1)
        have ce0 := Y.cell (j := 0) rfl
        have ce1 := Y.cell (j := 1) rfl
        have ce2 := Y.cell (j := 2) rfl
        have ce3 := Y.cell (j := 3) rfl
        have ce4 := Y.cell (j := 4) rfl
        have ce5 := Y.cell (j := 5) rfl
        have ce6 := Y.cell (j := 6) rfl
        have ce7 := Y.cell (j := 7) rfl
        have ce8 := Y.cell (j := 8) rfl
        have ze0 := Y.frozen 0
        have ze1 := Y.frozen 1
        have ze2 := Y.frozen 2
        have ze3 := Y.frozen 3
        have ze4 := Y.frozen 4
        have ze5 := Y.frozen 5
        have ze6 := Y.frozen 6
        have ze7 := Y.frozen 7
        have ze8 := Y.frozen 8
        have Y9 := (((((((((Y.store 0 (.slice f.fA f.far.length f.fC)).store 1 (vi f.slo)).store 2 (vi f.shi)).store 3 (.slice f.pA f.picks.length f.pC)).store 4 (vi f.carry)).store 5 (.slice f.sA f.slips.length f.sC)).store 6 (.slice oA f.slips.length f.slips.length)).store 7 (.slice none 0 0)).store 8 (.map (some bm)))
        have B9 : Below V0.heap.size V0 _ := ((((((((((show Below V0.heap.size V0 we from gr_trans (gr_trans (gr_trans (gr_trans (gr_trans (gr_trans (gr_trans (a1) hbAa) b1) hblb) c1) hbVc) d1) e1).setCell (p := ⟨b3, 0, none⟩) HBs.out (.slice f.fA f.far.length f.fC)).setCell (p := ⟨b3, 1, none⟩) HBs.out (vi f.slo)).setCell (p := ⟨b3, 2, none⟩) HBs.out (vi f.shi)).setCell (p := ⟨b3, 3, none⟩) HBs.out (.slice f.pA f.picks.length f.pC)).setCell (p := ⟨b3, 4, none⟩) HBs.out (vi f.carry)).setCell (p := ⟨b3, 5, none⟩) HBs.out (.slice f.sA f.slips.length f.sC)).setCell (p := ⟨b3, 6, none⟩) HBs.out (.slice oA f.slips.length f.slips.length)).setCell (p := ⟨b3, 7, none⟩) HBs.out (.slice none 0 0)).setCell (p := ⟨b3, 8, none⟩) HBs.out (.map (some bm)))
        have F9 := (((((((((e2.apart ⟨b3, 0, none⟩ (.slice f.fA f.far.length f.fC) (by have := HBs.out; have := XF.out.lt; simp only; omega)).apart ⟨b3, 1, none⟩ (vi f.slo) (by have := HBs.out; have := XF.out.lt; simp only; omega)).apart ⟨b3, 2, none⟩ (vi f.shi) (by have := HBs.out; have := XF.out.lt; simp only; omega)).apart ⟨b3, 3, none⟩ (.slice f.pA f.picks.length f.pC) (by have := HBs.out; have := XF.out.lt; simp only; omega)).apart ⟨b3, 4, none⟩ (vi f.carry) (by have := HBs.out; have := XF.out.lt; simp only; omega)).apart ⟨b3, 5, none⟩ (.slice f.sA f.slips.length f.sC) (by have := HBs.out; have := XF.out.lt; simp only; omega)).apart ⟨b3, 6, none⟩ (.slice oA f.slips.length f.slips.length) (by have := HBs.out; have := XF.out.lt; simp only; omega)).apart ⟨b3, 7, none⟩ (.slice none 0 0) (by have := HBs.out; have := XF.out.lt; simp only; omega)).apart ⟨b3, 8, none⟩ (.map (some bm)) (by have := HBs.out; have := XF.out.lt; simp only; omega))
        have I9 := (HIA.out.to (gr_trans (gr_trans (gr_trans (c1) hbVc) d1) e1))
        have D9 := dfree_keep HIB.out (gr_trans (gr_trans (gr_trans (c1) hbVc) d1) e1)
        have M9 := map_keep HM.out (gr_trans (d1) e1)
        have HZ0 := Lib.hid Y
        have HY9 := Lib.hid Y9
        have HB9 := Lib.hid B9
        have HF9 := Lib.hid F9
        have HI9 := Lib.hid I9
        have HD9 := Lib.hid D9
        have HM9 := Lib.hid M9
        clear Y Y9 B9 F9 I9 D9 M9
        go_simp
        refine hKe _ _ HF9.out (wpUp_done (by kernel_rfl) (fun W8 g1 g2 => NoPanic.normal ?_))
        refine ⟨rfl, oA, b3, bm, rfl, ?_⟩
        exact desk1_end HZ0.out (w7 := we) HY9.out HB9.out HI9.out HD9.out (show Below V0.heap.size V0 wb from gr_trans (gr_trans (a1) hbAa) b1).size HM9.out HMs.out HBs.out g1
      · go_simp
        have hbVb : Below wb.heap.size wb (wb.alloc (.map #[] 0)) := (Below.refl _ _).alloc (Nat.le_refl _) _
        have HM : Hid ((wb.alloc (.map #[] 0)).heap[wb.heap.size]? = some (.map #[] 0)) := World.alloc_heap_new _ _
        have HMs : Hid (V0.heap.size ≤ wb.heap.size) := (show Below V0.heap.size V0 wb from gr_trans (gr_trans (a1) hbAa) b1).size
        obtain ⟨bm, hbm⟩ : ∃ bm, bm = wb.heap.size := ⟨_, rfl⟩
        rw [← hbm] at HM HMs
        try rw [← hbm]
        clear hbm
        refine hKb _ _ (b2.keep hbVb) ?_
        refine wpUp_one (i := 3) (by kernel_rfl) rfl rfl (fun wc c1 c2 Kc hKc => ?_)
        go_simp
        refine (MEM.out _).mono ?_
        rintro e wlc ⟨oA, rfl, hIA, hIb, hblc⟩
        rw [hmll]
        have HIA := Lib.hid hIA
        have HIB : Hid (dfree wlc oA (natsC ml) wc.heap.size) := fun b hb => by have := hIb b hb; rwa [List.length_map]
        clear hIA hIb
        refine hKc _ _ (c2.keep hblc) ?_
        refine wpUp_one (i := 5) (by kernel_rfl) rfl rfl (fun wd d1 d2 Kd hKd => ?_)
        go_simp
        refine hKd _ _ d2 ?_
        refine wpUp_one (i := 7) (by kernel_rfl) rfl rfl (fun we e1 e2 Ke hKe => ?_)
        have Y := HB3.out.keep (gr_trans (gr_trans (gr_trans (gr_trans (gr_trans (b1) hbVb) c1) hblc) d1) e1)
        have ce0 := Y.cell (j := 0) rfl
        have ce1 := Y.cell (j := 1) rfl
        have ce2 := Y.cell (j := 2) rfl
        have ce3 := Y.cell (j := 3) rfl
        have ce4 := Y.cell (j := 4) rfl
        have ce5 := Y.cell (j := 5) rfl
        have ce6 := Y.cell (j := 6) rfl
        have ce7 := Y.cell (j := 7) rfl
        have ce8 := Y.cell (j := 8) rfl
        have ze0 := Y.frozen 0
        have ze1 := Y.frozen 1
        have ze2 := Y.frozen 2
        have ze3 := Y.frozen 3
        have ze4 := Y.frozen 4
        have ze5 := Y.frozen 5
        have ze6 := Y.frozen 6
        have ze7 := Y.frozen 7
        have ze8 := Y.frozen 8
        have Y9 := (((((((((Y.store 0 (.slice f.fA f.far.length f.fC)).store 1 (vi f.slo)).store 2 (vi f.shi)).store 3 (.slice f.pA f.picks.length f.pC)).store 4 (vi f.carry)).store 5 (.slice f.sA f.slips.length f.sC)).store 6 (.slice oA f.slips.length f.slips.length)).store 7 (.slice none 0 0)).store 8 (.map (some bm)))
        have B9 : Below V0.heap.size V0 _ := ((((((((((show Below V0.heap.size V0 we from gr_trans (gr_trans (gr_trans (gr_trans (gr_trans (gr_trans (gr_trans (a1) hbAa) b1) hbVb) c1) hblc) d1) e1).setCell (p := ⟨b3, 0, none⟩) HBs.out (.slice f.fA f.far.length f.fC)).setCell (p := ⟨b3, 1, none⟩) HBs.out (vi f.slo)).setCell (p := ⟨b3, 2, none⟩) HBs.out (vi f.shi)).setCell (p := ⟨b3, 3, none⟩) HBs.out (.slice f.pA f.picks.length f.pC)).setCell (p := ⟨b3, 4, none⟩) HBs.out (vi f.carry)).setCell (p := ⟨b3, 5, none⟩) HBs.out (.slice f.sA f.slips.length f.sC)).setCell (p := ⟨b3, 6, none⟩) HBs.out (.slice oA f.slips.length f.slips.length)).setCell (p := ⟨b3, 7, none⟩) HBs.out (.slice none 0 0)).setCell (p := ⟨b3, 8, none⟩) HBs.out (.map (some bm)))
        have F9 := (((((((((e2.apart ⟨b3, 0, none⟩ (.slice f.fA f.far.length f.fC) (by have := HBs.out; have := XF.out.lt; simp only; omega)).apart ⟨b3, 1, none⟩ (vi f.slo) (by have := HBs.out; have := XF.out.lt; simp only; omega)).apart ⟨b3, 2, none⟩ (vi f.shi) (by have := HBs.out; have := XF.out.lt; simp only; omega)).apart ⟨b3, 3, none⟩ (.slice f.pA f.picks.length f.pC) (by have := HBs.out; have := XF.out.lt; simp only; omega)).apart ⟨b3, 4, none⟩ (vi f.carry) (by have := HBs.out; have := XF.out.lt; simp only; omega)).apart ⟨b3, 5, none⟩ (.slice f.sA f.slips.length f.sC) (by have := HBs.out; have := XF.out.lt; simp only; omega)).apart ⟨b3, 6, none⟩ (.slice oA f.slips.length f.slips.length) (by have := HBs.out; have := XF.out.lt; simp only; omega)).apart ⟨b3, 7, none⟩ (.slice none 0 0) (by have := HBs.out; have := XF.out.lt; simp only; omega)).apart ⟨b3, 8, none⟩ (.map (some bm)) (by have := HBs.out; have := XF.out.lt; simp only; omega))
        have I9 := (HIA.out.to (gr_trans (d1) e1))
        have D9 := dfree_keep HIB.out (gr_trans (d1) e1)
        have M9 := map_keep HM.out (gr_trans (gr_trans (gr_trans (c1) hblc) d1) e1)
        have HZ0 := Lib.hid Y
        have HY9 := Lib.hid Y9
        have HB9 := Lib.hid B9
        have HF9 := Lib.hid F9
        have HI9 := Lib.hid I9
        have HD9 := Lib.hid D9
        have HM9 := Lib.hid M9
        clear Y Y9 B9 F9 I9 D9 M9
        go_simp
        refine hKe _ _ HF9.out (wpUp_done (by kernel_rfl) (fun W8 g1 g2 => NoPanic.normal ?_))
        refine ⟨rfl, oA, b3, bm, rfl, ?_⟩
        exact desk1_end HZ0.out (w7 := we) HY9.out HB9.out HI9.out HD9.out (show Below V0.heap.size V0 wc from gr_trans (gr_trans (gr_trans (gr_trans (a1) hbAa) b1) hbVb) c1).size HM9.out HMs.out HBs.out g1
  case post =>
    rintro e a Z ⟨rfl, oA, b3, bm, rfl, HD⟩
    dsimp only
    have HDD := Lib.hid HD
    have HBZ : Below w.heap.size w Z := gr_trans hb0 HD.below
    have XFZ : Hid (CellsBox Z w.heap.size 89 f.cells) := XF.out.keep HD.below
    have XRZ : Hid (CellsBox Z (w.heap.size + 1) 108 [.slice none 0 0, vi 0, vi 0, .slice none 0 0, vi 0, .slice none 0 0, .slice none 0 0, .slice none 0 0, .map none]) := XR.out.keep HD.below
    have hzV : w.heap.size + 1 < V0.heap.size := XR.out.lt
    have hnb := HD.newb
    have hnm := HD.newm
    have z0 := XFZ.out.lt
    have z3 := HD.box.lt
    have a5 := XFZ.out.cell (j := 5) rfl
    obtain ⟨i0, hi, hy0, hy1, hy2⟩ := info_parts info_int
    have HTK := Lib.hid (fun (k : Nat) (s : SSlip) (hs : f.slips[k]? = some s) (W : World) hW => takes_any f hv k s hs W hW)
    have HSE := Lib.hid (fun (k : Nat) (s : SSlip) (hs : f.slips[k]? = some s) => secsL_at hs)
    have HSL : Hid ((secsL f).length = f.slips.length) := by unfold Hid; simp [secsL]
    obtain ⟨S, hS⟩ : ∃ S, S = secsL f := ⟨_, rfl⟩
    rw [← hS] at HSE HSL
    clear XF XR hb0 HD
    go_wp2_with fail
    go_loopw [4, 15] (fun x i wr => ∃ (k : Nat) (v : Value), k ≤ f.slips.length ∧ i = .int .i64 k ∧ Hid (Below w.heap.size w wr) ∧ Hid (Spare Z.heap.size b3 Z wr) ∧ Hid (CellsBox wr b3 108 (f.cells ++ [.slice oA f.slips.length f.slips.length, v, .map (some bm)])) ∧ Hid (wr.ownsRow Z.heap.size 3 1 v (S.take k).length ((S.take k).map vi))) (fun _ i _ => f.slips.length - (intOf i).toNat)
    case atStart => exact ⟨0, _, Nat.zero_le _, rfl, HBZ, Spare.refl _ _ _, HDD.out.box, by simpa [Hid] using World.ownsRow_nil _ _ _ _⟩
    obtain ⟨k, v, hk, rfl, HB, HS, HX, HO⟩ := hrel
    have hszr := HS.out.size
    by_cases hlt : k < f.slips.length
    · obtain ⟨s, hs⟩ : ∃ s, f.slips[k]? = some s := ⟨_, List.getElem?_eq_getElem hlt⟩
      have hkI : (k : Int) < f.slips.length := by omega
      have HS1 := Lib.hid (HSE.out k s hs)
      obtain ⟨⟨lo, hi2⟩, hlh⟩ : ∃ p, p = takesF f s := ⟨_, rfl⟩
      have TK : Hid (∀ W : World, FloorAt W W.heap.size f → Calls Tryd.prog 61 #[f.val, vi k] W fun e w' => e = .returned (.agg #[vi lo, vi hi2]) ∧ Below W.heap.size W w') := fun W hW => by have := HTK.out k s hs W hW; rw [← hlh] at this; exact this
      rw [← hlh] at HS1
      simp only at HS1
      have hlkl : (S.take k).length ≤ 9 := by rw [List.length_take, HSL.out]; omega
      obtain ⟨lk, hlk⟩ : ∃ lk, lk = S.take k := ⟨_, rfl⟩
      rw [← hlk] at HS1 HO hlkl
      have XFr : Hid (CellsBox wr w.heap.size 89 f.cells) := box_spare HS.out XFZ.out (by omega) (by omega)
      obtain ⟨vA, vc, rfl, hv1, hv2⟩ := own_form HO.out
      have hfd : ∀ W : World, (Instr.field 24 (.agg #[vi lo, vi hi2]) 1).run Tryd.prog W = .ok (vi hi2) W := fun W => by (show (_ : Result _) = _); kernel_rfl
      clear hs hlh hlk a5
      go_wp2_with fail
      refine' wp_region_box (fun w' => CellsBox w' w.heap.size 89 f.cells ∧ Below w.heap.size w w') (fun a b h h' => ⟨h.1.keep h', gr_trans h.2 h'⟩) [0, 2, 3, 4, 5] 5 33 (by kernel_rfl) (by kernel_rfl) rfl (by kernel_rfl) (by kernel_rfl) rfl (by kernel_rfl) ?hl6 ⟨XFr.out, HB.out⟩ ?hq6 ?hr6
      case hl6 =>
        simp only [List.map_cons, List.map_nil, List.getD_cons_zero, List.getD_cons_succ]
        exact rfl
      case hq6 =>
        rintro w0 ⟨K, hBw⟩
        have f0 := K.cell (j := 0) rfl
        have f1 := K.cell (j := 1) rfl
        have f2 := K.cell (j := 2) rfl
        have f3 := K.cell (j := 3) rfl
        have f4 := K.cell (j := 4) rfl
        have f5 := K.cell (j := 5) rfl
        have zf := K.lt
        (repeat (go_big_quiet_step ((go_at_call 61; refine Calls.grow_of (TK.out _ (HF.out.to (gr_trans hBw (plus_below _ _))))))))
        exact wpQuiet_nil rfl
      refine wpUp_two (i := 1) (j := 6) (by kernel_rfl) rfl rfl rfl rfl (fun wa a1 a2 Ka hKa => ?_) (fun wa a1 a2 Ka hKa => ?_)
      · have Y1 := HX.out.keep a1
        have d1 := Y1.cell (j := 7) rfl
        have zd := Y1.lt
        clear Y1
        go_simp
        clear d1
        refine hKa _ _ a2 ?_
        refine wpUp_one (i := 6) (by kernel_rfl) rfl rfl (fun wb b1 b2 Kb hKb => ?_)
        go_simp
        have hbV : Below wb.heap.size wb (wb.alloc (.cells #[vi hi2] 3)) := (Below.refl _ _).alloc (Nat.le_refl _) _
        have hcV : (wb.alloc (.cells #[vi hi2] 3)).cell? ⟨wb.heap.size, 0, none⟩ = some (vi hi2) := (Boxed.new wb 3 (vi hi2)).cell
        refine hKb _ _ ⟨b2.1.keep hbV, gr_trans b2.2 hbV⟩ ?_
        have HBc : Below wr.heap.size wr (wb.alloc (.cells #[vi hi2] 3)) := gr_trans (gr_trans a1 b1) hbV
        refine wpUp_one (i := 7) (by kernel_rfl) rfl rfl (fun w7 g1 g2 K7 hK7 => ?_)
        have HB7 := gr_trans HBc g1
        have O7 := own_keep HO.out HB7
        have X7 := HX.out.keep HB7
        have hz7 := HB7.size
        have hc7 := cell_keep g1 hcV
        refine wp_append_own _ _ _ _ (by rfl) Z.heap.size 3 i0 _ 1 8 Tryd.underlying22 hi hy0 hy1 hy2 rfl (by omega) (.slice vA lk.length vc) lk.length _ (by rfl) O7 ⟨wb.heap.size, 0, none⟩ 1 1 [vi hi2] (by rfl) (by rfl) (news_i hc7) (by simp [Value.oneCell']) (by unfold maxLen; omega) (by omega) (by omega) ?_
        intro v5 w8 hown8 hgrow _
        simp only [Act.put, List.setIfInBounds_toArray, List.set_cons_zero, List.set_cons_succ]
        have X8 := own_other O7 hgrow (by decide) X7
        have F8 := own_other O7 hgrow (by decide) g2.1
        have B8 : Below w.heap.size w w8 := Below.grown g2.2 hgrow (by have := HB.out.size; omega) (fun j e => by have := (O7.lt j e).1; have := HBZ.size; omega)
        refine hK7 _ _ ⟨F8, B8⟩ ?_
        refine wpUp_one (i := 8) (by kernel_rfl) rfl rfl (fun w85 r1 r2 K85 hK85 => ?_)
        go_simp
        refine hK85 _ _ r2 ?_
        refine wpUp_one (i := 9) (by kernel_rfl) rfl rfl (fun w9 q0 q2 K9 hK9 => ?_)
        have q1 := gr_trans r1 q0
        have X9 := X8.keep q1
        have P1 := own_spare (L := b3) (i := 7) (u := v5) O7 hgrow q1 (by omega)
        have P2 := own_set (L := b3) (i := 7) (u := v5) hown8 q1 (by decide) X9
        have P3 := X9.store 7 v5
        have P4 := q2.1.apart ⟨b3, 7, none⟩ v5 (by simp only; omega)
        have P5 := q2.2.setCell (p := ⟨b3, 7, none⟩) (by have := HBZ.size; simp only; omega) v5
        have d7 := X9.cell (j := 7) rfl
        have e7 := X9.frozen 7
        have HP1 := Lib.hid P1
        have HP2 := Lib.hid P2
        have HP3 := Lib.hid P3
        have HP4 := Lib.hid P4
        have HP5 := Lib.hid P5
        obtain ⟨v5A, v5c, rfl, hv51, hv52⟩ := own_form hown8
        clear P1 P2 P3 P4 P5 X9 X8 F8 B8 X7 O7 hown8 hgrow hc7
        go_simp
        refine hK9 _ _ ⟨HP4.out, HP5.out⟩ (wpUp_done (by kernel_rfl) (fun W8 s1 s2 => NoPanic.normal ?_))
        have R1 := Lib.hid s2.2
        have R2 : Hid (Spare Z.heap.size b3 Z W8) := (HS.out.trans (spare_of_below b3 HB7 (by omega))).trans (HP1.out.trans (spare_of_below b3 s1 (by have := HP1.out.size; omega)))
        have R3 := Lib.hid (HP3.out.keep s1)
        have R4 := Lib.hid (own_keep HP2.out s1)
        clear s1 s2 HP1 HP2 HP3 HP4 HP5 d7 e7
        go_wp2_with fail
        go_roundw
        case rel =>
          refine ⟨k + 1, _, by omega, by go_num, R1, R2, R3, ?_⟩
          rw [HS1.out]
          simpa [Hid] using R4.out
        case measure => simp [intOf]; omega
      · go_simp
        have hbV : Below wa.heap.size wa (wa.alloc (.cells #[vi hi2] 3)) := (Below.refl _ _).alloc (Nat.le_refl _) _
        have hcV : (wa.alloc (.cells #[vi hi2] 3)).cell? ⟨wa.heap.size, 0, none⟩ = some (vi hi2) := (Boxed.new wa 3 (vi hi2)).cell
        refine hKa _ _ ⟨a2.1.keep hbV, gr_trans a2.2 hbV⟩ ?_
        refine wpUp_one (i := 1) (by kernel_rfl) rfl rfl (fun wb b1 b2 Kb hKb => ?_)
        have Y1 := HX.out.keep (gr_trans (gr_trans a1 hbV) b1)
        have d1 := Y1.cell (j := 7) rfl
        have zd := Y1.lt
        clear Y1
        go_simp
        clear d1
        refine hKb _ _ b2 ?_
        have HBc : Below wr.heap.size wr wb := gr_trans (gr_trans a1 hbV) b1
        refine wpUp_one (i := 7) (by kernel_rfl) rfl rfl (fun w7 g1 g2 K7 hK7 => ?_)
        have HB7 := gr_trans HBc g1
        have O7 := own_keep HO.out HB7
        have X7 := HX.out.keep HB7
        have hz7 := HB7.size
        have hc7 := cell_keep g1 (cell_keep b1 hcV)
        refine wp_append_own _ _ _ _ (by rfl) Z.heap.size 3 i0 _ 1 8 Tryd.underlying22 hi hy0 hy1 hy2 rfl (by omega) (.slice vA lk.length vc) lk.length _ (by rfl) O7 ⟨wa.heap.size, 0, none⟩ 1 1 [vi hi2] (by rfl) (by rfl) (news_i hc7) (by simp [Value.oneCell']) (by unfold maxLen; omega) (by omega) (by omega) ?_
        intro v5 w8 hown8 hgrow _
        simp only [Act.put, List.setIfInBounds_toArray, List.set_cons_zero, List.set_cons_succ]
        have X8 := own_other O7 hgrow (by decide) X7
        have F8 := own_other O7 hgrow (by decide) g2.1
        have B8 : Below w.heap.size w w8 := Below.grown g2.2 hgrow (by have := HB.out.size; omega) (fun j e => by have := (O7.lt j e).1; have := HBZ.size; omega)
        refine hK7 _ _ ⟨F8, B8⟩ ?_
        refine wpUp_one (i := 8) (by kernel_rfl) rfl rfl (fun w85 r1 r2 K85 hK85 => ?_)
        go_simp
        refine hK85 _ _ r2 ?_
        refine wpUp_one (i := 9) (by kernel_rfl) rfl rfl (fun w9 q0 q2 K9 hK9 => ?_)
        have q1 := gr_trans r1 q0
        have X9 := X8.keep q1
        have P1 := own_spare (L := b3) (i := 7) (u := v5) O7 hgrow q1 (by omega)
        have P2 := own_set (L := b3) (i := 7) (u := v5) hown8 q1 (by decide) X9
        have P3 := X9.store 7 v5
        have P4 := q2.1.apart ⟨b3, 7, none⟩ v5 (by simp only; omega)
        have P5 := q2.2.setCell (p := ⟨b3, 7, none⟩) (by have := HBZ.size; simp only; omega) v5
        have d7 := X9.cell (j := 7) rfl
        have e7 := X9.frozen 7
        have HP1 := Lib.hid P1
        have HP2 := Lib.hid P2
        have HP3 := Lib.hid P3
        have HP4 := Lib.hid P4
        have HP5 := Lib.hid P5
        obtain ⟨v5A, v5c, rfl, hv51, hv52⟩ := own_form hown8
        clear P1 P2 P3 P4 P5 X9 X8 F8 B8 X7 O7 hown8 hgrow hc7
        go_simp
        refine hK9 _ _ ⟨HP4.out, HP5.out⟩ (wpUp_done (by kernel_rfl) (fun W8 s1 s2 => NoPanic.normal ?_))
        have R1 := Lib.hid s2.2
        have R2 : Hid (Spare Z.heap.size b3 Z W8) := (HS.out.trans (spare_of_below b3 HB7 (by omega))).trans (HP1.out.trans (spare_of_below b3 s1 (by have := HP1.out.size; omega)))
        have R3 := Lib.hid (HP3.out.keep s1)
        have R4 := Lib.hid (own_keep HP2.out s1)
        clear s1 s2 HP1 HP2 HP3 HP4 HP5 d7 e7
        go_wp2_with fail
        go_roundw
        case rel =>
          refine ⟨k + 1, _, by omega, by go_num, R1, R2, R3, ?_⟩
          rw [HS1.out]
          simpa [Hid] using R4.out
        case measure => simp [intOf]; omega
    · obtain rfl : k = f.slips.length := by omega
      have hSl := HSL.out
      have HO2 : Hid (wr.ownsRow Z.heap.size 3 1 v f.slips.length (S.map intC).flatten) := by
        have := HO.out
        rw [List.take_of_length_le (by omega), hSl] at this
        unfold Hid
        rwa [intC_flat]
      obtain ⟨qA, qC, rfl, hq1, hq2, hqi⟩ := own_rows (intC_one S) HO2.out (by simp [hSl]) (by omega)
      have hqb : ∀ b, qA = some b → Z.heap.size ≤ b.block := fun b hb => (HO2.out.lt b.block (by rw [hb]; rfl)).1
      have HQ : Hid (IntsAt wr wr.heap.size qA f.slips.length S) := hqi
      have HQB := Lib.hid hqb
      have HZs := HBZ.size
      have hmr : Hid (wr.heap[bm]? = some (.map #[] 0)) := (HS.out.block bm (Array.getElem?_eq_some_iff.1 HDD.out.map).1 (by
        rintro rfl
        have h1 := HDD.out.map
        have h2 := HDD.out.box
        unfold CellsBox at h2
        rw [h2] at h1; cases h1)).trans HDD.out.map
      have XFr : Hid (CellsBox wr w.heap.size 89 f.cells) := box_spare HS.out XFZ.out (by omega) (by omega)
      have XRr : Hid (CellsBox wr (w.heap.size + 1) 108 [.slice none 0 0, vi 0, vi 0, .slice none 0 0, vi 0, .slice none 0 0, .slice none 0 0, .slice none 0 0, .map none]) := box_spare HS.out XRZ.out XRZ.out.lt (by omega)
      have HIr : Hid (IntsAt wr wr.heap.size oA f.slips.length (natsC ml) ∧ dfree wr oA (natsC ml) V0.heap.size) := by
        have h1 := HDD.out.ints
        have h2 := HDD.out.free
        have keep : ∀ b, oA = some b → wr.heap[b.block]? = Z.heap[b.block]? := fun b e => by
          obtain ⟨_, _, cur, h3, _⟩ := h2 b e
          refine HS.out.block _ (Array.getElem?_eq_some_iff.1 h3).1 ?_
          intro e3
          have h4 := HDD.out.box
          unfold CellsBox at h4
          rw [e3, h4] at h3; cases h3
        refine ⟨⟨by rw [← hmll]; exact h1.len, by omega, h1.few, fun hl => ?_⟩, fun b e => ?_⟩
        · obtain ⟨b, off, hA, hlt2, hc⟩ := h1.row hl
          refine ⟨b, off, hA, by omega, fun i r hr j u hj hu => ?_⟩
          have h9 := hc i r hr j u hj hu
          simp only [World.cell?] at h9 ⊢
          rw [keep _ hA]
          exact h9
        · obtain ⟨e1, e2, cur, e3, e4⟩ := h2 b e
          exact ⟨e1, e2, cur, (keep b e).trans e3, e4⟩
      have SORT : Hid (Calls Tryd.prog 101 #[.slice oA f.slips.length f.slips.length, cmpV w.heap.size] wr fun e w' => (∃ v, e = .returned v) ∧ (IntsAt w' w'.heap.size oA f.slips.length (orderF f) ∧ wr.heap.size ≤ w'.heap.size ∧ w'.os = wr.os ∧ w'.tape = wr.tape ∧ w'.output = wr.output ∧ ∀ k, k < wr.heap.size → (∀ b, oA = some b → k ≠ b.block) → w'.heap[k]? = wr.heap[k]?)) := by
        rcases Nat.eq_zero_or_pos f.slips.length with h0 | h0
        · have hml0 : ml = [] := List.eq_nil_of_length_eq_zero (by omega)
          have hord : orderF f = [] := by rw [HORD.out, hml0]; rfl
          rw [h0, hord]
          refine sortStable_any oA 0 0 w.heap.size (by omega) wr _ ((insertion_none oA 0 w.heap.size wr).mono ?_)
          rintro e w' ⟨hv, rfl⟩
          exact ⟨hv, ⟨by simp, by omega, by simp, fun hl => by simp at hl⟩, Nat.le_refl _, rfl, rfl, rfl, fun _ _ _ => rfl⟩
        · obtain ⟨b, off, hA, hlt2, hc⟩ := HIr.out.1.row (by simp; omega)
          obtain ⟨g1, g2, cur, g3, g4⟩ := HIr.out.2 _ hA
          simp only at g1 g2 g3
          cases g2
          have hbox : CellsBox wr b 3 ((natsC ml).map vi ++ cur.toList.drop (natsC ml).length) := by
            unfold CellsBox
            rw [g3, ← g4, List.take_append_drop]
          rw [hA]
          have hnl : (natsC ml).length = f.slips.length := by simpa using hmll
          have INS := insertion_any f w.heap.size w.heap.size (natsC ml) HMB.out (by omega) (by omega) b f.slips.length _ wr XFr.out (HF.out.below HB.out) (by omega) (by omega) hbox
          rw [hnl] at INS
          refine sortStable_any _ _ _ w.heap.size (by omega) wr _ (INS.mono ?_)
          rintro e w' ⟨hv, hX, hSp⟩
          refine ⟨hv, ⟨by rw [HORD.out]; simp [isort_len, hmll], by omega, by rw [HORD.out]; simp [isort_len, hmll]; omega, fun _ => ⟨b, 0, rfl, hX.lt, fun i r hr j u hj hu => ?_⟩⟩, hSp.size, hSp.os, hSp.tape, hSp.output, fun k hk hne => hSp.block k hk (hne _ rfl)⟩
          rw [HORD.out] at hr
          rw [List.getElem?_map] at hr
          obtain ⟨x, hx, rfl⟩ := Option.map_eq_some_iff.1 hr
          have hj0 : j = 0 := by omega
          subst hj0
          simp at hu
          subst hu
          have := hX.cell (cells_map _ _ i x hx)
          simpa using this
      have hord6 := HX.out.cell (j := 6) rfl
      clear HO HO2 hqi hqb
      go_wp2_with fail
      refine SORT.out.mono ?_
      rintro e W6 ⟨⟨vv, rfl⟩, hI6, hs6, h6a, h6b, h6c, hsame⟩
      have HI6 := Lib.hid hI6
      have HSAME := Lib.hid hsame
      have nob : Hid (∀ k t cs, t ≠ 3 → CellsBox wr k t cs → CellsBox W6 k t cs) := fun k t cs ht hk => (hsame k hk.lt fun b hb e => by
        obtain ⟨_, _, cur, g3, _⟩ := HIr.out.2 b hb
        unfold CellsBox at hk
        rw [e, g3] at hk; cases hk; exact ht rfl).trans hk
      have XB6 := Lib.hid (nob.out b3 _ _ (by decide) HX.out)
      have XR6 := Lib.hid (nob.out (w.heap.size + 1) _ _ (by decide) XRr.out)
      have HM6 : Hid (W6.heap[bm]? = some (.map #[] 0)) := (hsame bm (Array.getElem?_eq_some_iff.1 hmr.out).1 fun b hb e => by
        obtain ⟨_, _, cur, g3, _⟩ := HIr.out.2 b hb
        have := hmr.out
        rw [e, g3] at this; cases this).trans hmr.out
      have HQ6 : Hid (IntsAt W6 W6.heap.size qA f.slips.length S) := by
        have h1 := HQ.out
        refine ⟨h1.len, h1.cap, h1.few, fun hl => ?_⟩
        obtain ⟨b, off, hA, hlt2, hc⟩ := h1.row hl
        have hbz := HQB.out _ hA
        refine ⟨b, off, hA, by omega, fun i r hr j u hj hu => ?_⟩
        have h9 := hc i r hr j u hj hu
        simp only [World.cell?] at h9 ⊢
        rw [hsame b hlt2 fun b' hb' e => by
          obtain ⟨_, _, cur, g3, _⟩ := HDD.out.free b' hb'
          have := (Array.getElem?_eq_some_iff.1 g3).1
          simp only at hbz
          omega]
        exact h9
      have HB6 : Hid (Below w.heap.size w W6) := HB.out.trans ⟨h6a, h6b, h6c, by have := HB.out.size; exact hs6, fun k hk => hsame k (by have := HB.out.size; omega) fun b hb e => by
        obtain ⟨g1, _⟩ := HIr.out.2 b hb
        omega⟩
      clear hI6 hsame h6a h6b h6c hord6
      have p0 := XB6.out.cell (j := 0) rfl
      have p1 := XB6.out.cell (j := 1) rfl
      have p2 := XB6.out.cell (j := 2) rfl
      have p3 := XB6.out.cell (j := 3) rfl
      have p4 := XB6.out.cell (j := 4) rfl
      have p5 := XB6.out.cell (j := 5) rfl
      have p6 := XB6.out.cell (j := 6) rfl
      have p7 := XB6.out.cell (j := 7) rfl
      have p8 := XB6.out.cell (j := 8) rfl
      have y0 := XR6.out.cell (j := 0) rfl
      have z0 := XR6.out.frozen 0
      have y1 := XR6.out.cell (j := 1) rfl
      have z1 := XR6.out.frozen 1
      have y2 := XR6.out.cell (j := 2) rfl
      have z2 := XR6.out.frozen 2
      have y3 := XR6.out.cell (j := 3) rfl
      have z3 := XR6.out.frozen 3
      have y4 := XR6.out.cell (j := 4) rfl
      have z4 := XR6.out.frozen 4
      have y5 := XR6.out.cell (j := 5) rfl
      have z5 := XR6.out.frozen 5
      have y6 := XR6.out.cell (j := 6) rfl
      have z6 := XR6.out.frozen 6
      have y7 := XR6.out.cell (j := 7) rfl
      have z7 := XR6.out.frozen 7
      have y8 := XR6.out.cell (j := 8) rfl
      have z8 := XR6.out.frozen 8
      have zb6 := XB6.out.lt
      have zr6 := XR6.out.lt
      have Y := XR6.out
      have YY := Lib.hid (((((((((Y.store 0 (.slice f.fA f.far.length f.fC)).store 1 (vi f.slo)).store 2 (vi f.shi)).store 3 (.slice f.pA f.picks.length f.pC)).store 4 (vi f.carry)).store 5 (.slice f.sA f.slips.length f.sC)).store 6 (.slice oA f.slips.length f.slips.length)).store 7 (.slice qA f.slips.length qC)).store 8 (.map (some bm)))
      obtain ⟨C, hC⟩ : ∃ C, C = (((((((((W6.setCell ⟨w.heap.size + 1, 0, none⟩ (.slice f.fA f.far.length f.fC)).setCell ⟨w.heap.size + 1, 1, none⟩ (vi f.slo)).setCell ⟨w.heap.size + 1, 2, none⟩ (vi f.shi)).setCell ⟨w.heap.size + 1, 3, none⟩ (.slice f.pA f.picks.length f.pC)).setCell ⟨w.heap.size + 1, 4, none⟩ (vi f.carry)).setCell ⟨w.heap.size + 1, 5, none⟩ (.slice f.sA f.slips.length f.sC)).setCell ⟨w.heap.size + 1, 6, none⟩ (.slice oA f.slips.length f.slips.length)).setCell ⟨w.heap.size + 1, 7, none⟩ (.slice qA f.slips.length qC)).setCell ⟨w.heap.size + 1, 8, none⟩ (.map (some bm))) := ⟨_, rfl⟩
      have CS : Hid (∀ k, k ≠ w.heap.size + 1 → C.heap[k]? = W6.heap[k]?) := fun k hk => by
        rw [hC]
        rw [heap_setCell_other _ _ k _ hk, heap_setCell_other _ _ k _ hk, heap_setCell_other _ _ k _ hk, heap_setCell_other _ _ k _ hk, heap_setCell_other _ _ k _ hk, heap_setCell_other _ _ k _ hk, heap_setCell_other _ _ k _ hk, heap_setCell_other _ _ k _ hk, heap_setCell_other _ _ k _ hk]
      have CZ : Hid (C.heap.size = W6.heap.size ∧ C.os = W6.os ∧ C.tape = W6.tape ∧ C.output = W6.output) := by unfold Hid; rw [hC]; simp [World.setCell]
      rw [← hC] at YY
      have HC := Lib.hid hC
      clear hC Y
      go_wp2_with fail
      refine (?_ : ∀ D : World, C = D → bodyPost _ _ _ _ _ D) _ HC.out
      rintro D rfl
      clear p0 y0 z0 p1 y1 z1 p2 y2 z2 p3 y3 z3 p4 y4 z4 p5 y5 z5 p6 y6 z6 p7 y7 z7 p8 y8 z8 HC
      have ZY := YY.out
      have o0 := ZY.cell (j := 0) rfl
      have o1 := ZY.cell (j := 1) rfl
      have o2 := ZY.cell (j := 2) rfl
      have o3 := ZY.cell (j := 3) rfl
      have o4 := ZY.cell (j := 4) rfl
      have o5 := ZY.cell (j := 5) rfl
      have o6 := ZY.cell (j := 6) rfl
      have o7 := ZY.cell (j := 7) rfl
      have o8 := ZY.cell (j := 8) rfl
      refine bodyPost_ret (v := .agg #[.slice f.fA f.far.length f.fC, vi f.slo, vi f.shi, .slice f.pA f.picks.length f.pC, vi f.carry, .slice f.sA f.slips.length f.sC, .slice oA f.slips.length f.slips.length, .slice qA f.slips.length qC, .map (some bm)]) (by simp [results, Tryd.results68, go_sem, o0, o1, o2, o3, o4, o5, o6, o7, o8]) rfl ⟨oA, qA, qC, bm, rfl, ?_, by omega, ?_⟩
      · obtain ⟨c1, c2, c3, c4⟩ := CZ.out
        have HQ7 := HQ6.out
        rw [hS] at HQ7
        refine ⟨⟨HI6.out.len, HI6.out.cap, HI6.out.few, fun hl => ?_⟩, ⟨HQ7.len, HQ7.cap, HQ7.few, fun hl => ?_⟩, (CS.out bm (by rintro rfl; have := HM6.out; have h2 := XR6.out; unfold CellsBox at h2; rw [h2] at this; cases this)).trans HM6.out⟩
        · obtain ⟨b, off, hA, hlt2, hc⟩ := HI6.out.row hl
          have hbz := (HIr.out.2 _ hA).1
          simp only at hbz
          refine ⟨b, off, hA, by omega, fun i r hr j u hj hu => ?_⟩
          have h9 := hc i r hr j u hj hu
          simp only [World.cell?] at h9 ⊢
          rw [CS.out b (by omega)]
          exact h9
        · obtain ⟨b, off, hA, hlt2, hc⟩ := HQ7.row hl
          have hbz := HQB.out _ hA
          simp only at hbz
          refine ⟨b, off, hA, by omega, fun i r hr j u hj hu => ?_⟩
          have h9 := hc i r hr j u hj hu
          simp only [World.cell?] at h9 ⊢
          rw [CS.out b (by omega)]
          exact h9
      · obtain ⟨c1, c2, c3, c4⟩ := CZ.out
        exact HB6.out.trans ⟨c2, c3, c4, by omega, fun k hk => CS.out k (by omega)⟩
end Go.Proofs.YtomgnpfpaodpiaaDoor
/- What one picker can be given: plain forms; what stays while rounds go on. -/
namespace Go.Proofs.YtomgnpfpaodpiaaDoor
open Go Go.RowKit Go.Shelf
/-- every block of cells stays as it was -/
structure CS (w w' : World) : Prop where
  os : w'.os = w.os
  tape : w'.tape = w.tape
  output : w'.output = w.output
  size : w.heap.size ≤ w'.heap.size
  boxes : ∀ (k : Nat) (c : Array Value) (t : TypeId) (z : Nat × Nat), w.heap[k]? = some (.cells c t z) → w'.heap[k]? = some (.cells c t z)
theorem CS.refl (w : World) : CS w w := ⟨rfl, rfl, rfl, Nat.le_refl _, fun _ _ _ _ h => h⟩
theorem CS.trans {a b c : World} (h : CS a b) (k : CS b c) : CS a c := ⟨k.os.trans h.os, k.tape.trans h.tape, k.output.trans h.output, Nat.le_trans h.size k.size, fun i x t z hi => k.boxes i x t z (h.boxes i x t z hi)⟩
theorem cs_of_below {a b : World} (h : Below a.heap.size a b) : CS a b := ⟨h.os, h.tape, h.output, h.size, fun k _ _ _ hk => (h.block k (Array.getElem?_eq_some_iff.1 hk).1).trans hk⟩
theorem CS.cell {a b : World} (h : CS a b) {p : Addr} {v : Value} (hp : a.cell? p = some v) : b.cell? p = some v := by
  unfold World.cell? at hp ⊢
  cases ho : a.heap[p.block]? with
  | none => rw [ho] at hp; cases hp
  | some o =>
    cases o with
    | cells c t z => rw [h.boxes _ c t z ho]; rw [ho] at hp; exact hp
    | _ => rw [ho] at hp; cases hp
theorem CS.box {a b : World} (h : CS a b) {k : Nat} {t : TypeId} {cs : List Value} (hk : CellsBox a k t cs) : CellsBox b k t cs := h.boxes k _ t _ hk
theorem CS.rows {a b : World} (h : CS a b) {sz cap : Nat} {A : Option Addr} {m : List (List Value)} (hr : RowsAt a a.heap.size sz A cap m) : RowsAt b b.heap.size sz A cap m := by
  refine ⟨hr.len, hr.cap, hr.few, fun hl => ?_⟩
  obtain ⟨b', off, hA, hlt, hc⟩ := hr.row hl
  exact ⟨b', off, hA, Nat.lt_of_lt_of_le hlt h.size, fun i r hi j u hj hu => h.cell (hc i r hi j u hj hu)⟩
theorem CS.floor {a b : World} (h : CS a b) {f : Floor} (hf : FloorAt a a.heap.size f) : FloorAt b b.heap.size f := ⟨h.rows hf.far, h.rows hf.picks, h.rows hf.slips, fun s hs => h.rows (hf.each s hs)⟩
theorem CS.turn (W : World) (l : Nat) (o o' : Obj) (h : W.heap[l]? = some o) (h1 : o.isCells = false) : CS W (W.putObj l o') :=
  ⟨rfl, rfl, rfl, by simp, fun k c t z hk => by
    by_cases e : k = l
    · subst e; rw [h] at hk; cases hk; cases h1
    · exact (World.putObj_heap_other e).trans hk⟩
theorem ints_drop {w : World} {B : Nat} {b off cap : Nat} {l : List Int} (h : IntsAt w B (some ⟨b, off, none⟩) cap l) (k : Nat) (hk : k ≤ l.length) : IntsAt w B (some ⟨b, off + k, none⟩) (cap - k) (l.drop k) := by
  have hl := h.lens
  have hc := h.cap
  refine ⟨by simp; omega, by omega, by simp; omega, fun hp => ?_⟩
  obtain ⟨b', off', hA, hlt, hcl⟩ := h.row (by simp at hp ⊢; omega)
  cases hA
  refine ⟨b, off + k, rfl, hlt, fun i r hr j u hj hu => ?_⟩
  have : (l.map intC)[k + i]? = some r := by
    rw [List.getElem?_map] at hr ⊢
    rw [List.getElem?_drop] at hr
    exact hr
  have := hcl (k + i) r this j u hj hu
  rwa [show off + (k + i) * 1 + j = off + k + i * 1 + j by omega] at this
/-- may a slip be given so late -/
def okF (f : Floor) (m : Nat) (sec : Int) (s : Nat) : Bool := m.testBit s && decide (sec + ((secsL f)[s]?.getD 0) ≤ keyF f s)
/-- all that one picker can be given besides, of some slips in their order -/
def loopF (f : Floor) (m : Nat) : Nat → Int → List Nat → List Nat
  | to, _, [] => if to = 0 then [] else [to]
  | to, sec, s :: rest => (if okF f m sec s then loopF f m (to ||| 2 ^ s) (sec + ((secsL f)[s]?.getD 0)) rest else []) ++ loopF f m to sec rest
end Go.Proofs.YtomgnpfpaodpiaaDoor
/- What one picker can be given: the recursive closure. -/
namespace Go.Proofs.YtomgnpfpaodpiaaDoor
open Go Go.RowKit Go.Shelf
set_option maxHeartbeats 2000000
attribute [local go_sem] Oper.semAt_some
theorem yield_any {m m' l : Nat} {P : Program} {args : Array Value} {W : World} {R : Ending → World → Prop} (h : YieldAt Fence.wide m P l args W R) : YieldAt Fence.wide m' P l args W R := by
  obtain ⟨fn, tmps, assign, body, hy, h1, h2⟩ := h
  exact ⟨fn, tmps, assign, body, hy, h1, fun c cs _ => h2 c cs (fun d hd => by cases hd)⟩
abbrev giveV (pD pS pI pG pY : Nat) : Value := .func (.func 118) #[] #[.pointer (some ⟨pD, 0, none⟩), .pointer (some ⟨pS, 0, none⟩), .pointer (some ⟨pI, 0, none⟩), .pointer (some ⟨pG, 0, none⟩), .pointer (some ⟨pY, 0, none⟩)]
abbrev inTimeV (f : Floor) : Value := .func (.func 109) #[f.val] #[]
/-- what the closure that gives slips holds -/
structure GiveAt (w : World) (f : Floor) (m : Nat) (oA qA : Option Addr) (oC qC bm pD pS pI pG pY l : Nat) : Prop where
  desk : CellsBox w pD 108 (deskC f oA oC qA f.slips.length qC bm)
  slips : CellsBox w pS 113 [vi m]
  fn : CellsBox w pI 130 [inTimeV f]
  give : CellsBox w pG 159 [giveV pD pS pI pG pY]
  yield : CellsBox w pY 158 [.func (.yield l) #[] #[]]
  floor : FloorAt w w.heap.size f
  secs : IntsAt w w.heap.size qA f.slips.length (secsL f)
theorem GiveAt.cs {w w' : World} {f : Floor} {m : Nat} {oA qA : Option Addr} {oC qC bm pD pS pI pG pY l : Nat} (h : GiveAt w f m oA qA oC qC bm pD pS pI pG pY l) (hc : CS w w') : GiveAt w' f m oA qA oC qC bm pD pS pI pG pY l :=
  ⟨hc.box h.desk, hc.box h.slips, hc.box h.fn, hc.box h.give, hc.box h.yield, hc.floor h.floor, hc.rows h.secs⟩
theorem loop_drop {f : Floor} {m to : Nat} {sec : Int} {rest : List Nat} {i s : Nat} (h : rest[i]? = some s) : loopF f m to sec (rest.drop i) = (if okF f m sec s then loopF f m (to ||| 2 ^ s) (sec + ((secsL f)[s]?.getD 0)) (rest.drop (i + 1)) else []) ++ loopF f m to sec (rest.drop (i + 1)) := by
  obtain ⟨hi, rfl⟩ := List.getElem?_eq_some_iff.1 h
  rw [List.drop_eq_getElem_cons hi, loopF]
theorem secs_range {f : Floor} (hv : validB f = true) {s : Nat} (hs : s < f.slips.length) : ∃ n, (secsL f)[s]? = some n ∧ 0 ≤ n ∧ n ≤ 20000000 := by
  have h1 : f.slips[s]? = some f.slips[s] := List.getElem?_eq_getElem hs
  have h2 := (tk_range hv (s : Int)).2
  refine ⟨(takesF f f.slips[s]).2, by simp [secsL, h1], ?_⟩
  unfold tkF at h2
  simp only [Int.toNat_natCast, h1] at h2
  exact h2
theorem inTime_is {f : Floor} {s : Nat} (hs : s < f.slips.length) {x : Int} {b : Bool} (hb : decide (x ≤ keyF f s) = b) (w : World) (h : FloorAt w w.heap.size f) :
    Calls Tryd.prog 109 #[f.val, vi s, vi x] w fun e w' => e = .returned (.bool b) ∧ Below w.heap.size w w' := by
  have h1 : f.slips[s]? = some f.slips[s] := List.getElem?_eq_getElem hs
  have := isInTime_any f s x _ h1 w h
  rw [show decide (x ≤ f.slips[s].till) = b from by rw [← hb]; simp [keyF, h1]] at this
  exact this
set_option maxRecDepth 100000 in
theorem give_any (f : Floor) (hv : validB f = true) (m : Nat) (hm : m < 512) (oA qA : Option Addr) (oC qC bm pD pS pI pG pY l N B : Nat) (J Jx : List Nat → World → Prop) (hJ : AbidesFrom B J)
    (hY : ∀ (pre : List Nat) (x : Nat) (W1 : World), x < 512 → J pre W1 → pre.length < N → YieldAt Fence.wide 0 Tryd.prog l #[vi x] W1 fun e W' => (e = .returned (.bool true) ∧ J (pre ++ [x]) W' ∧ CS W1 W') ∨ (e = .returned (.bool false) ∧ Jx (pre ++ [x]) W')) :
    ∀ (q : Nat) (rest : List Nat) (to : Nat) (sec : Int) (A : Option Addr) (cap : Nat) (pre : List Nat) (W : World), rest.length = q → to < 512 → 0 ≤ sec → sec + 20000000 * rest.length ≤ 1000000000 → (∀ s ∈ rest, s < f.slips.length) → rest.length ≤ 9 →
      GiveAt W f m oA qA oC qC bm pD pS pI pG pY l → IntsAt W W.heap.size A cap (natsC rest) → J pre W → pre.length + (loopF f m to sec rest).length ≤ N →
      Calls Tryd.prog 118 #[vi to, vi sec, .slice A rest.length cap, .pointer (some ⟨pD, 0, none⟩), .pointer (some ⟨pS, 0, none⟩), .pointer (some ⟨pI, 0, none⟩), .pointer (some ⟨pG, 0, none⟩), .pointer (some ⟨pY, 0, none⟩)] W fun e W' =>
        ∃ b : Bool, e = .returned (.bool b) ∧ Hid ((b = true ∧ J (pre ++ loopF f m to sec rest) W' ∧ CS W W') ∨ (b = false ∧ ∃ d x r, loopF f m to sec rest = d ++ x :: r ∧ Jx (pre ++ d ++ [x]) W')) := by
  intro q
  induction q using Nat.strongRecOn with
  | _ q ih =>
    intro rest to sec A cap pre W hq hto hs0 hs1 hrest hr9 hG hI hJ0 hN
    have h9 := (fine hv).slips9
    have IH := Lib.hid ih
    have HG := Lib.hid hG
    have HI := Lib.hid hI
    have HJ0 := Lib.hid hJ0
    have hIl := hI.lens
    simp only [List.length_map] at hIl
    have HRE := Lib.hid hrest
    have HV := Lib.hid hv
    have HN := Lib.hid hN
    have HQ := Lib.hid hq
    clear ih hG hI hJ0 hrest hv hN hq
    refine (callsIn_wide (n := 6)).1 ?_
    refine callsIn_of_wp Tryd.func118 rfl trivial ?_ rfl
    simp only [Tryd.ntmps118, List.size_toArray, List.length_cons, List.length_nil, Nat.reduceAdd, Nat.reduceSub, Array.replicate_succ, Array.replicate_zero, List.push_toArray, List.append_toArray, List.nil_append, List.cons_append]
    gi_wp2_with fail
    refine wpIn_wide.2 (wp_scope_straight ((wpIn_wide (n := 6)).1 ?_))
    gi_wp2_with fail
    apply wpIn_label
    gi_wp2_with fail
    gi_loopw [12, 13, 14, 17] (fun a b c i wr => ∃ (k : Nat) (em : List Nat), k ≤ rest.length ∧ i = .int .i64 k ∧ Hid (em ++ loopF f m to sec (rest.drop k) = loopF f m to sec rest) ∧ Hid (J (pre ++ em) wr) ∧ Hid (CS W wr)) (fun _ _ _ i _ => rest.length - (intOf i).toNat)
    case atStart => exact ⟨0, [], Nat.zero_le _, rfl, by simp [Hid], by simpa [Hid] using HJ0.out, CS.refl _⟩
    case round =>
      obtain ⟨k, em, hk, rfl, HE, HJk, HC⟩ := hrel
      have HGk := Lib.hid (HG.out.cs HC.out)
      have HIk : Hid (IntsAt wr wr.heap.size A cap (natsC rest)) := HC.out.rows HI.out
      have d0 := HGk.out.desk.cell (j := 7) rfl
      have zD := HGk.out.desk.lt
      have s0 := HGk.out.slips.cell (j := 0) rfl
      have zS := HGk.out.slips.lt
      have i0 := HGk.out.fn.cell (j := 0) rfl
      have zI := HGk.out.fn.lt
      have g0 := HGk.out.give.cell (j := 0) rfl
      have zG := HGk.out.give.lt
      have y0 := HGk.out.yield.cell (j := 0) rfl
      have zY := HGk.out.yield.lt
      by_cases hlt : k < rest.length
      · obtain ⟨s, hs⟩ : ∃ s, rest[k]? = some s := ⟨_, List.getElem?_eq_getElem hlt⟩
        have hsl := HRE.out s (List.mem_of_getElem? hs)
        have HLD := Lib.hid (loop_drop (f := f) (m := m) (to := to) (sec := sec) hs)
        obtain ⟨sq, hsq, hq0, hq1⟩ := secs_range HV.out hsl
        rw [hsq] at HLD
        simp only [Option.getD_some] at HLD
        obtain ⟨bb, off, rfl, hbb, x0⟩ := ints_at HIk.out (k := k) (x := (s : Int)) (by rw [List.getElem?_map, hs]; rfl)
        obtain ⟨bq, offq, hqA, hbq, q0⟩ := ints_at HGk.out.secs hsq
        have zbb := cell_lt x0
        have zbq := cell_lt q0
        simp only at zbb zbq
        have hkI : (k : Int) < rest.length := by omega
        have h0k : (0 : Int) ≤ k := by omega
        have hsI : (s : Int) < f.slips.length := by omega
        have h0s : (0 : Int) ≤ s := by omega
        have HOK : Hid (okF f m sec s = (m.testBit s && decide (sec + sq ≤ keyF f s))) := by unfold Hid okF; rw [hsq]; rfl
        have hlr : 20000000 * (rest.length : Int) ≥ 20000000 := by omega
        rw [hqA] at d0
        clear hs hsq hqA
        rcases hb1 : m.testBit s with _ | _
        · have HH := Lib.hid (setHas_is hb1 hm (by omega : s < 9))
          have HE2 : Hid (em ++ loopF f m to sec (rest.drop (k + 1)) = loopF f m to sec rest) := by
            unfold Hid
            rw [← HE.out, HLD.out, HOK.out, hb1]
            simp
          gi_wp2_with fail
          refine ⟨trivial, ?_⟩
          refine (callsIn_wide.2 (HH.out _)).mono ?_
          rintro e W1 ⟨rfl, hbh⟩
          have HJ1 : Hid (J (pre ++ em) W1) := abides_below hJ HJk.out hbh
          have HC1 : Hid (CS W W1) := HC.out.trans (cs_of_below hbh)
          gi_wp2_with fail
          refine ⟨fun _ h => (by cases h), ?_⟩
          gi_wp2_with fail
          go_roundw
          case rel => exact ⟨k + 1, em, by omega, by go_num, HE2, HJ1, HC1⟩
          case measure => simp [intOf]; omega
        · have HH := Lib.hid (setHas_is hb1 hm (by omega : s < 9))
          rcases hb2 : decide (sec + sq ≤ keyF f s) with _ | _
          · have HT := Lib.hid (fun W hW => inTime_is hsl hb2 W hW)
            have HE2 : Hid (em ++ loopF f m to sec (rest.drop (k + 1)) = loopF f m to sec rest) := by
              unfold Hid
              rw [← HE.out, HLD.out, HOK.out, hb1, hb2]
              simp
            gi_wp2_with fail
            refine ⟨trivial, ?_⟩
            refine (callsIn_wide.2 (HH.out _)).mono ?_
            rintro e W1 ⟨rfl, hbh⟩
            have i1 := cell_keep hbh i0
            have zI1 := cell_lt i1
            gi_wp2_with fail
            refine ⟨trivial, ?_⟩
            refine (callsIn_wide.2 (HT.out _ ((cs_of_below hbh).floor HGk.out.floor))).mono ?_
            rintro e W2 ⟨rfl, hbt⟩
            have HJ1 : Hid (J (pre ++ em) W2) := abides_below hJ HJk.out (gr_trans hbh hbt)
            have HC1 : Hid (CS W W2) := HC.out.trans (cs_of_below (gr_trans hbh hbt))
            gi_wp2_with fail
            go_roundw
            case rel => exact ⟨k + 1, em, by omega, by go_num, HE2, HJ1, HC1⟩
            case measure => simp [intOf]; omega
          · have HT := Lib.hid (fun W hW => inTime_is hsl hb2 W hW)
            have HE2 : Hid (em ++ (loopF f m (to ||| 2 ^ s) (sec + sq) (rest.drop (k + 1)) ++ loopF f m to sec (rest.drop (k + 1))) = loopF f m to sec rest) := by
              unfold Hid
              rw [← HE.out, HLD.out, HOK.out, hb1, hb2]
              simp
            have HW := Lib.hid (setWith_any to s hto (by omega : s < 9))
            have hto2 : to ||| 2 ^ s < 512 := Nat.or_lt_two_pow (n := 9) (by omega) (Nat.pow_lt_pow_right (by omega) (by omega))
            obtain ⟨t2, ht2⟩ : ∃ t2, t2 = to ||| 2 ^ s := ⟨_, rfl⟩
            rw [← ht2] at HW HE2 hto2
            have hkr : k + 1 ≤ rest.length := by omega
            obtain ⟨o2, ho2⟩ : ∃ o2, o2 = if cap = k + 1 then off else off + (k + 1) := ⟨_, rfl⟩
            have hif : (if cap = k + 1 then (some ⟨bb, off, none⟩ : Option Addr) else some ⟨bb, off + (k + 1), none⟩) = some ⟨bb, o2, none⟩ := by rw [ho2]; split <;> rfl
            have GIVE : Hid (∀ Wx : World, CS W Wx → J (pre ++ em) Wx → Calls Tryd.prog 118 #[vi t2, vi (sec + sq), .slice (some ⟨bb, o2, none⟩) (rest.length - (k + 1)) (cap - (k + 1)), .pointer (some ⟨pD, 0, none⟩), .pointer (some ⟨pS, 0, none⟩), .pointer (some ⟨pI, 0, none⟩), .pointer (some ⟨pG, 0, none⟩), .pointer (some ⟨pY, 0, none⟩)] Wx fun e W' =>
                ∃ b : Bool, e = .returned (.bool b) ∧ Hid ((b = true ∧ J (pre ++ em ++ loopF f m t2 (sec + sq) (rest.drop (k + 1))) W' ∧ CS Wx W') ∨ (b = false ∧ ∃ d x r, loopF f m t2 (sec + sq) (rest.drop (k + 1)) = d ++ x :: r ∧ Jx (pre ++ em ++ d ++ [x]) W'))) := fun Wx hc hj => by
              have hlen : (rest.drop (k + 1)).length = rest.length - (k + 1) := List.length_drop
              have h1 := IH.out (rest.drop (k + 1)).length (by rw [hlen, ← HQ.out]; omega) (rest.drop (k + 1)) t2 (sec + sq) (some ⟨bb, o2, none⟩) (cap - (k + 1)) (pre ++ em) Wx rfl hto2 (by omega) (by rw [hlen]; omega) (fun x hx => HRE.out x (List.mem_of_mem_drop hx)) (by rw [hlen]; omega) (HG.out.cs hc) (by
                have h7 := ints_drop (hc.rows HI.out) (k + 1) (by simpa using hkr)
                rw [← List.map_drop] at h7
                by_cases hck : cap = k + 1
                · have h8 : rest.drop (k + 1) = [] := List.drop_of_length_le (by omega)
                  rw [h8]
                  exact ⟨by simp, by omega, by simp, fun h => by simp at h⟩
                · rw [ho2, if_neg hck]
                  exact h7) hj (by
                have h2 := congrArg List.length HE2.out
                have h3 := HN.out
                simp only [List.length_append] at h2 h3 ⊢
                omega)
              rw [hlen] at h1
              exact h1
            have hkA : (0 : Int) ≤ (k : Int) + 1 := by omega
            have hwr : IntKind.wrap .i64 ((k : Int) + 1) = (k : Int) + 1 := wrapI (by omega) (by omega)
            have hkB : (k : Int) + 1 ≤ rest.length := by omega
            clear ho2 ht2
            gi_wp2_with fail
            refine ⟨trivial, ?_⟩
            refine (callsIn_wide.2 (HH.out _)).mono ?_
            rintro e W1 ⟨rfl, hbh⟩
            have i1 := cell_keep hbh i0
            have zI1 := cell_lt i1
            gi_wp2_with fail
            refine ⟨trivial, ?_⟩
            refine (callsIn_wide.2 (HT.out _ ((cs_of_below hbh).floor HGk.out.floor))).mono ?_
            rintro e W2 ⟨rfl, hbt⟩
            have hbb2 := gr_trans hbh hbt
            have HJ1 : Hid (J (pre ++ em) W2) := abides_below hJ HJk.out hbb2
            have HC1 : Hid (CS W W2) := HC.out.trans (cs_of_below hbb2)
            have g2 := cell_keep hbb2 g0
            have zG2 := cell_lt g2
            clear i1 zI1 hbh hbt d0 s0 i0 y0 x0 q0
            gi_wp2_with fail
            gi_region_with (first
              | (refine ⟨trivial, ?_⟩; gi_at_call 97; go_loud (refine (callsIn_wide.2 (HW.out _)).mono ?_; rintro e wq ⟨rfl, hbq⟩; have HBq : Below W2.heap.size W2 wq := (by (repeat (first | exact Below.refl _ _ | refine Below.setCell ?_ (by first | omega | (simp; omega) | (simp; done)) _ | refine Below.alloc ?_ (by first | omega | (simp; omega) | (simp; done)) _ | refine Below.drew ?_ | refine below_drewN ?_ _ | refine Below.trans ?_ (Below.mono (by assumption) (by first | omega | (simp; omega) | (simp; done)))))); have g3 : wq.cell? ⟨pG, 0, none⟩ = some (giveV pD pS pI pG pY) := cell_keep HBq g2; have zG3 : pG < wq.heap.size := cell_lt g3))
              | (refine ⟨trivial, ?_⟩; gi_at_call 118; go_loud (refine (callsIn_wide.2 (GIVE.out _ (HC1.out.trans (cs_of_below HBq)) (abides_below hJ HJ1.out HBq))).mono ?_; rintro e wv ⟨b, rfl, hT⟩)))
            all_goals
              rcases b with _ | _
              · have hT2 : Hid (∃ d x r, loopF f m to sec rest = d ++ x :: r ∧ Jx (pre ++ d ++ [x]) wv) := by
                  rcases hT.out with ⟨h, _⟩ | ⟨_, d, x, r, h1, h2⟩
                  · cases h
                  · refine ⟨em ++ d, x, r ++ loopF f m to sec (rest.drop (k + 1)), ?_, ?_⟩
                    · rw [← HE2.out, h1]; simp
                    · simpa using h2
                clear hT
                gi_wp2_with fail
                dsimp only [Exit.noGoto]
                go_ret
                exact ⟨false, rfl, .inr ⟨rfl, hT2.out⟩⟩
              · have hT2 : Hid (J (pre ++ (em ++ loopF f m t2 (sec + sq) (rest.drop (k + 1)))) wv ∧ CS W wv) := by
                  rcases hT.out with ⟨_, h1, h2⟩ | ⟨h, _⟩
                  · exact ⟨by simpa using h1, (HC1.out.trans (cs_of_below HBq)).trans h2⟩
                  · cases h
                have HE3 : Hid ((em ++ loopF f m t2 (sec + sq) (rest.drop (k + 1))) ++ loopF f m to sec (rest.drop (k + 1)) = loopF f m to sec rest) := by unfold Hid; rw [← HE2.out]; simp
                clear hT
                gi_wp2_with fail
                go_roundw
                case rel => exact ⟨k + 1, _, by omega, by go_num, HE3, hT2.out.1, hT2.out.2⟩
                case measure => simp [intOf]; omega
      · obtain rfl : k = rest.length := by omega
        have hd0 : rest.drop rest.length = [] := List.drop_length
        have HE2 := Lib.hid HE.out
        rw [hd0, loopF] at HE2
        clear hd0 HE
        by_cases hto0 : to = 0
        · have hdc : decide (to = 0) = true := by simpa using hto0
          have HJ9 : Hid (J (pre ++ loopF f m to sec rest) wr ∧ CS W wr) := by
            rw [if_pos hto0, List.append_nil] at HE2
            exact ⟨by rw [← HE2.out]; exact HJk.out, HC.out⟩
          clear HE2
          subst hto0
          gi_wp2_with fail
          refine ⟨fun _ h => (by cases h), ?_⟩
          gi_wp2_with fail
          dsimp only [Exit.noGoto]
          go_ret
          exact ⟨true, rfl, .inl ⟨rfl, HJ9.out.1, HJ9.out.2⟩⟩
        · have hdc : decide (to = 0) = false := by simpa using hto0
          have hToI : ¬ ((to : Int) = 0) := by omega
          rw [if_neg hto0] at HE2
          have HL : Hid (pre.length + em.length < N) := by
            have h1 := congrArg List.length HE2.out
            have h2 := HN.out
            simp at h1 h2
            unfold Hid
            omega
          obtain ⟨fn, tmps, assign, body, hy, hR⟩ := yield_any (m' := 5) (hY (pre ++ em) to wr hto HJk.out (by simpa using HL.out))
          gi_wp2_with fail
          refine hR.mono ?_
          clear hy
          rintro e W3 (⟨rfl, hJ3, hk3⟩ | ⟨rfl, hJx3⟩)
          · have HJ9 : Hid (J (pre ++ loopF f m to sec rest) W3 ∧ CS W W3) := by
              rw [← HE2.out]
              exact ⟨by simpa using hJ3, HC.out.trans hk3⟩
            clear hJ3 hk3
            gi_wp2_with fail
            dsimp only [Exit.noGoto]
            go_ret
            exact ⟨true, rfl, .inl ⟨rfl, HJ9.out.1, HJ9.out.2⟩⟩
          · have HJ9 : Hid (∃ d x r, loopF f m to sec rest = d ++ x :: r ∧ Jx (pre ++ d ++ [x]) W3) := ⟨em, to, [], HE2.out.symm, hJx3⟩
            clear hJx3
            gi_wp2_with fail
            dsimp only [Exit.noGoto]
            go_ret
            exact ⟨((to : Int) == 0), rfl, .inr ⟨by simpa using hto0, HJ9.out⟩⟩
end Go.Proofs.YtomgnpfpaodpiaaDoor
/- What given produces. -/
namespace Go.Proofs.YtomgnpfpaodpiaaDoor
open Go Go.RowKit Go.Shelf
set_option maxHeartbeats 2000000
attribute [local go_sem] Oper.semAt_some
def ordN (f : Floor) : List Nat := (orderF f).map Int.toNat
theorem order_mem {f : Floor} (h9 : f.slips.length ≤ 9) : ∀ x ∈ orderF f, 0 ≤ x ∧ x < f.slips.length := fun x hx => by
  unfold orderF at hx
  rw [isort_mem] at hx
  obtain ⟨y, hy, rfl⟩ := List.mem_map.1 hx
  rw [members_all ⟨f.slips.length, by omega⟩] at hy
  have h1 : y < f.slips.length := List.mem_range.1 hy
  omega
theorem order_len {f : Floor} (h9 : f.slips.length ≤ 9) : (orderF f).length = f.slips.length := by
  unfold orderF
  rw [isort_len, List.length_map, members_all ⟨f.slips.length, by omega⟩, List.length_range]
theorem natsC_ord {f : Floor} (h9 : f.slips.length ≤ 9) : natsC (ordN f) = orderF f := by
  unfold ordN
  rw [natsC, List.map_map]
  conv => rhs; rw [← List.map_id (orderF f)]
  apply List.map_congr_left
  intro x hx
  have := order_mem h9 x hx
  simp; omega
theorem ordN_mem {f : Floor} (h9 : f.slips.length ≤ 9) : ∀ s ∈ ordN f, s < f.slips.length := fun s hs => by
  obtain ⟨x, hx, rfl⟩ := List.mem_map.1 hs
  have := order_mem h9 x hx
  omega
theorem ordN_len {f : Floor} (h9 : f.slips.length ≤ 9) : (ordN f).length = f.slips.length := by rw [ordN, List.length_map, order_len h9]
/-- all sets that one picker can be given, in the desk's order -/
def givenF (f : Floor) (m : Nat) : List Nat := loopF f m 0 0 (ordN f)
abbrev Sub9 := { x : Nat // x < 512 }
abbrev encN (x : Sub9) : Array Value := #[vi x.1]
abbrev Subs (ys : List Sub9) : List Nat := ys.map Subtype.val
/-- what given holds -/
structure GivenAt (w : World) (f : Floor) (m : Nat) (oA qA : Option Addr) (oC qC bm pD pS pI : Nat) : Prop where
  desk : CellsBox w pD 108 (deskC f oA oC qA f.slips.length qC bm)
  slips : CellsBox w pS 113 [vi m]
  fn : CellsBox w pI 130 [inTimeV f]
  floor : FloorAt w w.heap.size f
  ord : IntsAt w w.heap.size oA oC (orderF f)
  secs : IntsAt w w.heap.size qA f.slips.length (secsL f)
theorem GivenAt.cs {w w' : World} {f : Floor} {m : Nat} {oA qA : Option Addr} {oC qC bm pD pS pI : Nat} (h : GivenAt w f m oA qA oC qC bm pD pS pI) (hc : CS w w') : GivenAt w' f m oA qA oC qC bm pD pS pI :=
  ⟨hc.box h.desk, hc.box h.slips, hc.box h.fn, hc.floor h.floor, hc.rows h.ord, hc.rows h.secs⟩
set_option maxRecDepth 100000 in
theorem given_seq (f : Floor) (hv : validB f = true) (m : Nat) (hm : m < 512) (oA qA : Option Addr) (oC qC bm pD pS pI : Nat) (w : World) (hA : GivenAt w f m oA qA oC qC bm pD pS pI) (n : Nat) :
    SeqStopsK Fence.wide n Tryd.prog 117 #[.pointer (some ⟨pD, 0, none⟩), .pointer (some ⟨pS, 0, none⟩), .pointer (some ⟨pI, 0, none⟩)] encN CS (fun ys => Subs ys = givenF f m) (fun pre => ∃ d x r, givenF f m = d ++ x :: r ∧ Subs pre = d ++ [x]) (givenF f m).length w := by
  intro l J' Jx' W hW hJ' hJx' hY' h0'
  obtain ⟨J, hJe⟩ : ∃ J : List Nat → World → Prop, J = fun pre X => ∃ ys, Subs ys = pre ∧ J' ys X := ⟨_, rfl⟩
  obtain ⟨Jx, hJxe⟩ : ∃ Jx : List Nat → World → Prop, Jx = fun pre X => ∃ ys, Subs ys = pre ∧ Jx' ys X := ⟨_, rfl⟩
  have hJ : AbidesFrom W.heap.size J := by
    rw [hJe]
    rintro s X Y row ⟨ys, h1, h2⟩ hg hr
    exact ⟨ys, h1, hJ' ys X Y row h2 hg hr⟩
  have h0 : J [] W := by rw [hJe]; exact ⟨[], rfl, h0'⟩
  have hY : ∀ (pre : List Nat) (x : Nat) (W1 : World), x < 512 → J pre W1 → pre.length < (givenF f m).length → YieldAt Fence.wide 0 Tryd.prog l #[vi x] W1 fun e W' => (e = .returned (.bool true) ∧ J (pre ++ [x]) W' ∧ CS W1 W') ∨ (e = .returned (.bool false) ∧ Jx (pre ++ [x]) W') := by
    rintro pre x W1 hx hj hl
    rw [hJe] at hj
    obtain ⟨ys, rfl, h2⟩ := hj
    obtain ⟨fn, tmps, assign, body, hy, hR⟩ := yield_any (m' := 0) (hY' ys ⟨x, hx⟩ W1 h2 (by simpa [Subs] using hl))
    refine ⟨fn, tmps, assign, body, hy, hR.mono ?_⟩
    rintro e W' (⟨h3, h4, h5⟩ | ⟨h3, h4⟩)
    · exact .inl ⟨h3, by rw [hJe]; exact ⟨ys ++ [⟨x, hx⟩], by simp [Subs], h4⟩, h5⟩
    · exact .inr ⟨h3, by rw [hJxe]; exact ⟨ys ++ [⟨x, hx⟩], by simp [Subs], h4⟩⟩
  have h9 := (fine hv).slips9
  have HA := Lib.hid (hA.cs (cs_of_below hW))
  have GV := Lib.hid (fun (pG pY : Nat) (W1 : World) hb hg => give_any f hv m hm oA qA oC qC bm pD pS pI pG pY l (givenF f m).length W.heap.size J Jx hJ hY (ordN f).length (ordN f) 0 0 oA oC [] W1 rfl (by omega) (by omega) (by rw [ordN_len h9]; omega) (ordN_mem h9) (by rw [ordN_len h9]; omega) hg (by rw [natsC_ord h9]; exact ((hA.cs (cs_of_below hW)).cs (cs_of_below hb)).ord) (abides_below hJ h0 hb) (by simp [givenF]))
  have hlen : (ordN f).length = f.slips.length := ordN_len h9
  rw [hlen] at GV
  simp only [List.nil_append] at GV
  have HJE := Lib.hid hJe
  have HJXE := Lib.hid hJxe
  clear hlen hA hY hW h0 hY' h0' hJe hJxe
  have f6 := HA.out.desk.cell (j := 6) rfl
  have zD := HA.out.desk.lt
  refine (callsIn_wide (n := n)).2 ?_
  refine (callsIn_wide (n := 6)).1 ?_
  refine callsIn_of_wp Tryd.func117 rfl trivial ?_ rfl
  simp only [Tryd.ntmps117, List.size_toArray, List.length_cons, List.length_nil, Nat.reduceAdd, Nat.reduceSub, Array.replicate_succ, Array.replicate_zero, List.push_toArray, List.append_toArray, List.nil_append, List.cons_append]
  gi_wp2_with fail
  refine ⟨trivial, ?_⟩
  have X1 := (CellsBox.new W 158 [.func (.yield l) #[] #[]]).alloc (.cells #[giveV pD pS pI (W.heap.size + 1) W.heap.size] 159)
  have X2 := CellsBox.new (W.alloc (.cells #[.func (.yield l) #[] #[]] 158)) 159 [giveV pD pS pI (W.heap.size + 1) W.heap.size]
  rw [World.size_alloc] at X2
  have hb : Below W.heap.size W ((W.alloc (.cells #[.func (.yield l) #[] #[]] 158)).alloc (.cells #[giveV pD pS pI (W.heap.size + 1) W.heap.size] 159)) := by (repeat (first | exact Below.refl _ _ | refine Below.setCell ?_ (by first | omega | (simp; omega) | (simp; done)) _ | refine Below.alloc ?_ (by first | omega | (simp; omega) | (simp; done)) _ | refine Below.drew ?_ | refine below_drewN ?_ _ | refine Below.trans ?_ (Below.mono (by assumption) (by first | omega | (simp; omega) | (simp; done)))))
  have hA2 := HA.out.cs (cs_of_below hb)
  refine (callsIn_wide.2 (GV.out (W.heap.size + 1) W.heap.size _ hb ⟨hA2.desk, hA2.slips, hA2.fn, X2, X1, hA2.floor, hA2.secs⟩)).mono ?_
  rintro e W9 ⟨b, rfl, hT⟩
  have HT := Lib.hid hT
  clear hT X1 X2 hb hA2
  gi_wp2_with fail
  go_end0
  refine ⟨⟨_, rfl⟩, ?_⟩
  rcases HT.out.out with ⟨_, h1, h2⟩ | ⟨_, d, x, r, h1, h2⟩
  · rw [HJE.out] at h1
    obtain ⟨ys, h3, h4⟩ := h1
    exact .inl ⟨ys, h3, h4⟩
  · rw [HJXE.out] at h2
    obtain ⟨ys, h3, h4⟩ := h2
    exact .inr ⟨ys, ⟨d, x, r, h1, h3⟩, h4⟩
abbrev givenV (pD pS pI : Nat) : Value := .func (.func 117) #[] #[.pointer (some ⟨pD, 0, none⟩), .pointer (some ⟨pS, 0, none⟩), .pointer (some ⟨pI, 0, none⟩)]
theorem given_any (f : Floor) (m : Nat) (oA qA : Option Addr) (oC qC bm : Nat) (w : World) (hF : FloorAt w w.heap.size f) (hO : IntsAt w w.heap.size oA oC (orderF f)) (hQ : IntsAt w w.heap.size qA f.slips.length (secsL f)) :
    Calls Tryd.prog 108 #[.agg (deskC f oA oC qA f.slips.length qC bm).toArray, vi m, inTimeV f] w fun e w' => ∃ pD pS pI, e = .returned (givenV pD pS pI) ∧ GivenAt w' f m oA qA oC qC bm pD pS pI ∧ Below w.heap.size w w' := by
  have HF := Lib.hid hF
  have HO := Lib.hid hO
  have HQ := Lib.hid hQ
  clear hF hO hQ
  show Calls Tryd.prog 108 #[.agg #[.slice f.fA f.far.length f.fC, vi f.slo, vi f.shi, .slice f.pA f.picks.length f.pC, vi f.carry, .slice f.sA f.slips.length f.sC, .slice oA f.slips.length oC, .slice qA f.slips.length qC, .map (some bm)], vi m, inTimeV f] w _
  go_enter Tryd.func108, Tryd.ntmps108
  have X1 := ((CellsBox.new w 108 (deskC f oA oC qA f.slips.length qC bm)).alloc (.cells #[vi m] 113)).alloc (.cells #[inTimeV f] 130)
  have X2 := (CellsBox.new (w.alloc (.cells (deskC f oA oC qA f.slips.length qC bm).toArray 108)) 113 [vi m]).alloc (.cells #[inTimeV f] 130)
  have X3 := CellsBox.new ((w.alloc (.cells (deskC f oA oC qA f.slips.length qC bm).toArray 108)).alloc (.cells #[vi m] 113)) 130 [inTimeV f]
  simp only [World.size_alloc] at X2 X3
  have HX1 := Lib.hid X1
  have HX2 := Lib.hid X2
  have HX3 := Lib.hid X3
  have hb : Below w.heap.size w (((w.alloc (.cells (deskC f oA oC qA f.slips.length qC bm).toArray 108)).alloc (.cells #[vi m] 113)).alloc (.cells #[inTimeV f] 130)) := by (repeat (first | exact Below.refl _ _ | refine Below.setCell ?_ (by first | omega | (simp; omega) | (simp; done)) _ | refine Below.alloc ?_ (by first | omega | (simp; omega) | (simp; done)) _ | refine Below.drew ?_ | refine below_drewN ?_ _ | refine Below.trans ?_ (Below.mono (by assumption) (by first | omega | (simp; omega) | (simp; done)))))
  have HB := Lib.hid hb
  clear X1 X2 X3 hb
  go_wp2_with fail
  go_ret
  exact ⟨_, _, _, rfl, ⟨HX1.out, HX2.out, HX3.out, HF.out.to HB.out, HO.out.to HB.out, HQ.out.to HB.out⟩, HB.out⟩
end Go.Proofs.YtomgnpfpaodpiaaDoor
/- The map from a crew to what one of its pickers is given. -/
namespace Go.Proofs.YtomgnpfpaodpiaaDoor
open Go Go.RowKit
set_option maxHeartbeats 1000000
abbrev crewV (m p : Nat) : Value := .agg #[vi m, vi p]
structure CE where
  m : Nat
  p : Nat
  g : Nat
  born : Nat
def CE.entry (q : CE) : MapEntry := ⟨crewV q.m q.p, vi q.g, q.born⟩
def CE.is (m p : Nat) (q : CE) : Bool := m == q.m && p == q.p
def CrewMap (w : World) (b : Nat) (f : Nat → Nat → Option Nat) : Prop :=
  ∃ (L : List CE) (clock : Nat), w.heap[b]? = some (.map (L.map CE.entry).toArray clock) ∧ ∀ m p, f m p = (L.find? (CE.is m p)).map CE.g
theorem CrewMap.keep {w w' : World} {b : Nat} {f : Nat → Nat → Option Nat} (h : CrewMap w b f) (hb : w'.heap[b]? = w.heap[b]?) : CrewMap w' b f := by
  obtain ⟨L, c, h1, h2⟩ := h
  exact ⟨L, c, hb.trans h1, h2⟩
theorem CrewMap.lt {w : World} {b : Nat} {f : Nat → Nat → Option Nat} (h : CrewMap w b f) : b < w.heap.size := by
  obtain ⟨es, c, h1, _⟩ := h
  exact (Array.getElem?_eq_some_iff.1 h1).1
theorem CrewMap.below {w w' : World} {b : Nat} {f : Nat → Nat → Option Nat} (h : CrewMap w b f) (hb : Below w.heap.size w w') : CrewMap w' b f := h.keep (hb.block b h.lt)
theorem CrewMap.new {w : World} {b : Nat} (h : w.heap[b]? = some (.map #[] 0)) : CrewMap w b fun _ _ => none := ⟨[], 0, h, by simp⟩
theorem equal_crew (w : World) (a b c d : Nat) : (Op.equal 116 (crewV a b) (crewV c d)).run Tryd.prog w = .ok (a == c && b == d) w := by
  simp [Op.equal, Op.maxDepth, go_sem]
  have e1 : ((a : Int) = c) = (a = c) := propext (by omega)
  have e2 : ((b : Int) = d) = (b = d) := propext (by omega)
  simp only [e1, e2]
  by_cases h1 : a = c <;> by_cases h2 : b = d <;> simp [h1, h2]
theorem check_crew (e : Bool) (w : World) (a b : Nat) : (Instr.checkKey e 10000 116 (crewV a b)).run Tryd.prog w = .ok () w := by kernel_rfl
theorem ask_crew (w : World) (m p : Nat) (L : List CE) : ∀ k : Nat, ∃ r, (Instr.findAsking 116 (crewV m p) (L.map CE.entry) k).run Tryd.prog w = .ok r w ∧ r.map Prod.snd = (L.find? (CE.is m p)).map (fun q => vi q.g) ∧ r.map Prod.fst = (L.findIdx? (CE.is m p)).map (· + k) := by
  induction L with
  | nil => intro k; exact ⟨none, rfl, rfl, rfl⟩
  | cons q L ih =>
    intro k
    simp only [List.map_cons, Instr.findAsking, Sem.run_bind, CE.entry, equal_crew, Result.andThen]
    by_cases hq : (m == q.m && p == q.p) = true
    · refine ⟨some (k, vi q.g), by simp [hq], by simp [List.find?_cons, CE.is, hq], by simp [List.findIdx?_cons, CE.is, hq]⟩
    · have hq' : (m == q.m && p == q.p) = false := by simpa using hq
      obtain ⟨r, h1, h2, h3⟩ := ih (k + 1)
      refine ⟨r, by simpa [hq'] using h1, by simpa [List.find?_cons, CE.is, hq'] using h2, ?_⟩
      rw [h3, List.findIdx?_cons]
      simp only [CE.is, hq']
      cases L.findIdx? (CE.is m p) <;> simp [Function.comp]
      omega
theorem under_crew : Tryd.prog.underlying 116 = some (.struct (Tryd.prog.fieldsOf 116)) := by kernel_rfl
theorem find_crew (w : World) (m p : Nat) (L : List CE) : ∃ r, (Instr.findKey 116 (crewV m p) (L.map CE.entry)).run Tryd.prog w = .ok r w ∧ r.map Prod.snd = (L.find? (CE.is m p)).map (fun q => vi q.g) ∧ r.map Prod.fst = L.findIdx? (CE.is m p) := by
  cases L with
  | nil => exact ⟨none, by kernel_rfl, rfl, rfl⟩
  | cons q L =>
    obtain ⟨r, h1, h2, h3⟩ := ask_crew w m p (q :: L) 0
    refine ⟨r, ?_, h2, by simpa using h3⟩
    rw [← h1]
    simp only [Instr.findKey, Sem.run_bind, run_underlying under_crew, Result.andThen, List.map_cons, Instr.findNow, Instr.sameNow]
theorem look_crew {w : World} {b : Nat} {f : Nat → Nat → Option Nat} (h : CrewMap w b f) (m p : Nat) (ok : Bool) :
    (Instr.lookup 106 (.map (some b)) (crewV m p) ok).run Tryd.prog w = .ok (if ok then .tuple #[vi (((f m p).getD 0 : Nat)), .bool (f m p).isSome] else vi (((f m p).getD 0 : Nat))) w := by
  obtain ⟨L, c, h1, h2⟩ := h
  obtain ⟨r, h3, h4, _⟩ := find_crew w m p L
  have hu : Tryd.prog.underlying 106 = some (.map 116 113) := by kernel_rfl
  have hz : (zeroValue 113).run Tryd.prog w = .ok (vi 0) w := by kernel_rfl
  rw [h2]
  rcases r with _ | ⟨k, v⟩
  · have hf : L.find? (CE.is m p) = none := by simpa using h4.symm
    rw [hf]
    simp [Instr.lookup, run_underlying hu, getObj, Sem.run, h1, check_crew, h3, hz, Result.andThen]
  · cases hf : L.find? (CE.is m p) with
    | none => rw [hf] at h4; cases h4
    | some q =>
      rw [hf] at h4
      obtain rfl : v = vi q.g := by simpa using h4
      simp [Instr.lookup, run_underlying hu, getObj, Sem.run, h1, check_crew, h3, hz, Result.andThen]
def CE.put (g : Nat) (q : CE) : CE := { q with g := g }
theorem same_crew (a b : Nat) (w : World) : (Instr.keyThatStays (crewV a b) (crewV a b)).run Tryd.prog w = .ok (crewV a b) w := by
  simp [Instr.keyThatStays, Instr.sameBits]
theorem idx_is {p : CE → Bool} : ∀ {L : List CE} {k : Nat}, L.findIdx? p = some k → ∃ q, L[k]? = some q ∧ p q = true
  | [], k, h => by simp at h
  | q :: L, k, h => by
    rw [List.findIdx?_cons] at h
    by_cases hq : p q = true
    · rw [if_pos hq] at h; cases h; exact ⟨q, rfl, hq⟩
    · have hq' : p q = false := by simpa using hq
      rw [hq'] at h
      simp only [Bool.false_eq_true, if_false] at h
      obtain ⟨i, hi, rfl⟩ := Option.map_eq_some_iff.1 h
      obtain ⟨q', h1, h2⟩ := idx_is hi
      exact ⟨q', by simpa using h1, h2⟩
theorem put_entry (g : Nat) : ∀ (L : List CE) (k m p : Nat), (∃ q, L[k]? = some q ∧ CE.is m p q = true) → (L.map CE.entry).modify k (fun e => { e with key := crewV m p, val := vi g }) = (L.modify k (CE.put g)).map CE.entry
  | [], k, m, p, h => by obtain ⟨q, h1, _⟩ := h; simp at h1
  | q :: L, 0, m, p, h => by
    obtain ⟨q', h1, h2⟩ := h
    simp at h1; subst h1
    simp only [CE.is, Bool.and_eq_true, beq_iff_eq] at h2
    obtain ⟨rfl, rfl⟩ := h2
    simp [CE.entry, CE.put]
  | q :: L, k + 1, m, p, h => by
    have ih := put_entry g L k m p (by simpa using h)
    simp only [List.map_cons, List.modify_succ_cons, ih]
theorem find_put (m p g : Nat) : ∀ (L : List CE) (k : Nat), L.findIdx? (CE.is m p) = some k → ∀ m' p', ((L.modify k (CE.put g)).find? (CE.is m' p')).map CE.g = if m' = m ∧ p' = p then some g else (L.find? (CE.is m' p')).map CE.g
  | [], k, h => by simp at h
  | q :: L, k, h => by
    intro m' p'
    rw [List.findIdx?_cons] at h
    by_cases hq : CE.is m p q = true
    · rw [if_pos hq] at h
      cases h
      have hq2 := hq
      simp only [CE.is, Bool.and_eq_true, beq_iff_eq] at hq2
      simp only [List.modify_zero_cons, List.find?_cons]
      by_cases e : m' = m ∧ p' = p
      · obtain ⟨rfl, rfl⟩ := e
        have : CE.is m' p' (CE.put g q) = true := hq
        rw [this]
        simp [CE.put]
      · rw [if_neg e]
        have h1 : CE.is m' p' q = false := by simp [CE.is]; omega
        have h2 : CE.is m' p' (CE.put g q) = false := h1
        rw [h1, h2]
    · have hq' : CE.is m p q = false := by simpa using hq
      rw [hq'] at h
      simp only [Bool.false_eq_true, if_false] at h
      obtain ⟨i, hi, rfl⟩ := Option.map_eq_some_iff.1 h
      have ih := find_put m p g L i hi m' p'
      simp only [List.modify_succ_cons, List.find?_cons]
      cases hc : CE.is m' p' q with
      | false => simpa using ih
      | true =>
        have : ¬ (m' = m ∧ p' = p) := by
          rintro ⟨rfl, rfl⟩
          rw [hq'] at hc; cases hc
        rw [if_neg this]
theorem store_crew {w : World} {b : Nat} {f : Nat → Nat → Option Nat} (h : CrewMap w b f) (m p g : Nat) :
    ∃ w2, (Instr.mapUpdate 106 (.map (some b)) (crewV m p) (vi g)).run Tryd.prog w = .ok () w2 ∧ CrewMap w2 b (fun m' p' => if m' = m ∧ p' = p then some g else f m' p') ∧ CS w w2 ∧ w2.heap.size = w.heap.size ∧ ∀ k, k ≠ b → w2.heap[k]? = w.heap[k]? := by
  obtain ⟨L, c, h1, h2⟩ := h
  obtain ⟨r, h3, h4, h5⟩ := find_crew w m p L
  have hb : b < w.heap.size := (Array.getElem?_eq_some_iff.1 h1).1
  have hu : Tryd.prog.underlying 106 = some (.map 116 113) := by kernel_rfl
  have cs : ∀ o : Obj, CS w { w with heap := w.heap.setIfInBounds b o } ∧ ∀ k, k ≠ b → ({ w with heap := w.heap.setIfInBounds b o } : World).heap[k]? = w.heap[k]? := fun o => by
    have hk : ∀ k, k ≠ b → ({ w with heap := w.heap.setIfInBounds b o } : World).heap[k]? = w.heap[k]? := fun k hk => by simp [Array.getElem?_setIfInBounds]; omega
    refine ⟨⟨rfl, rfl, rfl, by simp, fun k cc t z hc => ?_⟩, hk⟩
    have hne : k ≠ b := by rintro rfl; rw [h1] at hc; cases hc
    exact (hk k hne).trans hc
  rcases r with _ | ⟨k, v⟩
  · have hf : L.find? (CE.is m p) = none := by simpa using h4.symm
    refine ⟨{ w with heap := w.heap.setIfInBounds b (.map ((L ++ [(⟨m, p, g, c⟩ : CE)]).map CE.entry).toArray (c + 1)) }, ?_, ⟨L ++ [⟨m, p, g, c⟩], c + 1, by simp [hb], ?_⟩, (cs _).1, by simp, (cs _).2⟩
    · simp [Instr.mapUpdate, run_underlying hu, getObj, setObj, Sem.run, h1, check_crew, h3, Result.andThen, CE.entry]
    · intro m' p'
      show (if m' = m ∧ p' = p then some g else f m' p') = _
      rw [List.find?_append, h2]
      by_cases hq : m' = m ∧ p' = p
      · obtain ⟨rfl, rfl⟩ := hq
        simp [hf, CE.is]
      · have : CE.is m' p' ⟨m, p, g, c⟩ = false := by simp [CE.is]; omega
        simp [hq, this]
  · simp only [Option.map_some] at h5
    refine ⟨{ w with heap := w.heap.setIfInBounds b (.map ((L.modify k (CE.put g)).map CE.entry).toArray c) }, ?_, ⟨L.modify k (CE.put g), c, by simp [hb], fun m' p' => ?_⟩, (cs _).1, by simp, (cs _).2⟩
    · simp [Instr.mapUpdate, run_underlying hu, getObj, setObj, Sem.run, h1, check_crew, h3, Result.andThen, CE.entry]
      obtain ⟨q, hq, hqi⟩ := idx_is h5.symm
      have hq2 := hqi
      simp only [CE.is, Bool.and_eq_true, beq_iff_eq] at hq2
      have he := put_entry g L k m p ⟨q, hq, hqi⟩
      rw [hq]
      simp only [Option.map_some, Function.comp, CE.entry, Option.getD_some, ← hq2.1, ← hq2.2, same_crew, h1, he]
    · show (if m' = m ∧ p' = p then some g else f m' p') = _
      rw [find_put m p g L k h5.symm m' p', h2]
end Go.Proofs.YtomgnpfpaodpiaaDoor
