/- A floor without some slips: plain mathematics. -/
import Derived.Test.YtomgnpfpaodpiaaDoorH53
import Derived.Test.YtomgnpfpaodpiaaDoorH51
import Derived.Test.YtomgnpfpaodpiaaDoorH38
import Derived.Test.YtomgnpfpaodpiaaDoorH49
set_option linter.unusedVariables false
set_option linter.unusedSimpArgs false
namespace Go.Proofs.YtomgnpfpaodpiaaDoor
open Go Go.RowKit
set_option maxHeartbeats 2000000
/-- which of the first slips are not in a list -/
def idxK (L : List Int) : Nat → List Nat
  | 0 => []
  | k + 1 => idxK L k ++ (if (k : Int) ∈ L then [] else [k])
def keepK (f : Floor) (L : List Int) (k : Nat) : List SSlip := (idxK L k).filterMap fun i => f.slips[i]?
def leaveF (f : Floor) (L : List Int) (A : Option Addr) (C : Nat) : Floor := { f with sA := A, sC := C, slips := keepK f L f.slips.length }
theorem idxK_mem (L : List Int) (t : Nat) : ∀ k : Nat, t ∈ idxK L k ↔ t < k ∧ (t : Int) ∉ L
  | 0 => by simp [idxK]
  | k + 1 => by
    rw [idxK, List.mem_append, idxK_mem L t k]
    by_cases h : (k : Int) ∈ L
    · rw [if_pos h]
      constructor
      · rintro (⟨h1, h2⟩ | h1)
        · exact ⟨by omega, h2⟩
        · cases h1
      · rintro ⟨h1, h2⟩
        by_cases e : t = k
        · subst e; exact absurd h h2
        · exact .inl ⟨by omega, h2⟩
    · rw [if_neg h, List.mem_singleton]
      constructor
      · rintro (⟨h1, h2⟩ | rfl)
        · exact ⟨by omega, h2⟩
        · exact ⟨by omega, h⟩
      · rintro ⟨h1, h2⟩
        by_cases e : t = k
        · exact .inr e
        · exact .inl ⟨by omega, h2⟩
theorem idxK_lt (L : List Int) : ∀ k : Nat, (idxK L k).Pairwise (· < ·)
  | 0 => by simp [idxK]
  | k + 1 => by
    rw [idxK, List.pairwise_append]
    refine ⟨idxK_lt L k, by split <;> simp, fun a ha b hb => ?_⟩
    have h1 := ((idxK_mem L a k).1 ha).1
    split at hb <;> simp at hb
    omega
theorem idxK_len (L : List Int) : ∀ k : Nat, (idxK L k).length ≤ k
  | 0 => by simp [idxK]
  | k + 1 => by
    have := idxK_len L k
    rw [idxK, List.length_append]
    split <;> simp <;> omega
theorem filterMap_some {α β : Type} (g : α → Option β) : ∀ (l : List α), (∀ a ∈ l, (g a).isSome = true) → ∀ j : Nat, (l.filterMap g)[j]? = (l[j]?).bind g
  | [], _, j => by simp
  | a :: l, h, j => by
    obtain ⟨b, hb⟩ := Option.isSome_iff_exists.1 (h a (by simp))
    rw [List.filterMap_cons_some hb]
    cases j with
    | zero => simp [hb]
    | succ j => simpa using filterMap_some g l (fun x hx => h x (by simp [hx])) j
theorem keepK_at {f : Floor} {L : List Int} {k : Nat} (hk : k ≤ f.slips.length) (j : Nat) : (keepK f L k)[j]? = ((idxK L k)[j]?).bind fun i => f.slips[i]? :=
  filterMap_some _ _ (fun a ha => by
    have := ((idxK_mem L a k).1 ha).1
    rw [List.getElem?_eq_getElem (by omega)]
    rfl) j
theorem keepK_len {f : Floor} {L : List Int} {k : Nat} (hk : k ≤ f.slips.length) : (keepK f L k).length = (idxK L k).length := by
  apply Nat.le_antisymm
  · exact List.length_filterMap_le _ _
  · apply Classical.byContradiction
    intro hn
    have h1 := keepK_at hk (L := L) (keepK f L k).length
    rw [List.getElem?_eq_none (Nat.le_refl _), List.getElem?_eq_getElem (by omega)] at h1
    have := ((idxK_mem L _ k).1 (List.getElem_mem (show (keepK f L k).length < (idxK L k).length by omega))).1
    simp only [Option.bind_some] at h1
    rw [List.getElem?_eq_getElem (by omega)] at h1
    cases h1
theorem keepK_succ {f : Floor} {L : List Int} {k : Nat} {s : SSlip} (hs : f.slips[k]? = some s) : keepK f L (k + 1) = keepK f L k ++ (if (k : Int) ∈ L then [] else [s]) := by
  unfold keepK
  rw [idxK, List.filterMap_append]
  congr 1
  split
  · rfl
  · simp [hs]
theorem keepK_mem {f : Floor} {L : List Int} {k : Nat} {s : SSlip} (h : s ∈ keepK f L k) : s ∈ f.slips := by
  unfold keepK at h
  obtain ⟨i, _, hi⟩ := List.mem_filterMap.1 h
  exact List.mem_of_getElem? hi
theorem place_neg (L : List Int) (n : Int) : placeF L n < 0 ↔ n ∉ L := by
  unfold placeF
  cases h : L.findIdx? fun e => e == n with
  | none =>
    rw [List.findIdx?_eq_none_iff] at h
    simp only
    constructor
    · intro _ hm
      have := h n hm
      simp at this
    · intro _; omega
  | some k =>
    simp only
    constructor
    · intro hk; omega
    · intro hm
      exfalso
      obtain ⟨hk, hp, _⟩ := List.findIdx?_eq_some_iff_getElem.1 h
      exact hm (by have : L[k] = n := by simpa using hp
                   rw [← this]; exact List.getElem_mem hk)
/- the same numbers -/
theorem without_valid {f : Floor} (hv : validB f = true) (L : List Int) (A : Option Addr) (C : Nat) : validB (leaveF f L A C) = true := by
  have hp := valid_parts hv
  unfold validB at hv ⊢
  simp only [Bool.and_eq_true] at hv ⊢
  obtain ⟨⟨⟨⟨v1, v2⟩, v3⟩, v4⟩, v5⟩ := hv
  refine ⟨⟨⟨⟨v1, v2⟩, v3⟩, ?_⟩, ?_⟩
  · rw [hasB_iff] at v4 ⊢
    have h1 : (leaveF f L A C).slips.length ≤ f.slips.length := by
      show (keepK f L f.slips.length).length ≤ _
      rw [keepK_len (Nat.le_refl _)]
      exact idxK_len L _
    omega
  · rw [List.all_eq_true] at v5 ⊢
    intro j hj
    rw [List.mem_range] at hj
    obtain ⟨s, hs⟩ : ∃ s, (leaveF f L A C).slips[j]? = some s := ⟨_, List.getElem?_eq_getElem hj⟩
    rw [goodSlip_of hs]
    obtain ⟨i, hi, his⟩ := List.mem_iff_getElem.1 (keepK_mem (List.mem_of_getElem? hs))
    have := v5 i (List.mem_range.2 hi)
    rw [goodSlip_of (List.getElem?_eq_getElem hi), his] at this
    exact this
theorem leave_hi (f : Floor) (L : List Int) (A : Option Addr) (C : Nat) (l : List SLine) (st : Int) : ∀ n, secsKHi (leaveF f L A C) l st n = secsKHi f l st n
  | 0 => rfl
  | n + 1 => by rw [secsKHi, secsKHi, leave_hi f L A C l st n]; rfl
theorem leave_takes (f : Floor) (L : List Int) (A : Option Addr) (C : Nat) (s : SSlip) : (takesF (leaveF f L A C) s).2 = (takesF f s).2 := by
  have e : stepsF (leaveF f L A C) s = stepsF f s := by unfold stepsF; rfl
  show secsKHi _ _ _ _ = secsKHi _ _ _ _
  rw [e, leave_hi]
theorem get_inj {l : List Nat} (h : l.Pairwise (· < ·)) {i j : Nat} (hi : i < l.length) (hj : j < l.length) (e : l[i] = l[j]) : i = j := by
  rw [List.pairwise_iff_getElem] at h
  rcases Nat.lt_trichotomy i j with k | k | k
  · have := h i j hi hj k; omega
  · exact k
  · have := h j i hj hi k; omega
theorem without_sec {f : Floor} {L : List Int} {A : Option Addr} {C : Nat} {s i : Nat} (hi : (idxK L f.slips.length)[s]? = some i) : secF (leaveF f L A C) s = secF f i ∧ dueF (leaveF f L A C) s = dueF f i := by
  have hil : i < f.slips.length := ((idxK_mem L i _).1 (List.mem_of_getElem? hi)).1
  have hs : f.slips[i]? = some f.slips[i] := List.getElem?_eq_getElem hil
  have hx : (leaveF f L A C).slips[s]? = some f.slips[i] := by
    show (keepK f L f.slips.length)[s]? = _
    rw [keepK_at (Nat.le_refl _), hi]
    exact hs
  rw [secF_at hs, secF_at hx, dueF_at hs, dueF_at hx]
  exact ⟨leave_takes f L A C _, rfl⟩
/-- the others can without those that are left out, just if the floor that is left can -/
theorem without_can {f : Floor} (hv : validB f = true) {L : List Int} (hL : ∀ x ∈ L, 0 ≤ x) (A : Option Addr) (C p : Nat) : canF (leaveF f L A C) p (allF (leaveF f L A C)) = canLess f p L := by
  have hvx := without_valid hv L A C
  have hlen : (leaveF f L A C).slips.length = (idxK L f.slips.length).length := keepK_len (Nat.le_refl _)
  have hin : ∀ i, (lessF (allF f) (setF (L.map Int.toNat))).testBit i = true ↔ i ∈ idxK L f.slips.length := fun i => by
    rw [less_late, idxK_mem]
    refine and_congr_right fun _ => not_congr ?_
    rw [List.mem_map]
    constructor
    · rintro ⟨x, hx, rfl⟩
      have := hL x hx
      rw [show ((x.toNat : Nat) : Int) = x by omega]; exact hx
    · intro h
      exact ⟨_, h, by simp⟩
  have hbx : ∀ s, (allF (leaveF f L A C)).testBit s = true ↔ s < (idxK L f.slips.length).length := fun s => by rw [all_bit, hlen, decide_eq_true_eq]
  have hnd : (idxK L f.slips.length).Nodup := (idxK_lt L _).imp (fun h => by omega)
  unfold canLess
  rw [Bool.eq_iff_iff, can_fit hvx p _ (all_in _), can_fit hv p _ (fun i hi => ((idxK_mem L i _).1 ((hin i).1 hi)).1)]
  unfold FitF
  have key : ∀ s, s < (idxK L f.slips.length).length → (idxK L f.slips.length)[s]? = some ((idxK L f.slips.length)[s]?.getD 0) := fun s hs => by
    rw [List.getElem?_eq_getElem hs]; rfl
  constructor
  · refine PM.fit_image (φ := fun s => (idxK L f.slips.length)[s]?.getD 0) (fun s t hs ht e => ?_) (fun s hs => ?_) (fun t => ?_)
    · rw [hbx] at hs ht
      simp only [List.getElem?_eq_getElem hs, List.getElem?_eq_getElem ht, Option.getD_some] at e
      exact get_inj (idxK_lt L _) hs ht e
    · rw [hbx] at hs
      obtain ⟨e1, e2⟩ := without_sec (A := A) (C := C) (key s hs)
      rw [e1, e2]
      exact ⟨Int.le_refl _, Int.le_refl _⟩
    · rw [hin]
      constructor
      · intro ht
        obtain ⟨s, hs, e⟩ := List.mem_iff_getElem.1 ht
        exact ⟨s, (hbx s).2 hs, by (try simp only); rw [List.getElem?_eq_getElem hs]; exact e⟩
      · rintro ⟨s, hs, rfl⟩
        rw [hbx] at hs
        try simp only
        rw [List.getElem?_eq_getElem hs]
        exact List.getElem_mem hs
  · have fi : ∀ t, t ∈ idxK L f.slips.length → (idxK L f.slips.length)[(idxK L f.slips.length).idxOf t]? = some t ∧ (idxK L f.slips.length).idxOf t < (idxK L f.slips.length).length := fun t ht => by
      have hl := List.idxOf_lt_length_of_mem ht
      refine ⟨?_, hl⟩
      rw [List.getElem?_eq_getElem hl, List.getElem_idxOf hl]
    refine PM.fit_image (φ := fun t => (idxK L f.slips.length).idxOf t) (fun s t hs ht e => ?_) (fun t ht => ?_) (fun s => ?_)
    · rw [hin] at hs ht
      have h1 := (fi s hs).1
      have h2 := (fi t ht).1
      try simp only at e
      rw [e, h2] at h1
      exact (Option.some.inj h1).symm
    · rw [hin] at ht
      obtain ⟨e1, e2⟩ := without_sec (A := A) (C := C) (fi t ht).1
      try simp only
      rw [e1, e2]
      exact ⟨Int.le_refl _, Int.le_refl _⟩
    · rw [hbx]
      constructor
      · intro hs
        refine ⟨(idxK L f.slips.length)[s], (hin _).2 (List.getElem_mem hs), ?_⟩
        try simp only
        exact List.Nodup.idxOf_getElem hnd _ hs
      · rintro ⟨t, ht, rfl⟩
        exact (fi t ((hin t).1 ht)).2
/-- nobody is late just if all can -/
theorem late_nil (f : Floor) (p : Nat) : (lateF f p).length = 0 ↔ canF f p (allF f) = true := by
  have e : canLess f p [] = canF f p (allF f) := by
    unfold canLess
    rw [List.map_nil, show setF [] = 0 from rfl, PM.less_zero]
  constructor
  · intro h
    rw [← e, ← List.length_eq_zero_iff.1 h]
    exact (late_top p).ok
  · intro h
    have := late_least (f := f) (p := p) (y := []) (List.nil_sublist _) (by rw [e]; exact h)
    simpa using this
end Go.Proofs.YtomgnpfpaodpiaaDoor

/- Contract of the law's without: a floor without some slips. -/
namespace Go.Proofs.YtomgnpfpaodpiaaDoor
open Go Go.RowKit
set_option maxHeartbeats 4000000
theorem flat_sl (l : List SSlip) : (l.map SSlip.cells).flatten = flatSl l := by rw [flatSl, List.flatMap_def]
theorem flatSl_snoc (l : List SSlip) (s : SSlip) : flatSl (l ++ [s]) = flatSl l ++ [s.slice, vi s.till] := by simp [flatSl, SSlip.cells]
theorem own_aside {w : World} {base n sz : Nat} {e : TypeId} {v : Value} {xs : List Value} (h : w.ownsRow base e sz v n xs) {p : Addr} (hp : p.block < base) (u : Value) : (w.setCell p u).ownsRow base e sz v n xs := by
  refine ⟨h.1, ?_⟩
  rcases h.2 with h0 | ⟨g, c, cur, rfl, g1, g2, g3⟩
  · exact .inl h0
  · refine .inr ⟨g, c, cur, rfl, g1, ?_, g3⟩
    rw [heap_setCell_other _ _ g _ (by omega)]
    exact g2
set_option maxRecDepth 100000 in
theorem leave_any (f : Floor) (hv : validB f = true) (L : List Int) (A : Option Addr) (cap : Nat) (w : World) (h : FloorAt w w.heap.size f) (hL : IntsAt w w.heap.size A cap L) :
    Calls Tryd.prog 46 #[f.val, .slice A L.length cap] w fun e w' => ∃ B C, e = .returned (leaveF f L B C).val ∧ FloorAt w' w'.heap.size (leaveF f L B C) ∧ Below w.heap.size w w' := by
  obtain ⟨i0, hi, hy0, hy1, hy2⟩ := info_parts info_slip
  have h9 := (fine hv).slips9
  have HF := Lib.hid h
  have HL := Lib.hid hL
  have h3l := h.slips.lens
  have PL := Lib.hid (fun (n : Int) (W : World) hW => place_free A cap L n W hW)
  have HPN := Lib.hid (fun n : Int => place_neg L n)
  have HKS : Hid (∀ (k : Nat) (s : SSlip), f.slips[k]? = some s → keepK f L (k + 1) = keepK f L k ++ (if (k : Int) ∈ L then [] else [s])) := fun k s hs => keepK_succ hs
  have HK0 : Hid (keepK f L 0 = []) := rfl
  have HKL : Hid (∀ k : Nat, k ≤ f.slips.length → (keepK f L k).length ≤ k) := fun k hk => by rw [keepK_len hk]; exact idxK_len L k
  have FIN : Hid (∀ (w' : World) (B : Option Addr) (C : Nat), Below w.heap.size w w' → RowsAt w' w'.heap.size 2 B C ((keepK f L f.slips.length).map SSlip.cells) → FloorAt w' w'.heap.size (leaveF f L B C)) := fun w' B C hb hr => by
    have h' := h.to hb
    exact ⟨h'.far, h'.picks, hr, fun s hs => h'.each s (keepK_mem hs)⟩
  have E : Hid (∀ (B : Option Addr) (C : Nat), (leaveF f L B C).val = .agg #[.slice f.fA f.far.length f.fC, vi f.slo, vi f.shi, .slice f.pA f.picks.length f.pC, vi f.carry, .slice B (keepK f L f.slips.length).length C]) := fun B C => rfl
  obtain ⟨WF, hWF⟩ : ∃ WF, WF = leaveF f L := ⟨_, rfl⟩
  rw [← hWF] at FIN E ⊢
  obtain ⟨K, hK⟩ : ∃ K, K = keepK f L := ⟨_, rfl⟩
  rw [← hK] at HKS HK0 HKL FIN E
  clear h hL hWF hK hv
  obtain ⟨fA, fC, ff, slo, shi, pA, pC, fp, fc, sA, sC, fs⟩ := f
  simp only at HF HKS HKL FIN E h9 h3l
  have hb0 := below1 w (.cells #[.slice fA ff.length fC, vi slo, vi shi, .slice pA fp.length pC, vi fc, .slice sA fs.length sC] 28)
  have X0 := CellsBox.new w 28 [.slice fA ff.length fC, vi slo, vi shi, .slice pA fp.length pC, vi fc, .slice sA fs.length sC]
  have hb1 := hb0.alloc hb0.size (.cells #[.slice none 0 0, vi 0, vi 0, .slice none 0 0, vi 0, .slice none 0 0] 28)
  have X1 := X0.alloc (.cells #[.slice none 0 0, vi 0, vi 0, .slice none 0 0, vi 0, .slice none 0 0] 28)
  have R1 := CellsBox.new (w.alloc (.cells #[.slice fA ff.length fC, vi slo, vi shi, .slice pA fp.length pC, vi fc, .slice sA fs.length sC] 28)) 28 [.slice none 0 0, vi 0, vi 0, .slice none 0 0, vi 0, .slice none 0 0]
  have hb2 := hb1.alloc hb1.size (.cells #[.slice fA ff.length fC, vi slo, vi shi, .slice pA fp.length pC, vi fc, .slice sA fs.length sC] 28)
  have X2 := X1.alloc (.cells #[.slice fA ff.length fC, vi slo, vi shi, .slice pA fp.length pC, vi fc, .slice sA fs.length sC] 28)
  have R2 := R1.alloc (.cells #[.slice fA ff.length fC, vi slo, vi shi, .slice pA fp.length pC, vi fc, .slice sA fs.length sC] 28)
  have Y2 := CellsBox.new ((w.alloc (.cells #[.slice fA ff.length fC, vi slo, vi shi, .slice pA fp.length pC, vi fc, .slice sA fs.length sC] 28)).alloc (.cells #[.slice none 0 0, vi 0, vi 0, .slice none 0 0, vi 0, .slice none 0 0] 28)) 28 [.slice fA ff.length fC, vi slo, vi shi, .slice pA fp.length pC, vi fc, .slice sA fs.length sC]
  show Calls Tryd.prog 46 #[.agg #[.slice fA ff.length fC, vi slo, vi shi, .slice pA fp.length pC, vi fc, .slice sA fs.length sC], .slice A L.length cap] w _
  go_enter Tryd.func46, Tryd.ntmps46
  go_upto_region 2 with fail
  refine (?_ : ∀ W3 : World, CellsBox W3 w.heap.size 28 [.slice fA ff.length fC, vi slo, vi shi, .slice pA fp.length pC, vi fc, .slice sA fs.length sC] → CellsBox W3 (w.heap.size + 1) 28 [.slice none 0 0, vi 0, vi 0, .slice none 0 0, vi 0, .slice none 0 0] → CellsBox W3 (w.heap.size + 1 + 1) 28 [.slice fA ff.length fC, vi slo, vi shi, .slice pA fp.length pC, vi fc, .slice sA fs.length sC] → Below w.heap.size w W3 → Code.wp _ _ _ _ W3) _ X2 (by simpa using R2) (by simpa using Y2) hb2
  clear hb0 hb1 hb2 X0 X1 X2 R1 R2 Y2
  intro W3 X R Y HB
  have y5 := Y.cell (j := 5) rfl
  have q5 := Y.frozen 5
  have hz := HB.size
  have z2 := Y.lt
  have PX := Lib.hid (X.apart ⟨w.heap.size + 1 + 1, 5, none⟩ (.slice none 0 0) (by simp only; omega))
  have PR := Lib.hid (R.apart ⟨w.heap.size + 1 + 1, 5, none⟩ (.slice none 0 0) (by simp only; omega))
  have PY := Lib.hid (Y.store 5 (.slice none 0 0))
  have PB := Lib.hid (HB.setCell (p := ⟨w.heap.size + 1 + 1, 5, none⟩) (by simp only; omega) (.slice none 0 0))
  clear X R Y HB
  go_wp2_with fail
  refine (?_ : ∀ W4 : World, CellsBox W4 w.heap.size 28 [.slice fA ff.length fC, vi slo, vi shi, .slice pA fp.length pC, vi fc, .slice sA fs.length sC] → CellsBox W4 (w.heap.size + 1) 28 [.slice none 0 0, vi 0, vi 0, .slice none 0 0, vi 0, .slice none 0 0] → CellsBox W4 (w.heap.size + 1 + 1) 28 [.slice fA ff.length fC, vi slo, vi shi, .slice pA fp.length pC, vi fc, .slice none 0 0] → Below w.heap.size w W4 → Code.wp _ _ _ _ W4) _ PX.out PR.out PY.out PB.out
  clear y5 q5 hz z2 PX PR PY PB
  intro W4 X R Y HB
  have hz4 := Y.lt
  go_loopw [6] (fun i wr => ∃ (k : Nat) (v : Value), k ≤ fs.length ∧ i = .int .i64 k ∧ Below w.heap.size w wr ∧ w.heap.size + 1 + 1 + 1 ≤ wr.heap.size ∧ Hid (CellsBox wr w.heap.size 28 [.slice fA ff.length fC, vi slo, vi shi, .slice pA fp.length pC, vi fc, .slice sA fs.length sC]) ∧ Hid (CellsBox wr (w.heap.size + 1) 28 [.slice none 0 0, vi 0, vi 0, .slice none 0 0, vi 0, .slice none 0 0]) ∧ Hid (CellsBox wr (w.heap.size + 1 + 1) 28 [.slice fA ff.length fC, vi slo, vi shi, .slice pA fp.length pC, vi fc, v]) ∧ Hid (wr.ownsRow (w.heap.size + 1 + 1 + 1) 52 2 v (K k).length (flatSl (K k)))) (fun i _ => fs.length - (intOf i).toNat)
  case atStart => exact ⟨0, _, Nat.zero_le _, rfl, HB, by omega, X, R, Y, by unfold Hid; rw [HK0.out]; exact World.ownsRow_nil _ _ _ _⟩
  clear X R Y HB hz4
  obtain ⟨k, v, hk, rfl, HB, hsz, XX, XR, XY, HO⟩ := hrel
  by_cases hlt : k < fs.length
  · obtain ⟨s, hs⟩ : ∃ s, fs[k]? = some s := ⟨_, List.getElem?_eq_getElem hlt⟩
    obtain ⟨sb, so, hsA, hsb, s0, s1⟩ := row2 HF.out.slips.row hs rfl
    subst hsA
    have HKK := Lib.hid (HKS.out k s hs)
    have hKL := HKL.out k hk
    have HPK := Lib.hid (HPN.out k)
    have PLK := Lib.hid (PL.out k wr (HL.out.to HB).short)
    have s0r : wr.cell? ⟨sb, so + k * 2, none⟩ = some s.slice := (HB.cell hsb).trans s0
    have s1r : wr.cell? ⟨sb, so + k * 2 + 1, none⟩ = some (vi s.till) := (HB.cell hsb).trans s1
    have zs : sb < wr.heap.size := cell_lt s0r
    have hkI : (k : Int) < fs.length := by omega
    have h0k : (0 : Int) ≤ k := by omega
    obtain ⟨q, hq⟩ : ∃ q, placeF L k = q := ⟨_, rfl⟩
    rw [hq] at HPK PLK
    obtain ⟨M, hM⟩ : ∃ M, M = K k := ⟨_, rfl⟩
    rw [← hM] at HKK HO hKL
    have a5 := XX.out.cell (j := 5) rfl
    have za := XX.out.lt
    have HS0 := Lib.hid s0
    have HS1 := Lib.hid s1
    clear hs s0 s1 hq hM
    obtain ⟨sa, sc, sl, st⟩ := s
    simp only [SSlip.slice] at s0r s1r HS0 HS1
    go_wp2_with fail
    refine PLK.out.mono ?_
    rintro e W5 ⟨rfl, rfl⟩
    rcases hd : decide (q < 0) with _ | _
    · have NEXT : Hid (K (k + 1) = M) := by
        have : ¬ (k : Int) ∉ L := fun h => by have := HPK.out.2 h; simp at hd; omega
        unfold Hid
        rw [HKK.out, if_pos (by simpa using this), List.append_nil]
      clear HKK HPK
      go_wp2_with fail
      go_roundw
      case rel => exact ⟨k + 1, v, by omega, by go_num, HB, hsz, XX, XR, XY, by rw [NEXT.out]; exact HO⟩
      case measure => simp [intOf]; omega
    · have NEXT : Hid (K (k + 1) = M ++ [⟨sa, sc, sl, st⟩]) := by
        have : (k : Int) ∉ L := HPK.out.1 (by simpa using hd)
        unfold Hid
        rw [HKK.out, if_neg this]
      clear HKK HPK
      obtain ⟨A', c', rfl, h1, h2⟩ := own_form HO.out
      go_wp2_with fail
      have hST : Stays (fun w' => CellsBox w' w.heap.size 28 [.slice fA ff.length fC, vi slo, vi shi, .slice pA fp.length pC, vi fc, .slice (some ⟨sb, so, none⟩) fs.length sC] ∧ Below w.heap.size w w' ∧ w.heap.size + 1 + 1 + 1 ≤ w'.heap.size) := fun a b h h' => ⟨h.1.keep h', h.2.1.trans (h'.mono h.2.1.size), by have := h'.size; omega⟩
      refine' wp_region_box (fun w' => CellsBox w' w.heap.size 28 [.slice fA ff.length fC, vi slo, vi shi, .slice pA fp.length pC, vi fc, .slice (some ⟨sb, so, none⟩) fs.length sC] ∧ Below w.heap.size w w' ∧ w.heap.size + 1 + 1 + 1 ≤ w'.heap.size) hST [0, 2, 3, 4, 5, 6] 5 31 (by kernel_rfl) (by kernel_rfl) rfl (by kernel_rfl) (by kernel_rfl) rfl (by kernel_rfl) ?hl5 ⟨XX.out, HB, hsz⟩ ?hq5 ?hr5
      case hl5 =>
        simp only [List.map_cons, List.map_nil, List.getD_cons_zero, List.getD_cons_succ]
        exact rfl
      case hq5 =>
        intro w0 K
        have a5 := K.1.cell (j := 5) rfl
        have za := K.1.lt
        have s0k : w0.cell? ⟨sb, so + k * 2, none⟩ = some (.slice sa sl.length sc) := (K.2.1.cell hsb).trans HS0.out
        have s1k : w0.cell? ⟨sb, so + k * 2 + 1, none⟩ = some (vi st) := (K.2.1.cell hsb).trans HS1.out
        have zsk : sb < w0.heap.size := cell_lt s0k
        (repeat (go_big_quiet_step (fail)))
        exact wpQuiet_nil rfl
      case hr5 =>
        refine' wpUp_two (i := 1) (j := 7) (by kernel_rfl) rfl rfl rfl rfl (fun wa u1 u2 Ka hKa => ?ga) (fun wa u1 u2 Ka hKa => ?gb)
        case' ga =>
          have XYa := XY.out.keep u1
          have y5 := XYa.cell (j := 5) rfl
          have zy := XYa.lt
          go_simp
          refine hKa _ _ u2 ?_
          clear y5 zy XYa
          refine wpUp_one (i := 7) (by kernel_rfl) rfl rfl (fun wb v1 v2 Kb hKb => ?_)
          go_simp
          obtain ⟨V, hV⟩ : ∃ V, V = wb.alloc (.cells #[.slice sa sl.length sc, vi st] 52) := ⟨_, rfl⟩
          have hbV : Below wb.heap.size wb V := by rw [hV]; exact below1 _ _
          have HCV : CellsBox V wb.heap.size 52 [.slice sa sl.length sc, vi st] := by rw [hV]; exact CellsBox.new wb _ _
          rw [← hV]
          refine hKb _ _ (hST _ _ v2 hbV) ?_
          have HBV : Below wr.heap.size wr V := gr_trans (gr_trans u1 v1) hbV
          obtain ⟨bA, hbA⟩ : ∃ bA, bA = wb.heap.size := ⟨_, rfl⟩
          rw [← hbA] at HCV ⊢
          clear hV hbV hbA
        case' gb =>
          go_simp
          obtain ⟨V0, hV⟩ : ∃ V, V = wa.alloc (.cells #[.slice sa sl.length sc, vi st] 52) := ⟨_, rfl⟩
          have hbV : Below wa.heap.size wa V0 := by rw [hV]; exact below1 _ _
          have HCV0 : CellsBox V0 wa.heap.size 52 [.slice sa sl.length sc, vi st] := by rw [hV]; exact CellsBox.new wa _ _
          rw [← hV]
          refine hKa _ _ (hST _ _ u2 hbV) ?_
          obtain ⟨bA, hbA⟩ : ∃ bA, bA = wa.heap.size := ⟨_, rfl⟩
          rw [← hbA] at HCV0 ⊢
          clear hV hbA
          refine wpUp_one (i := 1) (by kernel_rfl) rfl rfl (fun V v1 v2 Kb hKb => ?_)
          have HBV : Below wr.heap.size wr V := gr_trans (gr_trans u1 hbV) v1
          have XYa := XY.out.keep HBV
          have y5 := XYa.cell (j := 5) rfl
          have zy := XYa.lt
          have HCV := HCV0.keep v1
          go_simp
          refine hKb _ _ v2 ?_
          clear y5 zy XYa HCV0 hbV
        all_goals
          refine wpUp_one (i := 8) (by kernel_rfl) rfl rfl (fun w7 g1 g2 K4 hK4 => ?_)
          have HB7 := gr_trans HBV g1
          have hown7 := own_keep HO.out HB7
          have hc7 := HCV.keep g1
          have d0 := hc7.cell (j := 0) rfl
          have d1 := hc7.cell (j := 1) rfl
          have XR7 := XR.out.keep HB7
          have XY7 := XY.out.keep HB7
          refine wp_append_own _ _ _ _ (by rfl) (w.heap.size + 1 + 1 + 1) 52 i0 _ 2 32 Tryd.underlying26 hi hy0 hy1 hy2 rfl (by omega) (.slice A' M.length c') M.length _ (by rfl) hown7 ⟨bA, 0, none⟩ 1 1 [.slice sa sl.length sc, vi st] (by rfl) (by rfl) (by
            intro j u hj
            rcases j with _ | _ | j
            · simp at hj; subst hj; exact d0
            · simp at hj; subst hj; exact d1
            · simp at hj) (by intro u hu; simp at hu; rcases hu with rfl | rfl <;> rfl) (by unfold maxLen; omega) (by omega) (by have := g2.2.2; omega) ?_
          intro v5 w8 hown8 hgrow _
          have hlt7 := fun j e => (hown7.lt j e).1
          have G1 : CellsBox w8 w.heap.size 28 [.slice fA ff.length fC, vi slo, vi shi, .slice pA fp.length pC, vi fc, .slice (some ⟨sb, so, none⟩) fs.length sC] := (hgrow.block _ g2.1.lt (fun e => by have := hlt7 _ e.symm; omega)).trans g2.1
          have G2 : CellsBox w8 (w.heap.size + 1) 28 [.slice none 0 0, vi 0, vi 0, .slice none 0 0, vi 0, .slice none 0 0] := (hgrow.block _ XR7.lt (fun e => by have := hlt7 _ e.symm; omega)).trans XR7
          have G3 : CellsBox w8 (w.heap.size + 1 + 1) 28 [.slice fA ff.length fC, vi slo, vi shi, .slice pA fp.length pC, vi fc, .slice A' M.length c'] := (hgrow.block _ XY7.lt (fun e => by have := hlt7 _ e.symm; omega)).trans XY7
          have G4 : Below w.heap.size w w8 := Below.grown g2.2.1 hgrow g2.2.1.size (fun j e => by have := hlt7 j e; omega)
          have G5 : w.heap.size + 1 + 1 + 1 ≤ w8.heap.size := by have := hgrow.size; have := g2.2.2; omega
          obtain ⟨A5, c5, rfl, -, -⟩ := own_form hown8
          have hb5 := hown8.lt
          simp only [Act.put, List.setIfInBounds_toArray, List.set_cons_zero, List.set_cons_succ]
          refine hK4 _ _ ⟨G1, G4, G5⟩ ?_
          refine wpUp_one (i := 9) (by kernel_rfl) rfl rfl (fun wz r1 r2 K9 hK9 => ?_)
          go_simp
          refine hK9 _ _ r2 ?_
          refine wpUp_one (i := 10) (by kernel_rfl) rfl rfl (fun w9 q1' q2 K5 hK5 => ?_)
          have q1 := gr_trans r1 q1'
          have Y9 := G3.keep q1
          have y5 := Y9.cell (j := 5) rfl
          have f5 := Y9.frozen 5
          have zy := Y9.lt
          go_simp
          have hown9 := own_keep hown8 q1
          have X9 := q2.1.apart ⟨w.heap.size + 1 + 1, 5, none⟩ (.slice A5 (M.length + 1) c5) (by simp only; omega)
          have R9 := (G2.keep q1).apart ⟨w.heap.size + 1 + 1, 5, none⟩ (.slice A5 (M.length + 1) c5) (by simp only; omega)
          have YY9 := Y9.store 5 (.slice A5 (M.length + 1) c5)
          have B9 := q2.2.1.setCell (p := ⟨w.heap.size + 1 + 1, 5, none⟩) (by simp only; omega) (.slice A5 (M.length + 1) c5)
          have O9 := own_aside hown9 (p := ⟨w.heap.size + 1 + 1, 5, none⟩) (by simp only; omega) (.slice A5 (M.length + 1) c5)
          have S9 : w.heap.size + 1 + 1 + 1 ≤ (w9.setCell ⟨w.heap.size + 1 + 1, 5, none⟩ (.slice A5 (M.length + 1) c5)).heap.size := by have := q2.2.2; simp; omega
          refine hK5 _ _ ⟨X9, B9, S9⟩ (wpUp_done (by kernel_rfl) (fun W8 s1 s2 => NoPanic.normal ?_))
          have HR8 := Lib.hid (R9.keep s1)
          have HY8 := Lib.hid (YY9.keep s1)
          have HO8 := Lib.hid (own_keep O9 s1)
          have HX8 := Lib.hid s2.1
          have HB8 := s2.2.1
          have HS8 := s2.2.2
          clear hKa hKb hK4 hK5 hK9 r1 r2 q1' g1 g2 q1 q2 s1 s2 G1 G2 G3 G4 G5 X9 R9 YY9 B9 O9 S9 hown7 hown8 hown9 hgrow XR7 XY7 Y9 y5 f5 zy d0 d1 hc7 HCV HB7 HBV hlt7 hb5 a5 za s0r s1r
          go_wp2_with fail
          go_roundw
        all_goals first
          | exact ⟨k + 1, _, by omega, by go_num, HB8, HS8, HX8, HR8, HY8.out, by rw [NEXT.out, flatSl_snoc, List.length_append]; exact HO8⟩
          | (simp [intOf]; omega)
  · obtain rfl : k = fs.length := by omega
    obtain ⟨A', c', rfl, h1, h2⟩ := own_form HO.out
    have hKL := HKL.out fs.length (Nat.le_refl _)
    have r0 := XR.out.cell (j := 0) rfl
    have r1 := XR.out.cell (j := 1) rfl
    have r2 := XR.out.cell (j := 2) rfl
    have r3 := XR.out.cell (j := 3) rfl
    have r4 := XR.out.cell (j := 4) rfl
    have r5 := XR.out.cell (j := 5) rfl
    have q0 := XR.out.frozen 0
    have q1 := XR.out.frozen 1
    have q2 := XR.out.frozen 2
    have q3 := XR.out.frozen 3
    have q4 := XR.out.frozen 4
    have q5 := XR.out.frozen 5
    have zr := XR.out.lt
    have y0 := XY.out.cell (j := 0) rfl
    have y1 := XY.out.cell (j := 1) rfl
    have y2 := XY.out.cell (j := 2) rfl
    have y3 := XY.out.cell (j := 3) rfl
    have y4 := XY.out.cell (j := 4) rfl
    have y5 := XY.out.cell (j := 5) rfl
    have zy := XY.out.lt
    have a5 := XX.out.cell (j := 5) rfl
    have za := XX.out.lt
    have NR := Lib.hid ((((((XR.out.store 0 (.slice fA ff.length fC)).store 1 (vi slo)).store 2 (vi shi)).store 3 (.slice pA fp.length pC)).store 4 (vi fc)).store 5 (.slice A' (K fs.length).length c'))
    have NO := Lib.hid (own_aside (own_aside (own_aside (own_aside (own_aside (own_aside HO.out (p := ⟨w.heap.size + 1, 0, none⟩) (by simp only; omega) (.slice fA ff.length fC)) (p := ⟨w.heap.size + 1, 1, none⟩) (by simp only; omega) (vi slo)) (p := ⟨w.heap.size + 1, 2, none⟩) (by simp only; omega) (vi shi)) (p := ⟨w.heap.size + 1, 3, none⟩) (by simp only; omega) (.slice pA fp.length pC)) (p := ⟨w.heap.size + 1, 4, none⟩) (by simp only; omega) (vi fc)) (p := ⟨w.heap.size + 1, 5, none⟩) (by simp only; omega) (.slice A' (K fs.length).length c'))
    have NB := Lib.hid ((((((HB.setCell (p := ⟨w.heap.size + 1, 0, none⟩) (by simp only; omega) (.slice fA ff.length fC)).setCell (p := ⟨w.heap.size + 1, 1, none⟩) (by simp only; omega) (vi slo)).setCell (p := ⟨w.heap.size + 1, 2, none⟩) (by simp only; omega) (vi shi)).setCell (p := ⟨w.heap.size + 1, 3, none⟩) (by simp only; omega) (.slice pA fp.length pC)).setCell (p := ⟨w.heap.size + 1, 4, none⟩) (by simp only; omega) (vi fc)).setCell (p := ⟨w.heap.size + 1, 5, none⟩) (by simp only; omega) (.slice A' (K fs.length).length c'))
    clear hlt
    go_wp2_with fail
    refine (?_ : ∀ Z : World, CellsBox Z (w.heap.size + 1) 28 [.slice fA ff.length fC, vi slo, vi shi, .slice pA fp.length pC, vi fc, .slice A' (K fs.length).length c'] → Z.ownsRow (w.heap.size + 1 + 1 + 1) 52 2 (.slice A' (K fs.length).length c') (K fs.length).length (flatSl (K fs.length)) → Below w.heap.size w Z → bodyPost _ _ _ _ _ Z) _ NR.out NO.out NB.out
    clear r0 r1 r2 r3 r4 r5 q0 q1 q2 q3 q4 q5 zr y0 y1 y2 y3 y4 y5 zy NR NO NB a5 za
    intro Z ZR ZO ZB
    have r0 := ZR.cell (j := 0) rfl
    have r1 := ZR.cell (j := 1) rfl
    have r2 := ZR.cell (j := 2) rfl
    have r3 := ZR.cell (j := 3) rfl
    have r4 := ZR.cell (j := 4) rfl
    have r5 := ZR.cell (j := 5) rfl
    rw [← flat_sl] at ZO
    obtain ⟨A2, c2, e2, -, h5, h6⟩ := own_rows (m := (K fs.length).map SSlip.cells) (slips_two _) ZO (by simp) (by omega)
    have e3 := Value.slice.inj e2
    obtain ⟨rfl, _, rfl⟩ := e3
    refine bodyPost_ret (v := .agg #[.slice fA ff.length fC, vi slo, vi shi, .slice pA fp.length pC, vi fc, .slice A' (K fs.length).length c']) (by simp [results, Tryd.results46, go_sem, r0, r1, r2, r3, r4, r5]) rfl ⟨A', c', ?_, FIN.out Z A' c' ZB ?_, ZB⟩
    · rw [E.out]
    · exact ⟨by simp; omega, by unfold maxLen at h5; omega, h6.few, h6.row⟩
end Go.Proofs.YtomgnpfpaodpiaaDoor

/- Who must be late: what is said of the others. Plain mathematics. -/
namespace Go.Proofs.YtomgnpfpaodpiaaDoor
open Go Go.RowKit
set_option maxHeartbeats 2000000
theorem climbs_of (n : Int) : ∀ (l : List Int) (b : Int), l.Pairwise (· < ·) → (∀ x ∈ l, b < x ∧ x < n) → climbsB n b l = true
  | [], _, _, _ => rfl
  | x :: l, b, hp, h => by
    obtain ⟨h1, h2⟩ := List.pairwise_cons.1 hp
    have hx := h x (by simp)
    unfold climbsB
    simp only [Bool.and_eq_true, decide_eq_true_eq]
    first
      | exact ⟨⟨hx.1, hx.2⟩, climbs_of n l x h2 fun y hy => ⟨h1 y hy, (h y (by simp [hy])).2⟩⟩
      | exact ⟨hx.1, hx.2, climbs_of n l x h2 fun y hy => ⟨h1 y hy, (h y (by simp [hy])).2⟩⟩
theorem late_climbs (f : Floor) (p : Nat) : climbsB f.slips.length (-1) (lateF f p) = true := by
  obtain ⟨h1, _, _⟩ := late_top (f := f) p
  refine climbs_of _ _ _ ((slips_lt f).sublist h1) fun x hx => ?_
  have := (slips_mem f x).1 (h1.subset hx)
  omega
theorem late_pos (f : Floor) (p : Nat) : ∀ x ∈ lateF f p, 0 ≤ x := fun x hx => ((slips_mem f x).1 ((late_top (f := f) p).in_.subset hx)).1
theorem late_left {f : Floor} (hv : validB f = true) (p : Nat) (B : Option Addr) (C : Nat) : (lateF (leaveF f (lateF f p) B C) p).length = 0 := by
  rw [late_nil, without_can hv (late_pos f p)]
  exact (late_top p).ok
theorem late_few (f : Floor) {p : Nat} (hv : validB f = true) (h1 : 1 ≤ p) (h5 : p ≤ 5) : (lateF f p).length = 0 ↔ ∃ q, fewF f = some q ∧ q ≤ p := by
  rw [late_nil]
  constructor
  · intro h
    cases hq : fewF f with
    | none =>
      have := few_no hq p h1 h5
      rw [h] at this; cases this
    | some q =>
      refine ⟨q, rfl, ?_⟩
      apply Classical.byContradiction
      intro hn
      have := few_below hq p h1 (by omega)
      rw [h] at this; cases this
  · rintro ⟨q, hq, hle⟩
    exact can_up hv (all_in f) hle (few_can hq).2.2
theorem late_others {f : Floor} (hv : validB f = true) {p : Nat} {m : Nat} (hp : PM.prefB (lateM f m) (lateF f p) = true) (B : Option Addr) (C : Nat) : 0 < (lateF (leaveF f (lateM f m) B C) p).length := by
  have hpos : ∀ x ∈ lateM f m, 0 ≤ x := fun x hx => ((slips_mem f x).1 (late_in.subset hx)).1
  apply Classical.byContradiction
  intro hn
  have h0 : (lateF (leaveF f (lateM f m) B C) p).length = 0 := by omega
  rw [late_nil, without_can hv hpos] at h0
  have := (late_top (f := f) p).first _ late_in h0
  rw [hp] at this
  cases this
theorem lateV_is {f : Floor} (hv : validB f = true) {p : Nat} (h1 : 1 ≤ p) (h5 : p ≤ 5) : LateV f p = (lateF f p, 0) := by
  unfold LateV checkV
  rw [if_pos hv, if_pos rfl, if_pos (hasB_iff.2 ⟨by omega, by omega⟩), Int.toNat_natCast]
end Go.Proofs.YtomgnpfpaodpiaaDoor

/- The law SlipLate holds of every floor and two numbers. -/
namespace Go.Proofs.YtomgnpfpaodpiaaDoor
open Go Go.RowKit
set_option maxHeartbeats 8000000
theorem spin5 (n : Int) (hn : -9223372036854775808 ≤ n ∧ n ≤ 9223372036854775807) : ∃ (p : Nat) (q : Int), 1 ≤ p ∧ p ≤ 5 ∧ wrap64 (1 + q) = p ∧ IntKind.wrap .i64 (1 + q) = p ∧ ∀ W : World, Calls Tryd.prog 36 #[vi n, vi 5] W fun e w' => e = .returned (vi q) ∧ W = w' := by
  have h := spin_range n 5 (by omega)
  refine ⟨(1 + spinI n 5).toNat, spinI n 5, by omega, by omega, ?_, ?_, fun W => spin_any n 5 W hn.1 hn.2 (by omega)⟩
  · rw [IntWalk.wrap64_in _ ⟨by omega, by omega⟩]; omega
  · rw [wrapI (by omega) (by omega)]; omega
set_option maxRecDepth 100000 in
theorem slipLate_bad (f : Floor) (n m : Int) (hv : validB f = false) (hn : -9223372036854775808 ≤ n ∧ n ≤ 9223372036854775807) (w : World) (hl : Lim w) (h : FloorAt w w.heap.size f) :
    Calls Tryd.prog 10 #[f.val, vi n, vi m] w fun e w' => e = .returned (.bool true) ∧ Below w.heap.size w w' := by
  have HL := Lib.hid hl
  have HF := Lib.hid h
  have SO := Lib.hid (fun (W : World) h1 h2 => sound_is hv W h1 h2)
  obtain ⟨p, q, hp1, hp5, hwp, hwq, SP⟩ := spin5 n hn
  have SPP := Lib.hid SP
  have C1 : Hid (∀ W : World, Lim W → FloorAt W W.heap.size f → Calls Tryd.prog 30 #[f.val, vi p] W fun e w' => ∃ A, e = .returned (.tuple #[.slice A 0 0, vi 30]) ∧ Below W.heap.size W w') := fun W h1 h2 => by
    have E : LateV f p = ([], 30) := by unfold LateV checkV; rw [if_neg (by simp [hv])]; simp [hv]
    have := Late_any f p W h1 h2
    rw [E] at this
    refine this.mono ?_
    rintro e w' ⟨A, rfl, _, hB⟩
    exact ⟨A, rfl, hB⟩
  clear hl h hv SP hn
  have X0 := CellsBox.new w 28 f.cells
  have hb0 : Below w.heap.size w (w.alloc (.cells f.cells.toArray 28)) := below1 _ _
  show Calls Tryd.prog 10 #[.agg #[.slice f.fA f.far.length f.fC, vi f.slo, vi f.shi, .slice f.pA f.picks.length f.pC, vi f.carry, .slice f.sA f.slips.length f.sC], vi n, vi m] w _
  go_enter Tryd.func10, Tryd.ntmps10
  go_upto_region 1 with fail
  refine (?_ : ∀ V : World, CellsBox V w.heap.size 28 f.cells → Below w.heap.size w V → Code.wp _ _ _ _ V) _ X0 hb0
  clear X0 hb0
  intro V X0 HB
  have HX := Lib.hid X0
  (have a0 := X0.cell (j := 0) rfl; have a1 := X0.cell (j := 1) rfl; have a2 := X0.cell (j := 2) rfl; have a3 := X0.cell (j := 3) rfl; have a4 := X0.cell (j := 4) rfl; have a5 := X0.cell (j := 5) rfl; have za := X0.lt)
  clear X0
  go_wp2_with fail
  refine (SPP.out _).mono ?_
  rintro e W1 ⟨rfl, rfl⟩
  go_wp2_with fail
  refine (C1.out _ (HL.out.next HB) (HF.out.to HB)).mono ?_
  rintro e W1 ⟨A, rfl, hb⟩
  (replace HX := Lib.hid (HX.out.keep hb); replace HB : Below w.heap.size w W1 := HB.trans (hb.mono HB.size); clear hb a0 a1 a2 a3 a4 a5 za; (have a0 := HX.out.cell (j := 0) rfl; have a1 := HX.out.cell (j := 1) rfl; have a2 := HX.out.cell (j := 2) rfl; have a3 := HX.out.cell (j := 3) rfl; have a4 := HX.out.cell (j := 4) rfl; have a5 := HX.out.cell (j := 5) rfl; have za := HX.out.lt))
  go_wp2_with fail
  refine (SO.out _ (HL.out.next HB) (HF.out.to HB)).mono ?_
  rintro e W2 ⟨rfl, hb⟩
  clear a0 a1 a2 a3 a4 a5 za
  (replace HB : Below w.heap.size w W2 := HB.trans (hb.mono HB.size); clear hb)
  go_wp2_with fail
  refine (works_any _ (HL.out.next HB)).mono ?_
  rintro e W ⟨rfl, hb⟩
  (replace HB : Below w.heap.size w W := HB.trans (hb.mono HB.size); clear hb)
  go_wp2_with fail
  go_ret
  exact ⟨rfl, HB⟩
set_option maxRecDepth 100000 in
theorem slipLate_ok (f : Floor) (n m : Int) (hv : validB f = true) (hn : -9223372036854775808 ≤ n ∧ n ≤ 9223372036854775807) (hm : -9223372036854775808 ≤ m ∧ m ≤ 9223372036854775807) (w : World) (hl : Lim w) (h : FloorAt w w.heap.size f) :
    Calls Tryd.prog 10 #[f.val, vi n, vi m] w fun e w' => e = .returned (.bool true) ∧ Below w.heap.size w w' := by
  have HL := Lib.hid hl
  have HF := Lib.hid h
  have h9 := (fine hv).slips9
  have h3l := h.slips.lens
  have SO := Lib.hid (fun (W : World) h1 h2 => sound_is hv W h1 h2)
  obtain ⟨p, q, hp1, hp5, hwp, hwq, SP⟩ := spin5 n hn
  have SPP := Lib.hid SP
  have C1 : Hid (∀ (x : Floor), validB x = true → ∀ W : World, Lim W → FloorAt W W.heap.size x → Calls Tryd.prog 30 #[x.val, vi p] W fun e w' => ∃ A, e = .returned (.tuple #[.slice A (lateF x p).length (lateF x p).length, vi 0]) ∧ IntsAt w' w'.heap.size A (lateF x p).length (lateF x p) ∧ Below W.heap.size W w') := fun x hx W h1 h2 => by
    have := Late_any x p W h1 h2
    rwa [lateV_is hx hp1 hp5] at this
  have C2 : Hid (∀ (W : World), Lim W → FloorAt W W.heap.size f → Calls Tryd.prog 28 #[f.val] W fun e w' => ∃ (A : Option Addr) (ts : List SRow), e = .returned (.tuple #[.slice A ts.length ts.length, vi (RosterV f).2]) ∧ ts.length = (RosterV f).1.length ∧ Below W.heap.size W w') := fun W h1 h2 => by
    refine (Roster_any f W h1 h2).mono ?_
    rintro e w' ⟨A, ts, rfl, g1, g2, g3⟩
    have := congrArg List.length g2
    rw [List.length_map, List.length_map] at this
    exact ⟨A, ts, rfl, this, g3⟩
  have C3 := Lib.hid (fun (L : List Int) (A : Option Addr) (cap : Nat) (W : World) h1 h2 => leave_any f hv L A cap W h1 h2)
  have C4 := Lib.hid (fun (A : Option Addr) (cap : Nat) (W : World) hh => climbs_yes A cap (lateF f p) f.slips.length W hh (late_climbs f p))
  have HVX := Lib.hid (fun (L : List Int) (B : Option Addr) (C : Nat) => without_valid hv L B C)
  have HLF := Lib.hid (fun (B : Option Addr) (C : Nat) => late_left hv p B C)
  have HOT := Lib.hid (fun (m : Nat) (hp : PM.prefB (lateM f m) (lateF f p) = true) (B : Option Addr) (C : Nat) => late_others hv hp B C)
  have HRC : Hid (((RosterV f).2 = 0 ∧ ((lateF f p).length = 0 ↔ (RosterV f).1.length ≤ p)) ∨ ((RosterV f).2 = 4 ∧ (lateF f p).length ≠ 0)) := by
    have h1 := late_few f hv hp1 hp5
    rcases rosterV_len f hv with ⟨g1, g2⟩ | ⟨q, g1, g2, g3⟩
    · right
      rw [g2]
      refine ⟨rfl, fun h => ?_⟩
      obtain ⟨q, hq, _⟩ := h1.1 h
      rw [g1] at hq; cases hq
    · left
      refine ⟨g2, ?_⟩
      rw [h1, g3]
      constructor
      · rintro ⟨q', hq, hle⟩
        rw [g1] at hq
        obtain rfl := Option.some.inj hq
        exact hle
      · intro hle
        exact ⟨q, g1, hle⟩
  have hN := pow_512 h9
  have hN1 : 1 ≤ 2 ^ f.slips.length := Nat.two_pow_pos _
  have hsh := shl_fact ⟨f.slips.length, by omega⟩
  simp only at hsh
  have SM : ∃ t : Nat, t < 2 ^ f.slips.length ∧ ∀ W : World, Calls Tryd.prog 36 #[vi m, vi (2 ^ f.slips.length : Nat)] W fun e w' => e = .returned (vi t) ∧ W = w' := by
    have hr := spin_range m ((2 ^ f.slips.length : Nat) : Int) (by omega)
    refine ⟨(spinI m ((2 ^ f.slips.length : Nat) : Int)).toNat, by omega, fun W => ?_⟩
    have := spin_any m ((2 ^ f.slips.length : Nat) : Int) W hm.1 hm.2 (by omega)
    rwa [show spinI m ((2 ^ f.slips.length : Nat) : Int) = ((spinI m ((2 ^ f.slips.length : Nat) : Int)).toNat : Int) by omega] at this
  obtain ⟨t, ht, SMT⟩ := SM
  have SMM := Lib.hid SMT
  have OFF : Hid (∀ W : World, Calls Tryd.prog 47 #[vi t, vi f.slips.length] W fun e w' => ∃ A cap, e = .returned (.slice A (lateM f t).length cap) ∧ IntsAt w' w'.heap.size A cap (lateM f t) ∧ Below W.heap.size W w') := fun W => by
    refine (of_set_any t f.slips.length (by omega) h9 W).mono ?_
    rintro e w' ⟨A, cap, rfl, h1, _, h2⟩
    have hl : (lateM f t).length = (membersK t f.slips.length).length := by unfold lateM natsC; rw [List.length_map]
    rw [hl]
    exact ⟨A, cap, rfl, h1, h2⟩
  have AH : Hid (∀ (A B : Option Addr) (ca cb : Nat) (a b : List Int) (r : Bool), PM.aheadB a b = r → ∀ W : World, IntsAt W W.heap.size A a.length a → IntsAt W W.heap.size B b.length b → Calls Tryd.prog 45 #[.slice A a.length ca, .slice B b.length cb] W fun e w' => e = .returned (.bool r) ∧ Below W.heap.size W w') := fun A B ca cb a b r hr W h1 h2 => by
    rw [← hr]
    exact ahead_any A B ca cb a b W h1 h2
  have HPF : Hid (∀ a b : List Int, PM.prefB a b = (decide (a.length < b.length) || (decide (a.length = b.length) && PM.aheadB a b))) := fun a b => rfl
  have HOTT := Lib.hid (HOT.out t)
  obtain ⟨LF, hLF⟩ : ∃ LF : Floor → List Int, LF = fun x => lateF x p := ⟨_, rfl⟩
  have eL : ∀ x, lateF x p = LF x := fun x => by rw [hLF]
  simp only [eL] at C1 C4 HLF HOTT HRC
  obtain ⟨L, hL⟩ : ∃ L, L = LF f := ⟨_, rfl⟩
  obtain ⟨M, hM⟩ : ∃ M, M = lateM f t := ⟨_, rfl⟩
  obtain ⟨WF, hWF⟩ : ∃ WF, WF = leaveF f := ⟨_, rfl⟩
  have C1f := Lib.hid (C1.out f hv)
  rw [← hL] at C4 HLF HOTT HRC C1f
  rw [← hM] at OFF HOTT
  rw [← hWF] at C3 HVX HLF HOTT
  obtain ⟨⟨rl, rc⟩, hRV⟩ : ∃ R, RosterV f = R := ⟨_, rfl⟩
  rw [hRV] at C2 HRC
  simp only at C2 HRC
  obtain ⟨N, hNN⟩ : ∃ N, N = 2 ^ f.slips.length := ⟨_, rfl⟩
  rw [← hNN] at hsh SMM hN hN1 ht
  clear hl h hv SP SMT hn hm hLF eL hL hM hWF HOT hRV hNN
  have hl0 : (0 : Int) ≤ f.slips.length := by omega
  have hl9 : (f.slips.length : Int) ≤ 9 := by omega
  have X0 := CellsBox.new w 28 f.cells
  have hb0 : Below w.heap.size w (w.alloc (.cells f.cells.toArray 28)) := below1 _ _
  show Calls Tryd.prog 10 #[.agg #[.slice f.fA f.far.length f.fC, vi f.slo, vi f.shi, .slice f.pA f.picks.length f.pC, vi f.carry, .slice f.sA f.slips.length f.sC], vi n, vi m] w _
  go_enter Tryd.func10, Tryd.ntmps10
  go_upto_region 1 with fail
  refine (?_ : ∀ V : World, CellsBox V w.heap.size 28 f.cells → Below w.heap.size w V → Code.wp _ _ _ _ V) _ X0 hb0
  clear X0 hb0
  intro V X0 HB
  have HX := Lib.hid X0
  (have a0 := X0.cell (j := 0) rfl; have a1 := X0.cell (j := 1) rfl; have a2 := X0.cell (j := 2) rfl; have a3 := X0.cell (j := 3) rfl; have a4 := X0.cell (j := 4) rfl; have a5 := X0.cell (j := 5) rfl; have za := X0.lt)
  clear X0
  go_wp2_with fail
  refine (SPP.out _).mono ?_
  rintro e W1 ⟨rfl, rfl⟩
  go_wp2_with fail
  refine (C1f.out _ (HL.out.next HB) (HF.out.to HB)).mono ?_
  rintro e W1 ⟨A, rfl, hA, hb⟩
  have HA := Lib.hid hA
  have hLl := hA.lens.2
  clear hA
  (replace HX := Lib.hid (HX.out.keep hb); replace HB : Below w.heap.size w W1 := HB.trans (hb.mono HB.size); clear hb a0 a1 a2 a3 a4 a5 za; (have a0 := HX.out.cell (j := 0) rfl; have a1 := HX.out.cell (j := 1) rfl; have a2 := HX.out.cell (j := 2) rfl; have a3 := HX.out.cell (j := 3) rfl; have a4 := HX.out.cell (j := 4) rfl; have a5 := HX.out.cell (j := 5) rfl; have za := HX.out.lt))
  go_wp2_with fail
  refine (SO.out _ (HL.out.next HB) (HF.out.to HB)).mono ?_
  rintro e W2 ⟨rfl, hb⟩
  replace HA := Lib.hid (HA.out.to hb)
  (replace HX := Lib.hid (HX.out.keep hb); replace HB : Below w.heap.size w W2 := HB.trans (hb.mono HB.size); clear hb a0 a1 a2 a3 a4 a5 za; (have a0 := HX.out.cell (j := 0) rfl; have a1 := HX.out.cell (j := 1) rfl; have a2 := HX.out.cell (j := 2) rfl; have a3 := HX.out.cell (j := 3) rfl; have a4 := HX.out.cell (j := 4) rfl; have a5 := HX.out.cell (j := 5) rfl; have za := HX.out.lt))
  go_wp2_with fail
  refine (C2.out _ (HL.out.next HB) (HF.out.to HB)).mono ?_
  rintro e W3 ⟨B, us, rfl, hul, hb⟩
  replace HA := Lib.hid (HA.out.to hb)
  have HUL := Lib.hid hul
  clear hul
  (replace HX := Lib.hid (HX.out.keep hb); replace HB : Below w.heap.size w W3 := HB.trans (hb.mono HB.size); clear hb a0 a1 a2 a3 a4 a5 za; (have a0 := HX.out.cell (j := 0) rfl; have a1 := HX.out.cell (j := 1) rfl; have a2 := HX.out.cell (j := 2) rfl; have a3 := HX.out.cell (j := 3) rfl; have a4 := HX.out.cell (j := 4) rfl; have a5 := HX.out.cell (j := 5) rfl; have za := HX.out.lt))
  go_wp2_with fail
  refine (C3.out L A L.length _ (HF.out.to HB) HA.out).mono ?_
  rintro e W4 ⟨B1, c1, rfl, hX1, hb⟩
  replace HA := Lib.hid (HA.out.to hb)
  have HX1 := Lib.hid hX1
  clear hX1
  (replace HX := Lib.hid (HX.out.keep hb); replace HB : Below w.heap.size w W4 := HB.trans (hb.mono HB.size); clear hb a0 a1 a2 a3 a4 a5 za; (have a0 := HX.out.cell (j := 0) rfl; have a1 := HX.out.cell (j := 1) rfl; have a2 := HX.out.cell (j := 2) rfl; have a3 := HX.out.cell (j := 3) rfl; have a4 := HX.out.cell (j := 4) rfl; have a5 := HX.out.cell (j := 5) rfl; have za := HX.out.lt))
  go_wp2_with fail
  refine (C1.out (WF L B1 c1) (HVX.out L B1 c1) _ (HL.out.next HB) HX1.out).mono ?_
  rintro e W5 ⟨A2, rfl, hA2, hb⟩
  replace HA := Lib.hid (HA.out.to hb)
  rw [HLF.out B1 c1]
  clear hA2 HX1
  (replace HX := Lib.hid (HX.out.keep hb); replace HB : Below w.heap.size w W5 := HB.trans (hb.mono HB.size); clear hb a0 a1 a2 a3 a4 a5 za; (have a0 := HX.out.cell (j := 0) rfl; have a1 := HX.out.cell (j := 1) rfl; have a2 := HX.out.cell (j := 2) rfl; have a3 := HX.out.cell (j := 3) rfl; have a4 := HX.out.cell (j := 4) rfl; have a5 := HX.out.cell (j := 5) rfl; have za := HX.out.lt))
  have HZ : Hid ((rc = 0 ∧ ∃ z, ((L.length : Int) == 0) = z ∧ decide ((us.length : Int) ≤ p) = z ∧ decide (us.length ≤ p) = z) ∨ (rc = 4 ∧ ((L.length : Int) == 0) = false)) := by
    rcases HRC.out with ⟨h1, h2⟩ | ⟨h1, h2⟩
    · left
      refine ⟨h1, _, rfl, ?_, ?_⟩
      · rw [HUL.out, Bool.eq_iff_iff, beq_iff_eq, decide_eq_true_eq]; omega
      · rw [HUL.out, Bool.eq_iff_iff, beq_iff_eq, decide_eq_true_eq]; omega
    · right
      exact ⟨h1, beq_eq_false_iff_ne.2 (by omega)⟩
  clear HRC HUL
  rcases HZ.out with ⟨rfl, z, hz1, hz2, hz3⟩ | ⟨rfl, hz1⟩
  case' inl =>
    rcases z with _ | _
  all_goals
    clear HZ
    go_wp2_with fail
    refine (C4.out _ _ _ HA.out).mono ?_
    rintro e W6 ⟨rfl, rfl⟩
    go_wp2_with fail
    refine' wp_region_box (fun w' => Below W6.heap.size W6 w') (fun a b h h' => gr_trans h h') [0, 1, 2, 3, 4, 5, 6, 7, 8] 2 136 (by kernel_rfl) (by kernel_rfl) rfl (by kernel_rfl) (by kernel_rfl) rfl (by kernel_rfl) ?hl5 (Below.refl _ _) ?hq5 ?hr5
    case hl5 =>
      simp only [List.map_cons, List.map_nil, List.getD_cons_zero, List.getD_cons_succ]
      exact rfl
    case hq5 =>
      intro w0 K
      have f5 := (HX.out.keep K).cell (j := 5) rfl
      have zf := (HX.out.keep K).lt
      (repeat (go_big_quiet_step ((go_at_call 36; refine Calls.grow_same (SMM.out _)))))
      exact wpQuiet_nil rfl
    case hr5 =>
      refine wpUp_one (i := 9) (by kernel_rfl) rfl rfl (fun wa u1 u2 Ka hKa => ?_)
      go_simp
      refine (OFF.out wa).mono ?_
      rintro e w3 ⟨A3, c3, rfl, hA3, hb3⟩
      have HA3 := Lib.hid hA3
      have hMl := hA3.lens.2
      clear hA3
      refine hKa _ _ (gr_trans u2 hb3) ?_
      refine wpUp_one (i := 10) (by kernel_rfl) rfl rfl (fun wb v1 v2 Kb hKb => ?_)
      go_simp
      refine hKb _ _ v2 (wpUp_done (by kernel_rfl) (fun W8 g1 g2 => NoPanic.normal ?_))
      have HA8 := Lib.hid (HA3.out.to (gr_trans v1 g1))
      have HAL := Lib.hid (HA.out.to g2)
      have HX8 := Lib.hid (HX.out.keep g2)
      have HB8 : Below w.heap.size w W8 := HB.trans (g2.mono HB.size)
      clear a0 a1 a2 a3 a4 a5 za hKa hKb u1 u2 v1 v2 g1 g2 hb3 HA3 HX HB HA
      have HX := HX8
      have HB := HB8
      clear HX8 HB8
      (have a0 := HX.out.cell (j := 0) rfl; have a1 := HX.out.cell (j := 1) rfl; have a2 := HX.out.cell (j := 2) rfl; have a3 := HX.out.cell (j := 3) rfl; have a4 := HX.out.cell (j := 4) rfl; have a5 := HX.out.cell (j := 5) rfl; have za := HX.out.lt)
      rcases hd1 : decide (L.length < M.length) with _ | _
      · have hd1i : decide ((L.length : Int) < M.length) = false := by simp at hd1 ⊢; omega
        rcases hd3 : decide (M.length = L.length) with _ | _
        case' true =>
          have hd3i : ((M.length : Int) == L.length) = true := by simp at hd3 ⊢; omega
          obtain ⟨r, hr⟩ : ∃ r, PM.aheadB M L = r := ⟨_, rfl⟩
          have AHK := Lib.hid (fun W h1 h2 => AH.out A3 A c3 L.length M L r hr W h1 h2)
          have HPR : Hid (r = true → PM.prefB M L = true) := fun e => by rw [HPF.out, hr, e, hd3]; simp
          clear hr hd3
          go_wp2_with fail
          refine (AHK.out _ HA8.out.short HAL.out.short).mono ?_
          rintro e W5' ⟨rfl, hb⟩
          replace HA8 := Lib.hid (HA8.out.to hb)
          (replace HX := Lib.hid (HX.out.keep hb); replace HB : Below w.heap.size w W5' := HB.trans (hb.mono HB.size); clear hb a0 a1 a2 a3 a4 a5 za; (have a0 := HX.out.cell (j := 0) rfl; have a1 := HX.out.cell (j := 1) rfl; have a2 := HX.out.cell (j := 2) rfl; have a3 := HX.out.cell (j := 3) rfl; have a4 := HX.out.cell (j := 4) rfl; have a5 := HX.out.cell (j := 5) rfl; have za := HX.out.lt))
          rcases r with _ | _
          · clear a0 a1 a2 a3 a4 a5 za
            go_wp2_with fail
            refine (works_any _ (HL.out.next HB)).mono ?_
            rintro e W ⟨rfl, hb⟩
            (replace HB : Below w.heap.size w W := HB.trans (hb.mono HB.size); clear hb)
            go_wp2_with fail
            go_ret
            exact ⟨rfl, HB⟩
          have HLT := Lib.hid (HOTT.out (HPR.out rfl))
        case' false =>
          have hd3i : ((M.length : Int) == L.length) = false := by simp at hd3 ⊢; omega
          have HLT := Lib.hid (HOTT.out (by
            rw [HPF.out, Bool.or_eq_true]
            left
            simp at hd1 hd3 ⊢
            omega))
          clear hd3
        all_goals
          go_wp2_with fail
          refine (C3.out M A3 c3 _ (HF.out.to HB) HA8.out).mono ?_
          rintro e W9 ⟨B4, c4, rfl, hX4, hb⟩
          have HX4 := Lib.hid hX4
          clear hX4 a0 a1 a2 a3 a4 a5 za HA8 HAL
          (replace HB : Below w.heap.size w W9 := HB.trans (hb.mono HB.size); clear hb)
          go_wp2_with fail
          refine (C1.out (WF M B4 c4) (HVX.out M B4 c4) _ (HL.out.next HB) HX4.out).mono ?_
          rintro e WA ⟨A5, rfl, hA5, hb⟩
          clear hA5 HX4
          (replace HB : Below w.heap.size w WA := HB.trans (hb.mono HB.size); clear hb)
          have hgt := HLT.out B4 c4
          obtain ⟨R, hR⟩ : ∃ R, R = (LF (WF M B4 c4)).length := ⟨_, rfl⟩
          rw [← hR] at hgt ⊢
          clear hR
          have hgt2 : decide ((0 : Int) < R) = true := by simp; omega
          have hgt3 : decide (0 < R) = true := by simp; omega
          go_wp2_with fail
          refine (works_any _ (HL.out.next HB)).mono ?_
          rintro e W ⟨rfl, hb⟩
          (replace HB : Below w.heap.size w W := HB.trans (hb.mono HB.size); clear hb)
          go_wp2_with fail
          go_ret
          exact ⟨rfl, HB⟩
      · have hd1i : decide ((L.length : Int) < M.length) = true := by simp at hd1 ⊢; omega
        clear a0 a1 a2 a3 a4 a5 za
        go_wp2_with fail
        refine (works_any _ (HL.out.next HB)).mono ?_
        rintro e W ⟨rfl, hb⟩
        (replace HB : Below w.heap.size w W := HB.trans (hb.mono HB.size); clear hb)
        go_wp2_with fail
        go_ret
        exact ⟨rfl, HB⟩
theorem slipLate_any (f : Floor) (n m : Int) (hn : -9223372036854775808 ≤ n ∧ n ≤ 9223372036854775807) (hm : -9223372036854775808 ≤ m ∧ m ≤ 9223372036854775807) (w : World) (hl : Lim w) (h : FloorAt w w.heap.size f) :
    Calls Tryd.prog 10 #[f.val, vi n, vi m] w fun e w' => e = .returned (.bool true) ∧ Below w.heap.size w w' := by
  cases hv : validB f with
  | false => exact slipLate_bad f n m hv hn w hl h
  | true => exact slipLate_ok f n m hv hn hm w hl h
end Go.Proofs.YtomgnpfpaodpiaaDoor

