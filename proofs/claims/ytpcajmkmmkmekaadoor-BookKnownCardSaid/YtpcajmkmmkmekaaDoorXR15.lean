/- The bad racks of BookKnown, and how they lie in memory. -/
import Derived.Test.YtpcajmkmmkmekaaDoorXR14
import Derived.Test.YtpcajmkmmkmekaaDoorXB11
import Derived.Test.YtpcajmkmmkmekaaDoorGb
import Derived.Laws.MakeOwn
set_option linter.unusedVariables false
set_option linter.unusedSimpArgs false
namespace Go.Proofs.YtpcajmkmmkmekaaDoor
open Go Go.RowKit
set_option maxHeartbeats 4000000
def entA (n : Ns) : Entry := ⟨11, 0, 3, some ⟨n.n4, 0, none⟩, 2, [⟨40, 250, 258, 900⟩, ⟨41, 256, 264, 950⟩]⟩
def entB (n : Ns) : Entry := ⟨12, 1, 1, some ⟨n.n7, 0, none⟩, 1, [⟨7, 1, 400, 300⟩]⟩
def genR (n : Ns) (g a b c : Int) (e0 e1 : Entry) : Rack := ⟨g, some ⟨n.n21, 0, none⟩, 2, [⟨a, b, c, some ⟨n.n9, 0, none⟩, 2, [e0, e1]⟩,
  ⟨260, 450, 450, some ⟨n.n19, 0, none⟩, 2, [⟨12, 0, 1, some ⟨n.n14, 0, none⟩, 2, [⟨40, 250, 258, 980⟩, ⟨42, 262, 270, 990⟩]⟩, ⟨13, 2, 4, some ⟨n.n17, 0, none⟩, 1, [⟨1, 1, 400, 50⟩]⟩]⟩]⟩
def badF (i : Nat) (n : Ns) : Rack := match i with
  | 1 => genR n 25 100 280 300 (entA n) (entB n)
  | 4 => genR n 3 100 20001 300 (entA n) (entB n)
  | 5 => genR n 3 100 280 99 (entA n) (entB n)
  | 6 => genR n 3 100 280 300 (entA n) { entB n with number := 11 }
  | 7 => genR n 3 100 280 300 (entA n) { entB n with good := 0 }
  | 8 => genR n 3 100 280 300 (entA n) { entB n with good := 3 }
  | 9 => genR n 3 100 280 300 { entA n with colours := 16 } (entB n)
  | 10 => genR n 3 100 280 300 { entA n with ad := none, cap := 0, sizes := [] } (entB n)
  | 11 => genR n 3 100 280 300 { entA n with sizes := [⟨40, 250, 258, 900⟩, ⟨40, 256, 264, 950⟩] } (entB n)
  | 12 => genR n 3 100 280 300 { entA n with sizes := [⟨40, 0, 5, 900⟩, ⟨41, 256, 264, 950⟩] } (entB n)
  | _ => genR n 3 100 280 300 { entA n with sizes := [⟨40, 250, 258, 0⟩, ⟨41, 256, 264, 950⟩] } (entB n)
def Rng (lo hi : Nat) (n : Ns) : Prop := lo ≤ n.n4 ∧ n.n4 < n.n7 ∧ n.n7 < n.n9 ∧ n.n9 < n.n14 ∧ n.n14 < n.n17 ∧ n.n17 < n.n19 ∧ n.n19 < n.n21 ∧ n.n21 < hi
theorem gen_box {lo hi : Nat} {w : World} {n : Ns} (hr : Rng lo hi n) (g a b c : Int) (e0 e1 : Entry)
    (k0 : e0.sizes.length ≤ e0.cap ∧ e0.cap ≤ 100 ∧ (e0.sizes = [] ∨ e0.ad = some ⟨n.n4, 0, none⟩ ∧ CellsBox w n.n4 86 (e0.sizes.map Fit.cells).flatten))
    (k1 : e1.sizes.length ≤ e1.cap ∧ e1.cap ≤ 100 ∧ (e1.sizes = [] ∨ e1.ad = some ⟨n.n7, 0, none⟩ ∧ CellsBox w n.n7 86 (e1.sizes.map Fit.cells).flatten))
    (h9 : CellsBox w n.n9 50 ([e0, e1].map Entry.cells).flatten) (h14 : CellsBox w n.n14 86 [vi 40, vi 250, vi 258, vi 980, vi 42, vi 262, vi 270, vi 990])
    (h17 : CellsBox w n.n17 86 [vi 1, vi 1, vi 400, vi 50]) (h19 : CellsBox w n.n19 50 [vi 12, vi 0, vi 1, sl n.n14 2, vi 13, vi 2, vi 4, sl n.n17 1])
    (h21 : CellsBox w n.n21 47 [vi a, vi b, vi c, sl n.n9 2, vi 260, vi 450, vi 450, sl n.n19 2]) : BoxRack lo hi w (genR n g a b c e0 e1) := by
  obtain ⟨r1, r2, r3, r4, r5, r6, r7, r8⟩ := hr
  refine ⟨⟨Nat.le_refl _, by simp [genR], n.n21, rfl, by omega, by omega, h21⟩, fun x hx => ?_⟩
  simp only [genR, List.mem_cons, List.not_mem_nil, or_false] at hx
  rcases hx with rfl | rfl
  · refine ⟨⟨Nat.le_refl _, by simp, n.n9, rfl, by omega, by omega, h9⟩, fun e he => ?_⟩
    simp only [List.mem_cons, List.not_mem_nil, or_false] at he
    rcases he with rfl | rfl
    · refine ⟨k0.1, k0.2.1, ?_⟩
      rcases k0.2.2 with h | ⟨h, h'⟩
      · exact .inl h
      · exact .inr ⟨n.n4, h, by omega, by omega, h'⟩
    · refine ⟨k1.1, k1.2.1, ?_⟩
      rcases k1.2.2 with h | ⟨h, h'⟩
      · exact .inl h
      · exact .inr ⟨n.n7, h, by omega, by omega, h'⟩
  · refine ⟨⟨Nat.le_refl _, by simp, n.n19, rfl, by omega, by omega, h19⟩, fun e he => ?_⟩
    simp only [List.mem_cons, List.not_mem_nil, or_false] at he
    rcases he with rfl | rfl
    · exact ⟨Nat.le_refl _, by simp, .inr ⟨n.n14, rfl, by omega, by omega, h14⟩⟩
    · exact ⟨Nat.le_refl _, by simp, .inr ⟨n.n17, rfl, by omega, by omega, h17⟩⟩
/-- how the racks lie ahead of the j-th line: those of the lines ahead are turned -/
def KS (j : Nat) (ns : Nat → Ns) (lo : Nat → Nat) (w : World) : Prop := ∀ i, 1 ≤ i → i ≤ 13 → (4 ≤ i → i < j → BoxRack (lo i) (lo (i + 1)) w (badF i (ns i))) ∧ (i < 4 ∨ j ≤ i → ChapIn (lo i) (lo (i + 1)) w (ns i))
theorem KS.step {j : Nat} {ns : Nat → Ns} {lo : Nat → Nat} {w w' : World} (h : KS j ns lo w) (h4 : 4 ≤ j) (hj13 : j ≤ 13) (mono : ∀ i, i ≤ 13 → lo i ≤ lo (i + 1)) {p : Nat} (hp : lo j ≤ p ∧ p < lo (j + 1))
    (hk : ∀ b, b ≠ p → b < w.heap.size → w'.heap[b]? = w.heap[b]?) (hs : lo 14 ≤ w.heap.size) (hb : BoxRack (lo j) (lo (j + 1)) w' (badF j (ns j))) : KS (j + 1) ns lo w' := by
  have up : ∀ d i, i + d ≤ 14 → lo i ≤ lo (i + d) := by
    intro d
    induction d with
    | zero => intro i _; exact Nat.le_refl _
    | succ d ih => intro i hi; exact Nat.le_trans (ih i (by omega)) (mono (i + d) (by omega))
  intro i h1 h13
  have key : i ≠ j → ∀ b, lo i ≤ b → b < lo (i + 1) → w'.heap[b]? = w.heap[b]? := by
    intro hne b hb1 hb2
    have hl : lo (i + 1) ≤ lo 14 := by have := up (13 - i) (i + 1) (by omega); rwa [show i + 1 + (13 - i) = 14 by omega] at this
    refine hk b ?_ (by omega)
    rintro rfl
    rcases Nat.lt_or_gt_of_ne hne with hlt | hgt
    · by_cases hj : j ≤ 14
      · have := up (j - (i + 1)) (i + 1) (by omega)
        rw [show i + 1 + (j - (i + 1)) = j by omega] at this
        omega
      · omega
    · have := up (i - (j + 1)) (j + 1) (by omega)
      rw [show j + 1 + (i - (j + 1)) = i by omega] at this
      omega
  refine ⟨fun h4i hij => ?_, fun hij => ?_⟩
  · by_cases he : i = j
    · subst he; exact hb
    · exact ((h i h1 h13).1 h4i (by omega)).keep (key he)
  · exact ((h i h1 h13).2 (by omega)).keep (key (by omega))
theorem KS.below {j : Nat} {ns : Nat → Ns} {lo : Nat → Nat} {w w' : World} (h : KS j ns lo w) (hb : Below w.heap.size w w') (mono : ∀ i, i ≤ 13 → lo i ≤ lo (i + 1)) (hs : lo 14 ≤ w.heap.size) : KS j ns lo w' := by
  have up : ∀ d i, i + d ≤ 14 → lo i ≤ lo (i + d) := by
    intro d
    induction d with
    | zero => intro i _; exact Nat.le_refl _
    | succ d ih => intro i hi; exact Nat.le_trans (ih i (by omega)) (mono (i + d) (by omega))
  intro i h1 h13
  have key : ∀ b, lo i ≤ b → b < lo (i + 1) → w'.heap[b]? = w.heap[b]? := fun b _ hb2 => by
    have hl : lo (i + 1) ≤ lo 14 := by have := up (13 - i) (i + 1) (by omega); rwa [show i + 1 + (13 - i) = 14 by omega] at this
    exact hb.block b (by omega)
  exact ⟨fun a b => ((h i h1 h13).1 a b).keep key, fun a => ((h i h1 h13).2 a).keep key⟩
theorem KS.other {j : Nat} {ns : Nat → Ns} {lo : Nat → Nat} {w w' : World} (h : KS j ns lo w) {p : Nat} (hk : ∀ b, b ≠ p → w'.heap[b]? = w.heap[b]?) (mono : ∀ i, i ≤ 13 → lo i ≤ lo (i + 1)) (hp : lo 14 ≤ p) : KS j ns lo w' := by
  have up : ∀ d i, i + d ≤ 14 → lo i ≤ lo (i + d) := by
    intro d
    induction d with
    | zero => intro i _; exact Nat.le_refl _
    | succ d ih => intro i hi; exact Nat.le_trans (ih i (by omega)) (mono (i + d) (by omega))
  intro i h1 h13
  have key : ∀ b, lo i ≤ b → b < lo (i + 1) → w'.heap[b]? = w.heap[b]? := fun b _ hb2 => by
    have hl : lo (i + 1) ≤ lo 14 := by have := up (13 - i) (i + 1) (by omega); rwa [show i + 1 + (13 - i) = 14 by omega] at this
    exact hk b (by omega)
  exact ⟨fun a b => ((h i h1 h13).1 a b).keep key, fun a => ((h i h1 h13).2 a).keep key⟩
theorem lo_up {lo : Nat → Nat} (mono : ∀ i, i ≤ 13 → lo i ≤ lo (i + 1)) : ∀ d i : Nat, i + d ≤ 14 → lo i ≤ lo (i + d)
  | 0, _, _ => Nat.le_refl _
  | d + 1, i, hi => Nat.le_trans (lo_up mono d i (by omega)) (mono (i + d) (by omega))
theorem lo_in {lo : Nat → Nat} (mono : ∀ i, i ≤ 13 → lo i ≤ lo (i + 1)) {j : Nat} (h1 : 1 ≤ j) (h2 : j ≤ 13) : lo 1 ≤ lo j ∧ lo (j + 1) ≤ lo 14 := by
  have a := lo_up mono (j - 1) 1 (by omega)
  have b := lo_up mono (13 - j) (j + 1) (by omega)
  rw [show 1 + (j - 1) = j by omega] at a
  rw [show j + 1 + (13 - j) = 14 by omega] at b
  exact ⟨a, b⟩
/-- what the array of racks reads as behind all lines -/
def badR (ns : Nat → Ns) (z : Nat) (i : Nat) : Rack := match i with
  | 0 => ⟨0, none, 0, []⟩
  | 2 => ⟨3, none, 0, []⟩
  | 3 => ⟨3, some ⟨z, 0, none⟩, 5, [⟨0, 0, 0, none, 0, []⟩, ⟨0, 0, 0, none, 0, []⟩, ⟨0, 0, 0, none, 0, []⟩, ⟨0, 0, 0, none, 0, []⟩, ⟨0, 0, 0, none, 0, []⟩]⟩
  | i => badF i (ns i)
theorem bad_no (ns : Nat → Ns) (z : Nat) (i : Nat) (h : i < 14) : validB (badR ns z i) = false := by
  have : i = 0 ∨ i = 1 ∨ i = 2 ∨ i = 3 ∨ i = 4 ∨ i = 5 ∨ i = 6 ∨ i = 7 ∨ i = 8 ∨ i = 9 ∨ i = 10 ∨ i = 11 ∨ i = 12 ∨ i = 13 := by omega
  rcases this with rfl | rfl | rfl | rfl | rfl | rfl | rfl | rfl | rfl | rfl | rfl | rfl | rfl | rfl
  · exact (show validB (badR ns z 0) = false by kernel_rfl)
  · exact (show validB (badR ns z 1) = false by kernel_rfl)
  · exact (show validB (badR ns z 2) = false by kernel_rfl)
  · exact (show validB (badR ns z 3) = false by kernel_rfl)
  · exact (show validB (badR ns z 4) = false by kernel_rfl)
  · exact (show validB (badR ns z 5) = false by kernel_rfl)
  · exact (show validB (badR ns z 6) = false by kernel_rfl)
  · exact (show validB (badR ns z 7) = false by kernel_rfl)
  · exact (show validB (badR ns z 8) = false by kernel_rfl)
  · exact (show validB (badR ns z 9) = false by kernel_rfl)
  · exact (show validB (badR ns z 10) = false by kernel_rfl)
  · exact (show validB (badR ns z 11) = false by kernel_rfl)
  · exact (show validB (badR ns z 12) = false by kernel_rfl)
  · exact (show validB (badR ns z 13) = false by kernel_rfl)
theorem bad_at {ns : Nat → Ns} {lo : Nat → Nat} {z : Nat} {w : World} (h : KS 14 ns lo w) (hz : CellsBox w z 47 (([⟨0, 0, 0, none, 0, []⟩, ⟨0, 0, 0, none, 0, []⟩, ⟨0, 0, 0, none, 0, []⟩, ⟨0, 0, 0, none, 0, []⟩, ⟨0, 0, 0, none, 0, []⟩] : List Issue).map Issue.cells).flatten) (i : Nat) (hi : i < 14) : RackAt w w.heap.size (badR ns z i) := by
  have : i = 0 ∨ i = 1 ∨ i = 2 ∨ i = 3 ∨ 4 ≤ i := by omega
  rcases this with rfl | rfl | rfl | rfl | h4
  · exact ⟨Nat.le_refl _, by simp [badR], by simp [badR], fun hl => absurd hl (by simp [badR]), fun x hx => absurd hx (by simp [badR])⟩
  · obtain ⟨r, h1, h2, h3, h4, h5, h6, h7⟩ := (h 1 (by omega) (by omega)).2 (.inl (by omega))
    exact (gen_box (w := w) r 25 100 280 300 (entA (ns 1)) (entB (ns 1)) ⟨Nat.le_refl _, by simp [entA], .inr ⟨rfl, h1⟩⟩ ⟨Nat.le_refl _, by simp [entB], .inr ⟨rfl, h2⟩⟩ h3 h4 h5 h6 h7).at
  · exact ⟨Nat.le_refl _, by simp [badR], by simp [badR], fun hl => absurd hl (by simp [badR]), fun x hx => absurd hx (by simp [badR])⟩
  · refine ⟨Nat.le_refl _, by simp [badR], by simp [badR], row_at (t := 47) hz (by intro r hr; obtain ⟨p, _, rfl⟩ := List.mem_map.1 hr; rfl), fun x hx => ?_⟩
    have : x = ⟨0, 0, 0, none, 0, []⟩ := by simpa [badR] using hx
    subst this
    exact ⟨Nat.le_refl _, by simp, fun hl => absurd hl (by simp), fun e he => absurd he (by simp)⟩
  · have hb := ((h i (by omega) (by omega)).1 h4 hi).at
    have : i = 4 ∨ i = 5 ∨ i = 6 ∨ i = 7 ∨ i = 8 ∨ i = 9 ∨ i = 10 ∨ i = 11 ∨ i = 12 ∨ i = 13 := by omega
    rcases this with rfl | rfl | rfl | rfl | rfl | rfl | rfl | rfl | rfl | rfl <;> exact hb
theorem info_issue0 : (Tryd.prog.info? 47).map (fun i => (i.zero, i.size, i.bytes)) = some (some (.agg #[vi 0, vi 0, vi 0, .slice none 0 0]), 4, 48) := by kernel_rfl
theorem info_line0 : (Tryd.prog.info? 79).map (fun i => (i.zero, i.size, i.bytes)) = some (some (.agg #[vi 0, vi 0, vi 0, vi 0]), 4, 32) := by kernel_rfl
abbrev zero5 : List Value := [vi 0, vi 0, vi 0, .slice none 0 0, vi 0, vi 0, vi 0, .slice none 0 0, vi 0, vi 0, vi 0, .slice none 0 0, vi 0, vi 0, vi 0, .slice none 0 0, vi 0, vi 0, vi 0, .slice none 0 0]
theorem mk5 (w : World) : (Instr.makeSlice 22 (.int .i64 5) (.int .i64 5)).run Tryd.prog w = .ok (.slice (some ⟨w.heap.size, 0, none⟩) 5 5) (w.alloc (.cells zero5.toArray 47)) := by
  obtain ⟨i0, hi, hy0, hy1, hy2⟩ := info_parts info_issue0
  have := run_makeSlice (P := Tryd.prog) w 22 47 i0 _ Tryd.underlying22 hi hy0 .i64 .i64 5 5 (by omega) (by omega) (by rw [hy1]; decide) (by rw [hy2]; decide) (by decide)
  rw [hy1] at this
  rw [show madeCells (Value.agg #[vi 0, vi 0, vi 0, .slice none 0 0]).cells (Int.toNat 5 * 4) = zero5.toArray from by kernel_rfl] at this
  exact this
end Go.Proofs.YtpcajmkmmkmekaaDoor
