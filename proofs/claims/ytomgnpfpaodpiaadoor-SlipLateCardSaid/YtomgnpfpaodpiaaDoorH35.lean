/- What a desk's plain forms mean: rosters of so many pickers in which all are in time. -/
import Derived.Test.YtomgnpfpaodpiaaDoorH32
import Derived.Test.YtomgnpfpaodpiaaDoorH34
import Derived.Laws.Rows
import Derived.Deep.MidRow
set_option linter.unusedVariables false
set_option linter.unusedSimpArgs false
namespace Go.Proofs.YtomgnpfpaodpiaaDoor
open Go Go.RowKit
/-- how long a slip takes at most, and until when it may -/
def secF (f : Floor) (s : Nat) : Int := (secsL f)[s]?.getD 0
def dueF (f : Floor) (s : Nat) : Int := keyF f s
theorem sec_nonneg {f : Floor} (hv : validB f = true) (s : Nat) : 0 ≤ secF f s := by
  unfold secF
  by_cases hs : s < f.slips.length
  · obtain ⟨n, h1, h2, _⟩ := secs_range hv hs
    rw [h1]; exact h2
  · rw [List.getElem?_eq_none (by simp [secsL]; omega)]
    exact Int.le_refl _
theorem loop_is (f : Floor) (m : Nat) : ∀ (rest : List Nat) (to : Nat) (sec : Int), loopF f m to sec rest = PM.loopG (secF f) (dueF f) m to sec rest
  | [], _, _ => rfl
  | s :: rest, to, sec => by
    rw [loopF, PM.loopG, loop_is f m rest, loop_is f m rest]
    rfl
theorem can_is (f : Floor) : ∀ (p m : Nat), canF f p m = PM.canG (secF f) (dueF f) (ordN f) p m
  | 0, _ => rfl
  | p + 1, m => by
    rw [canF, PM.canG, givenF, loop_is]
    have : (fun x => canF f p (lessF m x)) = fun x => PM.canG (secF f) (dueF f) (ordN f) p (lessF m x) := funext fun x => can_is f p _
    rw [this]
/-- which slip comes first on a desk -/
def before (f : Floor) (x y : Nat) : Bool := decide (dueF f x < dueF f y ∨ (dueF f x = dueF f y ∧ x ≤ y))
theorem before_iff (f : Floor) (x y : Nat) : before f x y = true ↔ dueF f x < dueF f y ∨ (dueF f x = dueF f y ∧ x ≤ y) := by simp [before]
theorem ord_is (f : Floor) : PM.Ord (dueF f) (before f) := by
  refine ⟨fun x y h => ?_, fun x y z h k => ?_, fun x y h k => ?_, fun x s h => ?_⟩
  · have h : ¬ before f x y = true := by rw [h]; simp
    rw [before_iff] at h ⊢
    omega
  · rw [before_iff] at h k ⊢
    omega
  · rw [before_iff] at h k
    omega
  · rw [before_iff] at h
    omega
/-- not behind, and the greater one of equal ones first -/
def downI (key : Int → Int) (a b : Int) : Prop := key b < key a ∨ (key b = key a ∧ b ≤ a)
theorem insR_sorted (key : Int → Int) (x : Int) : ∀ (l : List Int), l.Pairwise (downI key) → (∀ y ∈ l, y < x) → (insR key x l).Pairwise (downI key)
  | [], _, _ => by simp [insR]
  | z :: l, h, hx => by
    obtain ⟨h1, h2⟩ := List.pairwise_cons.1 h
    have hz := hx z (by simp)
    rw [insR]
    split
    · rename_i hk
      refine List.pairwise_cons.2 ⟨fun y hy => ?_, insR_sorted key x l h2 (fun y hy => hx y (by simp [hy]))⟩
      rcases insR_mem.1 hy with rfl | hy
      · exact .inl hk
      · exact h1 y hy
    · rename_i hk
      refine List.pairwise_cons.2 ⟨fun y hy => ?_, h⟩
      rcases List.mem_cons.1 hy with rfl | hy
      · unfold downI; omega
      · have h3 := h1 y hy
        have h4 := hx y (by simp [hy])
        unfold downI at h3 ⊢
        omega
theorem insF_perm (key : Int → Int) (x : Int) (l : List Int) : (insF key x l).Perm (x :: l) := by
  have key2 : ∀ l : List Int, (insR key x l).Perm (x :: l) := by
    intro l
    induction l with
    | nil => exact List.Perm.refl _
    | cons z l ih =>
      rw [insR]
      split
      · exact (ih.cons z).trans (List.Perm.swap x z l)
      · exact List.Perm.refl _
  rw [insF]
  exact (List.reverse_perm _).trans ((key2 l.reverse).trans ((List.reverse_perm l).cons x))
theorem isort_spec (key : Int → Int) : ∀ (l acc : List Int), l.Pairwise (· < ·) → (∀ x ∈ l, ∀ y ∈ acc, y < x) → acc.Pairwise (fun a b => downI key b a) →
    (l.foldl (fun acc x => insF key x acc) acc).Perm (acc ++ l) ∧ (l.foldl (fun acc x => insF key x acc) acc).Pairwise (fun a b => downI key b a)
  | [], acc, _, _, h => by rw [List.foldl_nil, List.append_nil]; exact ⟨List.Perm.refl _, h⟩
  | x :: l, acc, hl, hx, h => by
    obtain ⟨h1, h2⟩ := List.pairwise_cons.1 hl
    rw [List.foldl_cons]
    have hp := insF_perm key x acc
    obtain ⟨i1, i2⟩ := isort_spec key l (insF key x acc) h2 (fun z hz y hy => by
      rcases List.mem_cons.1 (hp.mem_iff.1 hy) with rfl | hy
      · exact h1 z hz
      · exact hx z (by simp [hz]) y hy) (by
      rw [insF, List.pairwise_reverse]
      exact insR_sorted key x acc.reverse (by rw [List.pairwise_reverse]; exact h) (fun y hy => hx x (by simp) y (List.mem_reverse.1 hy)))
    refine ⟨i1.trans ((hp.append_right l).trans ?_), i2⟩
    exact (List.perm_middle (a := x) (l₁ := acc) (l₂ := l)).symm
theorem desk_is {f : Floor} (h9 : f.slips.length ≤ 9) : PM.Desk (before f) f.slips.length (ordN f) := by
  have e : orderF f = isortF (keyF f) (natsC (List.range f.slips.length)) := by rw [orderF, members_all ⟨f.slips.length, by omega⟩]
  have hlt : (natsC (List.range f.slips.length)).Pairwise (· < ·) := by
    rw [natsC, List.pairwise_map]
    exact List.pairwise_lt_range.imp (fun h => by omega)
  obtain ⟨h1, h2⟩ := isort_spec (keyF f) (natsC (List.range f.slips.length)) [] hlt (by simp) (by simp)
  rw [List.nil_append] at h1
  refine ⟨?_, ?_⟩
  · rw [ordN, e, isortF]
    refine (h1.map Int.toNat).trans ?_
    rw [natsC, List.map_map]
    have : (Int.toNat ∘ fun s : Nat => (s : Int)) = id := funext fun s => by simp
    rw [this, List.map_id]
  · rw [ordN, List.pairwise_map, e, isortF]
    have hm : ∀ x ∈ (natsC (List.range f.slips.length)).foldl (fun acc x => insF (keyF f) x acc) [], 0 ≤ x := fun x hx => by
      obtain ⟨y, _, rfl⟩ := List.mem_map.1 (h1.mem_iff.1 hx)
      omega
    refine List.Pairwise.imp_of_mem (fun {a b} ha hb h => ?_) h2
    have a0 := hm a ha
    have b0 := hm b hb
    rw [before_iff, dueF, dueF, Int.toNat_of_nonneg a0, Int.toNat_of_nonneg b0]
    unfold downI at h
    omega
/-- so many lists of slips of a floor, each in time, that together have just those of a set -/
def FitF (f : Floor) (p m : Nat) : Prop := PM.Fit (secF f) (dueF f) p m
theorem can_fit {f : Floor} (hv : validB f = true) (p m : Nat) (hm : ∀ i, m.testBit i = true → i < f.slips.length) : canF f p m = true ↔ FitF f p m := by
  rw [can_is]
  exact PM.can_fit (desk_is (fine hv).slips9) (ord_is f) (sec_nonneg hv) p m hm
theorem all_bit (f : Floor) (i : Nat) : (allF f).testBit i = decide (i < f.slips.length) := by
  rw [allF, Nat.testBit_two_pow_sub_one]
end Go.Proofs.YtomgnpfpaodpiaaDoor

/- Contracts of the law's of and floor: the chapter's floor. -/
namespace Go.Proofs.YtomgnpfpaodpiaaDoor
open Go Go.RowKit
set_option maxHeartbeats 4000000
theorem of_is (a b : Int) (w : World) :
    Calls Tryd.prog 51 #[vi a, vi b] w fun e w' => e = .returned (.agg #[vi a, vi b]) ∧ Below w.heap.size w w' := by
  go_enter Tryd.func51, Tryd.ntmps51
  go_wp2
  go_returns
  refine ⟨rfl, ?_⟩
  (repeat (first | exact Below.refl _ _ | refine Below.setCell ?_ (by first | omega | (simp; omega) | (simp; done)) _ | refine Below.alloc ?_ (by first | omega | (simp; omega) | (simp; done)) _ | refine Below.drew ?_ | refine below_drewN ?_ _ | refine Below.trans ?_ (Below.mono (by assumption) (by first | omega | (simp; omega) | (simp; done)))))
def chap (a0 a1 a2 a3 a4 a5 a6 : Option Addr) : Floor := ⟨a0, 3, [10, 25, 40], 1, 2, a1, 3, [(5, 8), (5, 10), (10, 12)], 4, a6, 4,
  [⟨a2, 2, [⟨0, 2⟩, ⟨2, 3⟩], 300⟩, ⟨a3, 1, [⟨1, 4⟩], 200⟩, ⟨a4, 1, [⟨0, 1⟩], 120⟩, ⟨a5, 2, [⟨1, 1⟩, ⟨2, 6⟩], 900⟩]⟩
theorem row_of_box {W : World} {B : Nat} {t : TypeId} {sz : Nat} {m : List (List Value)} (h : CellsBox W B t m.flatten) (hsz : ∀ r ∈ m, r.length = sz) : RowAt W W.heap.size sz (some ⟨B, 0, none⟩) m := fun _ =>
  ⟨B, 0, rfl, h.lt, fun i r hr j u hj hu => by have := h.cell (flat_at m hsz i r hr j u hj hu); simpa using this⟩
theorem CellsBox.aside {B : Nat} : ∀ (vs : List Value) (o : Nat) {W : World} {b : Nat} {t : TypeId} {cs : List Value}, CellsBox W b t cs → b ≠ B → CellsBox (W.setCells B o vs) b t cs
  | [], _, _, _, _, _, h, _ => h
  | v :: vs, o, _, _, _, _, h, hne => CellsBox.aside vs (o + 1) (h.apart ⟨B, o, none⟩ v hne) hne
theorem below_setCells {B C : Nat} {w0 : World} : ∀ (vs : List Value) (o : Nat) {W : World}, Below C w0 W → C ≤ B → Below C w0 (W.setCells B o vs)
  | [], _, _, h, _ => h
  | v :: vs, o, _, h, hle => below_setCells vs (o + 1) (h.setCell hle v) hle
set_option maxRecDepth 100000 in
theorem floor_any (w : World) :
    Calls Tryd.prog 50 #[] w fun e w' => ∃ a0 a1 a2 a3 a4 a5 a6, e = .returned (chap a0 a1 a2 a3 a4 a5 a6).val ∧ FloorAt w' w'.heap.size (chap a0 a1 a2 a3 a4 a5 a6) ∧ Below w.heap.size w w' := by
  go_enter Tryd.func50, Tryd.ntmps50
  go_wp2_with fail
  refine (to_any _ _ _).mono ?_
  rintro e wa ⟨rfl, hba⟩
  have HB : Below w.heap.size w wa := by (repeat (first | exact Below.refl _ _ | refine Below.setCell ?_ (by first | omega | (simp; omega) | (simp; done)) _ | refine Below.alloc ?_ (by first | omega | (simp; omega) | (simp; done)) _ | refine Below.drew ?_ | refine below_drewN ?_ _ | refine Below.trans ?_ (Below.mono (by assumption) (by first | omega | (simp; omega) | (simp; done)))))
  have HR : CellsBox wa w.heap.size 28 [.slice none 0 0, vi 0, vi 0, .slice none 0 0, vi 0, .slice none 0 0] := ((CellsBox.new w 28 [.slice none 0 0, vi 0, vi 0, .slice none 0 0, vi 0, .slice none 0 0]).alloc _).keep hba
  have HI : CellsBox wa (w.heap.size + 1) 3 [vi 10, vi 25, vi 40] := by
    refine CellsBox.keep (b := w.heap.size + 1) (t := 3) (cs := [vi 10, vi 25, vi 40]) ?_ hba
    have := CellsBox.new (w.alloc (.cells #[.slice none 0 0, vi 0, vi 0, .slice none 0 0, vi 0, .slice none 0 0] 28)) 3 [vi 10, vi 25, vi 40]
    simpa using this
  have HZ0 : Hid (w.heap.size < wa.heap.size) := HR.lt
  clear hba
  go_wp2_with fail
  refine (to_any _ _ _).mono ?_
  rintro e wb ⟨rfl, hb⟩
  replace HB : Below w.heap.size w wb := HB.trans (hb.mono HB.size)
  replace HR : CellsBox wb w.heap.size 28 [.slice none 0 0, vi 0, vi 0, .slice none 0 0, vi 0, .slice none 0 0] := HR.keep hb
  replace HI : CellsBox wb (w.heap.size + 1) 3 [vi 10, vi 25, vi 40] := HI.keep hb
  clear hb
  go_wp2_with fail
  refine (to_any _ _ _).mono ?_
  rintro e wc ⟨rfl, hb⟩
  replace HB : Below w.heap.size w wc := HB.trans (hb.mono HB.size)
  replace HR : CellsBox wc w.heap.size 28 [.slice none 0 0, vi 0, vi 0, .slice none 0 0, vi 0, .slice none 0 0] := HR.keep hb
  replace HI : CellsBox wc (w.heap.size + 1) 3 [vi 10, vi 25, vi 40] := HI.keep hb
  clear hb
  go_wp2_with fail
  refine (to_any _ _ _).mono ?_
  rintro e wd ⟨rfl, hb⟩
  replace HB : Below w.heap.size w wd := HB.trans (hb.mono HB.size)
  replace HR : CellsBox wd w.heap.size 28 [.slice none 0 0, vi 0, vi 0, .slice none 0 0, vi 0, .slice none 0 0] := HR.keep hb
  replace HI : CellsBox wd (w.heap.size + 1) 3 [vi 10, vi 25, vi 40] := HI.keep hb
  have Hzd : w.heap.size < wd.heap.size := HR.lt
  clear hb
  go_wp2_with fail
  refine (of_is _ _ _).mono ?_
  rintro e we ⟨rfl, hb⟩
  have HS : CellsBox we wd.heap.size 24 [vi 5, vi 8, vi 5, vi 10, vi 10, vi 12] := (CellsBox.new wd 24 [vi 5, vi 8, vi 5, vi 10, vi 10, vi 12]).keep hb
  replace HB : Below w.heap.size w we := (HB.alloc HB.size _).trans (hb.mono (by have := HB.size; rw [World.size_alloc]; omega)); simp
  replace HR : CellsBox we w.heap.size 28 [.slice none 0 0, vi 0, vi 0, .slice none 0 0, vi 0, .slice none 0 0] := (HR.alloc _).keep hb
  replace HI : CellsBox we (w.heap.size + 1) 3 [vi 10, vi 25, vi 40] := (HI.alloc _).keep hb
  clear hb
  go_wp2_with fail
  refine (of_is _ _ _).mono ?_
  rintro e wf ⟨rfl, hb⟩
  replace HB : Below w.heap.size w wf := HB.trans (hb.mono HB.size)
  replace HR : CellsBox wf w.heap.size 28 [.slice none 0 0, vi 0, vi 0, .slice none 0 0, vi 0, .slice none 0 0] := HR.keep hb
  replace HI : CellsBox wf (w.heap.size + 1) 3 [vi 10, vi 25, vi 40] := HI.keep hb
  replace HS : CellsBox wf wd.heap.size 24 [vi 5, vi 8, vi 5, vi 10, vi 10, vi 12] := HS.keep hb
  have Hzf : w.heap.size < wf.heap.size := HR.lt
  clear hb
  go_wp2_with fail
  refine (of_is _ _ _).mono ?_
  rintro e wg ⟨rfl, hb⟩
  have H2 : CellsBox wg wf.heap.size 64 [vi 0, vi 2, vi 2, vi 3] := (CellsBox.new wf 64 [vi 0, vi 2, vi 2, vi 3]).keep hb
  replace HB : Below w.heap.size w wg := (HB.alloc HB.size _).trans (hb.mono (by have := HB.size; rw [World.size_alloc]; omega)); simp
  replace HR : CellsBox wg w.heap.size 28 [.slice none 0 0, vi 0, vi 0, .slice none 0 0, vi 0, .slice none 0 0] := (HR.alloc _).keep hb
  replace HI : CellsBox wg (w.heap.size + 1) 3 [vi 10, vi 25, vi 40] := (HI.alloc _).keep hb
  replace HS : CellsBox wg wd.heap.size 24 [vi 5, vi 8, vi 5, vi 10, vi 10, vi 12] := (HS.alloc _).keep hb
  have Hzg : w.heap.size < wg.heap.size := HR.lt
  clear hb
  go_wp2_with fail
  refine (of_is _ _ _).mono ?_
  rintro e wh ⟨rfl, hb⟩
  have H3 : CellsBox wh wg.heap.size 64 [vi 1, vi 4] := (CellsBox.new wg 64 [vi 1, vi 4]).keep hb
  replace HB : Below w.heap.size w wh := (HB.alloc HB.size _).trans (hb.mono (by have := HB.size; rw [World.size_alloc]; omega)); simp
  replace HR : CellsBox wh w.heap.size 28 [.slice none 0 0, vi 0, vi 0, .slice none 0 0, vi 0, .slice none 0 0] := (HR.alloc _).keep hb
  replace HI : CellsBox wh (w.heap.size + 1) 3 [vi 10, vi 25, vi 40] := (HI.alloc _).keep hb
  replace HS : CellsBox wh wd.heap.size 24 [vi 5, vi 8, vi 5, vi 10, vi 10, vi 12] := (HS.alloc _).keep hb
  replace H2 : CellsBox wh wf.heap.size 64 [vi 0, vi 2, vi 2, vi 3] := (H2.alloc _).keep hb
  have Hzh : w.heap.size < wh.heap.size := HR.lt
  clear hb
  go_wp2_with fail
  refine (of_is _ _ _).mono ?_
  rintro e wi ⟨rfl, hb⟩
  have H4 : CellsBox wi wh.heap.size 64 [vi 0, vi 1] := (CellsBox.new wh 64 [vi 0, vi 1]).keep hb
  replace HB : Below w.heap.size w wi := (HB.alloc HB.size _).trans (hb.mono (by have := HB.size; rw [World.size_alloc]; omega)); simp
  replace HR : CellsBox wi w.heap.size 28 [.slice none 0 0, vi 0, vi 0, .slice none 0 0, vi 0, .slice none 0 0] := (HR.alloc _).keep hb
  replace HI : CellsBox wi (w.heap.size + 1) 3 [vi 10, vi 25, vi 40] := (HI.alloc _).keep hb
  replace HS : CellsBox wi wd.heap.size 24 [vi 5, vi 8, vi 5, vi 10, vi 10, vi 12] := (HS.alloc _).keep hb
  replace H2 : CellsBox wi wf.heap.size 64 [vi 0, vi 2, vi 2, vi 3] := (H2.alloc _).keep hb
  replace H3 : CellsBox wi wg.heap.size 64 [vi 1, vi 4] := (H3.alloc _).keep hb
  clear hb
  go_wp2_with fail
  refine (of_is _ _ _).mono ?_
  rintro e wj ⟨rfl, hb⟩
  replace HB : Below w.heap.size w wj := HB.trans (hb.mono HB.size)
  replace HR : CellsBox wj w.heap.size 28 [.slice none 0 0, vi 0, vi 0, .slice none 0 0, vi 0, .slice none 0 0] := HR.keep hb
  replace HI : CellsBox wj (w.heap.size + 1) 3 [vi 10, vi 25, vi 40] := HI.keep hb
  replace HS : CellsBox wj wd.heap.size 24 [vi 5, vi 8, vi 5, vi 10, vi 10, vi 12] := HS.keep hb
  replace H2 : CellsBox wj wf.heap.size 64 [vi 0, vi 2, vi 2, vi 3] := H2.keep hb
  replace H3 : CellsBox wj wg.heap.size 64 [vi 1, vi 4] := H3.keep hb
  replace H4 : CellsBox wj wh.heap.size 64 [vi 0, vi 1] := H4.keep hb
  clear hb
  obtain ⟨cs, hcs⟩ : ∃ cs : List Value, cs = [.slice (some ⟨w.heap.size + 1, 0, none⟩) 3 3, vi 1, vi 2, .slice (some ⟨wd.heap.size, 0, none⟩) 3 3, vi 4, .slice (some ⟨wj.heap.size + 1, 0, none⟩) 4 4] := ⟨_, rfl⟩
  obtain ⟨V, hV⟩ : ∃ V, V = (wj.alloc (.cells #[vi 1, vi 1, vi 2, vi 6] 64)).alloc (.cells #[.slice (some ⟨wf.heap.size, 0, none⟩) 2 2, vi 300, .slice (some ⟨wg.heap.size, 0, none⟩) 1 1, vi 200, .slice (some ⟨wh.heap.size, 0, none⟩) 1 1, vi 120, .slice (some ⟨wj.heap.size, 0, none⟩) 2 2, vi 900] 52) := ⟨_, rfl⟩
  have VR : CellsBox V w.heap.size 28 [.slice none 0 0, vi 0, vi 0, .slice none 0 0, vi 0, .slice none 0 0] := by rw [hV]; exact (HR.alloc _).alloc _
  have VI : CellsBox V (w.heap.size + 1) 3 [vi 10, vi 25, vi 40] := by rw [hV]; exact (HI.alloc _).alloc _
  have VS : CellsBox V wd.heap.size 24 [vi 5, vi 8, vi 5, vi 10, vi 10, vi 12] := by rw [hV]; exact (HS.alloc _).alloc _
  have V2 : CellsBox V wf.heap.size 64 [vi 0, vi 2, vi 2, vi 3] := by rw [hV]; exact (H2.alloc _).alloc _
  have V3 : CellsBox V wg.heap.size 64 [vi 1, vi 4] := by rw [hV]; exact (H3.alloc _).alloc _
  have V4 : CellsBox V wh.heap.size 64 [vi 0, vi 1] := by rw [hV]; exact (H4.alloc _).alloc _
  have V5 : CellsBox V wj.heap.size 64 [vi 1, vi 1, vi 2, vi 6] := by rw [hV]; exact (CellsBox.new wj _ _).alloc _
  have V6 : CellsBox V (wj.heap.size + 1) 52 [.slice (some ⟨wf.heap.size, 0, none⟩) 2 2, vi 300, .slice (some ⟨wg.heap.size, 0, none⟩) 1 1, vi 200, .slice (some ⟨wh.heap.size, 0, none⟩) 1 1, vi 120, .slice (some ⟨wj.heap.size, 0, none⟩) 2 2, vi 900] := by
    rw [hV]
    have := CellsBox.new (wj.alloc (.cells #[vi 1, vi 1, vi 2, vi 6] 64)) 52 [.slice (some ⟨wf.heap.size, 0, none⟩) 2 2, vi 300, .slice (some ⟨wg.heap.size, 0, none⟩) 1 1, vi 200, .slice (some ⟨wh.heap.size, 0, none⟩) 1 1, vi 120, .slice (some ⟨wj.heap.size, 0, none⟩) 2 2, vi 900]
    rwa [World.size_alloc] at this
  have VB : Below w.heap.size w V := by rw [hV]; exact (HB.alloc HB.size _).alloc (by have := HB.size; rw [World.size_alloc]; omega) _
  have hth : V.there w.heap.size 0 cs.toArray.size := by
    intro j hj
    rw [hcs] at hj
    have hj6 : j < 6 := by simpa using hj
    rw [Nat.zero_add]
    refine ⟨?_, VR.frozen j⟩
    obtain rfl | rfl | rfl | rfl | rfl | rfl : j = 0 ∨ j = 1 ∨ j = 2 ∨ j = 3 ∨ j = 4 ∨ j = 5 := by omega
    all_goals (rw [VR.cell rfl]; rfl)
  have HTH := Lib.hid hth
  have HZ : Hid (w.heap.size < wd.heap.size ∧ w.heap.size < wf.heap.size ∧ w.heap.size < wg.heap.size ∧ w.heap.size < wh.heap.size ∧ w.heap.size < wj.heap.size) := ⟨Hzd, Hzf, Hzg, Hzh, HR.lt⟩
  have HCS := Lib.hid hcs
  have HVV := Lib.hid hV
  have hlen : cs.toArray.size = 6 := by rw [hcs]; rfl
  have h1c : cs.toArray.all (·.oneCell') = true := by rw [hcs]; simp [Value.oneCell']
  clear HR HI HS H2 H3 H4 hth hV hcs
  go_wp2_with (with_reducible refine wpList_store_mid rfl 28 _ _ rfl w.heap.size 0 cs.toArray ?hx ?hy ?ht ?hi ?h1 ?_)
  case hx => rfl
  case hy => rw [HCS.out]; rfl
  case ht => rw [← HVV.out]; exact HTH.out
  case hi => rw [hlen]; kernel_rfl
  case h1 => exact h1c
  have HZR : CellsBox (V.setCells w.heap.size 0 cs) w.heap.size 28 [.slice (some ⟨w.heap.size + 1, 0, none⟩) 3 3, vi 1, vi 2, .slice (some ⟨wd.heap.size, 0, none⟩) 3 3, vi 4, .slice (some ⟨wj.heap.size + 1, 0, none⟩) 4 4] := by
    rw [HCS.out]
    exact (((((VR.store 0 (.slice (some ⟨w.heap.size + 1, 0, none⟩) 3 3)).store 1 (vi 1)).store 2 (vi 2)).store 3 (.slice (some ⟨wd.heap.size, 0, none⟩) 3 3)).store 4 (vi 4)).store 5 (.slice (some ⟨wj.heap.size + 1, 0, none⟩) 4 4)
  have zj := HB.size
  have zI := VI.lt
  have ZI := CellsBox.aside (B := w.heap.size) cs 0 VI (by omega)
  have ZS := CellsBox.aside (B := w.heap.size) cs 0 VS (by have := VR.lt; have := HZ.out; omega)
  have Z2 := CellsBox.aside (B := w.heap.size) cs 0 V2 (by have := HZ.out; omega)
  have Z3 := CellsBox.aside (B := w.heap.size) cs 0 V3 (by have := HZ.out; omega)
  have Z4 := CellsBox.aside (B := w.heap.size) cs 0 V4 (by have := HZ.out; omega)
  have Z5 := CellsBox.aside (B := w.heap.size) cs 0 V5 (by have := HZ.out; omega)
  have Z6 := CellsBox.aside (B := w.heap.size) cs 0 V6 (by omega)
  have ZB := below_setCells (B := w.heap.size) cs 0 VB (Nat.le_refl _)
  rw [← HVV.out]
  clear HVV HTH HCS h1c hlen VR VI VS V2 V3 V4 V5 V6 VB
  obtain ⟨F, hF⟩ : ∃ F, F = V.setCells w.heap.size 0 cs := ⟨_, rfl⟩
  rw [← hF] at HZR ZI ZS Z2 Z3 Z4 Z5 Z6 ZB
  rw [show V.setCells w.heap.size 0 cs.toArray.toList = F from by rw [hF]]
  clear hF
  have q0 := HZR.cell (j := 0) rfl
  have q1 := HZR.cell (j := 1) rfl
  have q2 := HZR.cell (j := 2) rfl
  have q3 := HZR.cell (j := 3) rfl
  have q4 := HZR.cell (j := 4) rfl
  have q5 := HZR.cell (j := 5) rfl
  go_wp2_with fail
  refine bodyPost_ret (v := .agg #[.slice (some ⟨w.heap.size + 1, 0, none⟩) 3 3, vi 1, vi 2, .slice (some ⟨wd.heap.size, 0, none⟩) 3 3, vi 4, .slice (some ⟨wj.heap.size + 1, 0, none⟩) 4 4]) (by simp [results, Tryd.results50, go_sem, q0, q1, q2, q3, q4, q5]) rfl ?_
  refine ⟨some ⟨w.heap.size + 1, 0, none⟩, some ⟨wd.heap.size, 0, none⟩, some ⟨wf.heap.size, 0, none⟩, some ⟨wg.heap.size, 0, none⟩, some ⟨wh.heap.size, 0, none⟩, some ⟨wj.heap.size, 0, none⟩, some ⟨wj.heap.size + 1, 0, none⟩, rfl, ?_, ZB⟩
  refine ⟨⟨Nat.le_refl _, by first | (simp [chap]; done) | (simp; done), by first | (simp [chap]; done) | (simp; done), row_of_box (t := 3) ZI (by intro r hr; obtain ⟨p, _, rfl⟩ := List.mem_map.1 hr; rfl)⟩, ⟨Nat.le_refl _, by first | (simp [chap]; done) | (simp; done), by first | (simp [chap]; done) | (simp; done), row_of_box (t := 24) ZS (by intro r hr; obtain ⟨p, _, rfl⟩ := List.mem_map.1 hr; rfl)⟩,
    ⟨Nat.le_refl _, by first | (simp [chap]; done) | (simp; done), by first | (simp [chap]; done) | (simp; done), row_of_box (t := 52) Z6 (by intro r hr; obtain ⟨p, _, rfl⟩ := List.mem_map.1 hr; rfl)⟩, fun s hs => ?_⟩
  simp only [chap, List.mem_cons, List.not_mem_nil, or_false] at hs
  rcases hs with rfl | rfl | rfl | rfl
  · exact ⟨Nat.le_refl _, by first | (simp [chap]; done) | (simp; done), by first | (simp [chap]; done) | (simp; done), row_of_box (t := 64) Z2 (by intro r hr; obtain ⟨p, _, rfl⟩ := List.mem_map.1 hr; rfl)⟩
  · exact ⟨Nat.le_refl _, by first | (simp [chap]; done) | (simp; done), by first | (simp [chap]; done) | (simp; done), row_of_box (t := 64) Z3 (by intro r hr; obtain ⟨p, _, rfl⟩ := List.mem_map.1 hr; rfl)⟩
  · exact ⟨Nat.le_refl _, by first | (simp [chap]; done) | (simp; done), by first | (simp [chap]; done) | (simp; done), row_of_box (t := 64) Z4 (by intro r hr; obtain ⟨p, _, rfl⟩ := List.mem_map.1 hr; rfl)⟩
  · exact ⟨Nat.le_refl _, by first | (simp [chap]; done) | (simp; done), by first | (simp [chap]; done) | (simp; done), row_of_box (t := 64) Z5 (by intro r hr; obtain ⟨p, _, rfl⟩ := List.mem_map.1 hr; rfl)⟩
end Go.Proofs.YtomgnpfpaodpiaaDoor

