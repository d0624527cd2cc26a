/- Iterators: what stays while rounds go on: every block of cells below a world's end, one aside, and rows of one type. -/
import Derived.RangeFuncNested
import Derived.RangeFuncBound
import Derived.RangeFuncCalls
import Derived.RangeFuncLeaves
import Derived.RangeFuncBox
import Derived.RangeFuncFrom
import Derived.Shelf.Abstract
import Derived.Shelf.RegionOpen
import Derived.WalkKit
import Derived.WalkMore
import Derived.OwnWalkIn
import Derived.TacticsInMore
import Derived.LoopNIn
import Derived.LoopIn
import Derived.Maps.AppendAt
import Derived.Laws.Rows
import Derived.Test.YtomgnpfpaodpiaaDoorK02
import Derived.Stop.RegionWithIn
import Derived.Test.YtomgnpfpaodpiaaDoorK01
import Derived.Laws.EntriesVeiled
import Derived.Laws.MakeOwn
set_option linter.unusedVariables false
set_option linter.unusedSimpArgs false
namespace Go.Proofs.YtomgnpfpaodpiaaDoor
open Go Go.RowKit Go.Shelf
attribute [local go_sem] Oper.semAt_some
theorem grown_of_below {w w' : World} (h : Below w.heap.size w w') : w.grownBy w' none :=
  ⟨h.os, h.tape, h.output, h.size, fun k hk _ => h.block k hk⟩
theorem abides_below {β : Type} {B : Nat} {J : β → World → Prop} (h : AbidesFrom B J) {s : β} {w w' : World} (hs : J s w) (hb : Below w.heap.size w w') : J s w' :=
  h s w w' none hs (grown_of_below hb) (fun r e => by cases e)
theorem keeps_of_below {A B : World} (h : Below A.heap.size A B) (k : Nat) : KeepsFrom k A B := KeepsFrom.of_grownBy (grown_of_below h) (fun j e => by cases e)
theorem boxed_below {W W' : World} {B : Nat} {t : TypeId} {v : Value} (h : Boxed W B t v) (hb : Below W.heap.size W W') : Boxed W' B t v := (hb.block B h.lt).trans h
def CellsBox (W : World) (B : Nat) (t : TypeId) (cs : List Value) : Prop := W.heap[B]? = some (.cells cs.toArray t (0, 0))
theorem CellsBox.lt {W : World} {B : Nat} {t : TypeId} {cs : List Value} (h : CellsBox W B t cs) : B < W.heap.size := (Array.getElem?_eq_some_iff.1 h).1
theorem CellsBox.cell {W : World} {B : Nat} {t : TypeId} {cs : List Value} (h : CellsBox W B t cs) {j : Nat} {u : Value} (hj : cs[j]? = some u) : W.cell? ⟨B, j, none⟩ = some u := by
  unfold World.cell?
  dsimp only
  rw [show W.heap[B]? = _ from h]
  simp [hj]
theorem CellsBox.frozen {W : World} {b : Nat} {t : TypeId} {cs : List Value} (h : CellsBox W b t cs) (j : Nat) : W.frozen? ⟨b, j, none⟩ = false := by simp [World.frozen?, show W.heap[b]? = _ from h]
theorem CellsBox.new (W : World) (t : TypeId) (cs : List Value) : CellsBox (W.alloc (.cells cs.toArray t)) W.heap.size t cs := World.alloc_heap_new W _
theorem CellsBox.keep {w w' : World} {b : Nat} {t : TypeId} {cs : List Value} (h : CellsBox w b t cs) (hb : Below w.heap.size w w') : CellsBox w' b t cs := (hb.block b h.lt).trans h
theorem CellsBox.apart {W : World} {b : Nat} {t : TypeId} {cs : List Value} (h : CellsBox W b t cs) (p : Addr) (v : Value) (hne : b ≠ p.block) : CellsBox (W.setCell p v) b t cs := (heap_setCell_other W p b v hne).trans h
theorem CellsBox.alloc {W : World} {b : Nat} {t : TypeId} {cs : List Value} (h : CellsBox W b t cs) (o : Obj) : CellsBox (W.alloc o) b t cs := h.keep ((Below.refl _ W).alloc (Nat.le_refl _) o)
theorem CellsBox.store {W : World} {b : Nat} {t : TypeId} {cs : List Value} (h : CellsBox W b t cs) (i : Nat) (v : Value) : CellsBox (W.setCell ⟨b, i, none⟩ v) b t (cs.set i v) := by
  have := heap_setCell_same W b i cs.toArray t v h
  unfold CellsBox
  rw [this]
  simp
theorem CellsBox.arr {W : World} {b : Nat} {p : List Int} (hl : p.length = 12) (h : CellsBox W b 102 (p.map vi)) : ArrAt W b p :=
  ⟨hl, fun j hj => h.cell (by rw [List.getElem?_map, List.getElem?_eq_getElem (by omega)]; simp [List.getElem?_eq_getElem (show j < p.length by omega)]), fun j hj => h.frozen j⟩
theorem CellsBox.setAll {W : World} {b : Nat} {z : List Int} (hl : z.length = 12) (h : CellsBox W b 102 (z.map vi)) (r0 r1 r2 r3 r4 r5 r6 r7 r8 r9 r10 r11 : Int) : CellsBox ((((((((((((W.setCell ⟨b, 0, none⟩ (vi r0)).setCell ⟨b, 1, none⟩ (vi r1)).setCell ⟨b, 2, none⟩ (vi r2)).setCell ⟨b, 3, none⟩ (vi r3)).setCell ⟨b, 4, none⟩ (vi r4)).setCell ⟨b, 5, none⟩ (vi r5)).setCell ⟨b, 6, none⟩ (vi r6)).setCell ⟨b, 7, none⟩ (vi r7)).setCell ⟨b, 8, none⟩ (vi r8)).setCell ⟨b, 9, none⟩ (vi r9)).setCell ⟨b, 10, none⟩ (vi r10)).setCell ⟨b, 11, none⟩ (vi r11)) b 102 ([r0, r1, r2, r3, r4, r5, r6, r7, r8, r9, r10, r11].map vi) := by
  obtain ⟨z0, z1, z2, z3, z4, z5, z6, z7, z8, z9, z10, z11, rfl⟩ := spread hl
  exact ((((((((((((h.store 0 (vi r0)).store 1 (vi r1)).store 2 (vi r2)).store 3 (vi r3)).store 4 (vi r4)).store 5 (vi r5)).store 6 (vi r6)).store 7 (vi r7)).store 8 (vi r8)).store 9 (vi r9)).store 10 (vi r10)).store 11 (vi r11))
/-- whatever lay below n₀ lies as it lay, the block L aside -/
structure Spare (n₀ L : Nat) (w w' : World) : Prop where
  os : w'.os = w.os
  tape : w'.tape = w.tape
  output : w'.output = w.output
  size : w.heap.size ≤ w'.heap.size
  block : ∀ k, k < n₀ → k ≠ L → w'.heap[k]? = w.heap[k]?
theorem Spare.refl (n₀ L : Nat) (w : World) : Spare n₀ L w w := ⟨rfl, rfl, rfl, Nat.le_refl _, fun _ _ _ => rfl⟩
theorem Spare.trans {n₀ L : Nat} {a b c : World} (h : Spare n₀ L a b) (k : Spare n₀ L b c) : Spare n₀ L a c :=
  ⟨k.os.trans h.os, k.tape.trans h.tape, k.output.trans h.output, Nat.le_trans h.size k.size, fun i hi hl => (k.block i hi hl).trans (h.block i hi hl)⟩
theorem spare_of_below {n₀ B : Nat} {a b : World} (L : Nat) (h : Below B a b) (hn : n₀ ≤ B) : Spare n₀ L a b := ⟨h.os, h.tape, h.output, h.size, fun k hk _ => h.block k (by omega)⟩
theorem Spare.cell {n₀ L : Nat} {a b : World} (h : Spare n₀ L a b) {p : Addr} (hp : p.block < n₀) (hl : p.block ≠ L) : b.cell? p = a.cell? p := by
  simp [World.cell?, h.block _ hp hl]
theorem Spare.below {n₀ L : Nat} {a b : World} (h : Spare n₀ L a b) {B : Nat} (h1 : B ≤ n₀) (h2 : B ≤ L) : Below B a b :=
  ⟨h.os, h.tape, h.output, h.size, fun k hk => h.block k (by omega) (by omega)⟩
/-- whatever lay below n₀ lies as it lay, and every block of cells that are not of type e, the block L aside -/
structure KE (e : TypeId) (n₀ L : Nat) (w w' : World) : Prop where
  spare : Spare n₀ L w w'
  boxes : ∀ (k : Nat) (c : Array Value) (t : TypeId), k ≠ L → t ≠ e → w.heap[k]? = some (.cells c t (0, 0)) → w'.heap[k]? = some (.cells c t (0, 0))
theorem KE.refl (e : TypeId) (n₀ L : Nat) (w : World) : KE e n₀ L w w := ⟨Spare.refl _ _ _, fun _ _ _ _ _ h => h⟩
theorem KE.trans {e : TypeId} {n₀ L : Nat} {a b c : World} (h : KE e n₀ L a b) (k : KE e n₀ L b c) : KE e n₀ L a c :=
  ⟨h.spare.trans k.spare, fun i x t hl ht hi => k.boxes i x t hl ht (h.boxes i x t hl ht hi)⟩
theorem KE.size {e : TypeId} {n₀ L : Nat} {a b : World} (h : KE e n₀ L a b) : a.heap.size ≤ b.heap.size := h.spare.size
theorem KE.turn {e : TypeId} {n₀ : Nat} (L : Nat) (W : World) (l : Nat) (o o' : Obj) (hn : n₀ ≤ l) (h : W.heap[l]? = some o) (h1 : o.isCells = false) : KE e n₀ L W (W.putObj l o') :=
  ⟨⟨rfl, rfl, rfl, by simp, fun k hk _ => World.putObj_heap_other (by omega)⟩, fun k c t _ _ hk => by
    by_cases e : k = l
    · subst e; rw [h] at hk; cases hk; cases h1
    · exact (World.putObj_heap_other e).trans hk⟩
theorem ke_of_below {e : TypeId} {n₀ L : Nat} {a b : World} (h : Below a.heap.size a b) (hn : n₀ ≤ a.heap.size) : KE e n₀ L a b :=
  ⟨spare_of_below L h hn, fun k c t _ _ hk => (h.block k (Array.getElem?_eq_some_iff.1 hk).1).trans hk⟩
theorem KE.box {e : TypeId} {n₀ L B : Nat} {a b : World} {t : TypeId} {cs : List Value} (h : KE e n₀ L a b) (hl : B ≠ L) (ht : t ≠ e) (hc : CellsBox a B t cs) : CellsBox b B t cs := h.boxes B _ t hl ht hc
end Go.Proofs.YtomgnpfpaodpiaaDoor
/- What loads produces: plain mathematics. -/
namespace Go.Proofs.YtomgnpfpaodpiaaDoor
open Go Go.RowKit Go.Shelf
def sumF (p : List Int) : Int := p.sum
theorem sum_set : ∀ (p : List Int) (k : Nat) (n x : Int), p[k]? = some n → (p.set k x).sum = p.sum - n + x
  | [], _, _, _, h => by simp at h
  | a :: p, 0, n, x, h => by simp at h; subst h; simp; omega
  | a :: p, k + 1, n, x, h => by
    simp only [List.set_cons_succ, List.sum_cons]
    rw [sum_set p k n x (by simpa using h)]
    omega
theorem sum_nonneg : ∀ p : List Int, (∀ n ∈ p, 0 ≤ n) → 0 ≤ p.sum
  | [], _ => by simp
  | a :: p, h => by
    have := sum_nonneg p (fun n hn => h n (by simp [hn]))
    have := h a (by simp)
    simp; omega
theorem zeros_of_sum : ∀ p : List Int, (∀ n ∈ p, 0 ≤ n) → p.sum ≤ 0 → ∀ n ∈ p, n = 0
  | [], _, _, n, h => by simp at h
  | a :: p, h, hs, n, hn => by
    have h1 := sum_nonneg p (fun n hn => h n (by simp [hn]))
    have h2 := h a (by simp)
    simp only [List.sum_cons] at hs
    rcases List.mem_cons.1 hn with rfl | hn
    · omega
    · exact zeros_of_sum p (fun n hn => h n (by simp [hn])) (by omega) n hn
theorem last_some {p : List Int} (h : p.length = 12) (hz : ¬ p = [0, 0, 0, 0, 0, 0, 0, 0, 0, 0, 0, 0]) (hp : ∀ n ∈ p, 0 ≤ n) : ∃ s, lastF p = some s := by
  have hl := lastF_is p
  cases hf : lastF p with
  | some s => exact ⟨s, rfl⟩
  | none =>
    rw [hf] at hl
    refine absurd ?_ hz
    apply List.ext_getElem (by simp [h])
    intro i h1 h2
    have a := hp _ (List.getElem_mem h1)
    have b := hl i _ (List.getElem?_eq_getElem h1)
    have c : ([0, 0, 0, 0, 0, 0, 0, 0, 0, 0, 0, 0] : List Int)[i] = 0 := by
      have : ∀ x ∈ ([0, 0, 0, 0, 0, 0, 0, 0, 0, 0, 0, 0] : List Int), x = 0 := by simp
      exact this _ (List.getElem_mem h2)
    rw [c]; omega
theorem move_sum {m : Int} {x : List Int × List Int} (h1 : Twelve m x.1) : (moveF x).1.sum ≤ x.1.sum ∧ ((∃ s, lastF x.1 = some s) → (moveF x).1.sum < x.1.sum) := by
  unfold moveF
  have hl := lastF_is x.1
  cases hf : lastF x.1 with
  | none => simp
  | some s =>
    rw [hf] at hl
    obtain ⟨⟨n, hn, hp⟩, _⟩ := hl
    simp only [hn, Option.getD_some]
    rw [sum_set _ _ _ _ hn]
    exact ⟨by omega, fun _ => by omega⟩
theorem moves_sum {m : Int} {p : List Int} (h : Twelve m p) : ∀ k : Nat, (movesF k p).1.sum ≤ p.sum ∧ (1 ≤ k → (∃ s, lastF p = some s) → (movesF k p).1.sum < p.sum)
  | 0 => ⟨Int.le_refl _, fun h => by omega⟩
  | k + 1 => by
    obtain ⟨i1, i2⟩ := moves_sum h k
    have hm := move_sum (moves_ok h k).1
    rw [movesF_succ]
    refine ⟨by omega, fun _ hs => ?_⟩
    rcases Nat.eq_zero_or_pos k with rfl | hk
    · exact (hm.2 hs)
    · have := i2 hk hs; omega
theorem without_moves {m : Int} {p : List Int} (h : Twelve m p) (c : Nat) : withoutF p (farthestF c p) = (movesF c p).1 := by
  obtain ⟨i1, i2, i3⟩ := moves_ok h c
  rw [farthest_is]
  have hl := h.len
  have l1 := i1.len
  have l2 := i2.len
  apply List.ext_getElem (by simp [withoutF, hl, l1, l2])
  intro j h1 h2
  have := i3 j p[j] (movesF c p).1[j] (movesF c p).2[j] (List.getElem?_eq_getElem _) (List.getElem?_eq_getElem _) (List.getElem?_eq_getElem (by omega))
  simp only [withoutF, List.getElem_map, List.getElem_zip]
  omega
theorem loads_zero (c n : Nat) : loadsF c n [0, 0, 0, 0, 0, 0, 0, 0, 0, 0, 0, 0] = [] := by cases n <;> simp [loadsF]
theorem loads_more {c n : Nat} {p : List Int} (hn : p.sum ≤ n) (hp : ∀ x ∈ p, 0 ≤ x) (h : p.length = 12) (hz : ¬ p = [0, 0, 0, 0, 0, 0, 0, 0, 0, 0, 0, 0]) : ∃ n', n = n' + 1 ∧ loadsF c n p = farthestF c p :: loadsF c n' (withoutF p (farthestF c p)) := by
  have hpos : 0 < p.sum := by
    rcases Int.lt_or_le 0 p.sum with h1 | h1
    · exact h1
    · refine absurd ?_ hz
      have := zeros_of_sum p hp h1
      apply List.ext_getElem (by simp [h])
      intro i h1 h2
      have c : ([0, 0, 0, 0, 0, 0, 0, 0, 0, 0, 0, 0] : List Int)[i] = 0 := by
        have : ∀ x ∈ ([0, 0, 0, 0, 0, 0, 0, 0, 0, 0, 0, 0] : List Int), x = 0 := by simp
        exact this _ (List.getElem_mem h2)
      rw [c]
      exact this _ (List.getElem_mem h1)
  obtain ⟨n', rfl⟩ : ∃ n', n = n' + 1 := ⟨n - 1, by omega⟩
  refine ⟨n', rfl, ?_⟩
  rw [loadsF, if_neg]
  intro ha
  refine hz ?_
  have := List.all_eq_true.1 ha
  apply List.ext_getElem (by simp [h])
  intro i h1 h2
  have c : ([0, 0, 0, 0, 0, 0, 0, 0, 0, 0, 0, 0] : List Int)[i] = 0 := by
    have : ∀ x ∈ ([0, 0, 0, 0, 0, 0, 0, 0, 0, 0, 0, 0] : List Int), x = 0 := by simp
    exact this _ (List.getElem_mem h2)
  rw [c]
  simpa using this _ (List.getElem_mem h1)
/-- there are pieces of the first n shelves alone -/
def Only (n : Nat) (p : List Int) : Prop := ∀ (k : Nat) (x : Int), p[k]? = some x → 0 < x → k < n
theorem only_parts {m : Int} {p : List Int} {n : Nat} (h : Twelve m p) (ho : Only n p) (c : Nat) : Only n (movesF c p).1 ∧ Only n (movesF c p).2 := by
  obtain ⟨i1, i2, i3⟩ := moves_ok h c
  have both : ∀ k : Nat, k < 12 → ∃ a b x, p[k]? = some a ∧ (movesF c p).1[k]? = some b ∧ (movesF c p).2[k]? = some x ∧ 0 ≤ b ∧ 0 ≤ x ∧ b + x = a := fun k hk => by
    obtain ⟨a, ha, _⟩ := h.at_ hk
    obtain ⟨b, hb, b0, _⟩ := i1.at_ hk
    obtain ⟨x, hx, x0, _⟩ := i2.at_ hk
    exact ⟨a, b, x, ha, hb, hx, b0, x0, i3 k a b x ha hb hx⟩
  refine ⟨fun k x hx h0 => ?_, fun k x hx h0 => ?_⟩
  · obtain ⟨a, b, y, ha, hb, hy, b0, y0, e⟩ := both k (by have := (List.getElem?_eq_some_iff.1 hx).1; rw [i1.len] at this; exact this)
    rw [hb] at hx; cases hx
    exact ho k a ha (by omega)
  · obtain ⟨a, b, y, ha, hb, hy, b0, y0, e⟩ := both k (by have := (List.getElem?_eq_some_iff.1 hx).1; rw [i2.len] at this; exact this)
    rw [hy] at hx; cases hx
    exact ho k a ha (by omega)
/-- a load of a floor of n shelves, that carries no more than c -/
abbrev Load (n c : Nat) := { q : List Int // Twelve c q ∧ Only n q }
abbrev Load.enc {n c : Nat} (q : Load n c) : Array Value := #[piecesV q.1]
abbrev Loads {n c : Nat} (ys : List (Load n c)) : List (List Int) := ys.map Subtype.val
/-- what is so ahead of a round: what was given, and what is left -/
structure Mid (c n : Nat) (all pre : List (List Int)) (left : List Int) (fuel : Nat) : Prop where
  tw : Twelve 12000 left
  on : Only n left
  sum : left.sum ≤ fuel
  list : pre ++ loadsF c fuel left = all
theorem Mid.done {c n fuel : Nat} {all pre : List (List Int)} (h : Mid c n all pre [0, 0, 0, 0, 0, 0, 0, 0, 0, 0, 0, 0] fuel) : pre = all := by
  have := h.list
  rwa [loads_zero, List.append_nil] at this
theorem Mid.next {c n fuel : Nat} {all pre : List (List Int)} {left : List Int} (hc : 1 ≤ c) (h : Mid c n all pre left fuel) (hz : ¬ left = [0, 0, 0, 0, 0, 0, 0, 0, 0, 0, 0, 0]) : ∃ q r fuel', farthestF c left = q ∧ withoutF left q = r ∧ Twelve c q ∧ Only n q ∧ r.sum < left.sum ∧ 0 ≤ r.sum ∧ pre.length < all.length ∧ Mid c n all (pre ++ [q]) r fuel' := by
  obtain ⟨fuel', rfl, hl⟩ := loads_more (c := c) h.sum h.tw.pos h.tw.len hz
  have hw := without_moves h.tw c
  obtain ⟨i1, i2, i3⟩ := moves_ok h.tw c
  obtain ⟨o1, o2⟩ := only_parts h.tw h.on c
  have hs := (moves_sum h.tw c).2 hc (last_some h.tw.len hz h.tw.pos)
  rw [hw] at hl
  have hall := h.list
  rw [hl] at hall
  refine ⟨_, _, fuel', rfl, hw, by rw [farthest_is]; exact i2, by rw [farthest_is]; exact o2, hs, sum_nonneg _ i1.pos, ?_, i1, o1, by have := h.sum; omega, ?_⟩
  · rw [← hall]; simp
  · rw [← hall]; simp
theorem Mid.start {c n fuel : Nat} {p : List Int} (h : Twelve 12000 p) (ho : Only n p) (hs : p.sum ≤ fuel) : Mid c n (loadsF c fuel p) [] p fuel := ⟨h, ho, hs, rfl⟩
end Go.Proofs.YtomgnpfpaodpiaaDoor
/- A range over an iterator that writes cells of its own: the invariant abides the turn of whatever lies beyond the call's beginning and is no row of one type. -/
namespace Go.Proofs.YtomgnpfpaodpiaaDoor
open Go Go.RowKit Go.Shelf
variable {F : Fence} {n : Nat} {P : Program}
def NotRow (te : TypeId) (o : Obj) : Prop := o.isCells = false ∨ ∃ c z, o = .cells c te z
def OwnE {β : Type} (te : TypeId) (B : Nat) (I : β → World → Prop) : Prop :=
  ∀ s W W' row, I s W → W.grownBy W' row → (∀ r, row = some r → B ≤ r ∧ ∃ o : Obj, W.heap[r]? = some o ∧ NotRow te o) → I s W'
theorem OwnE.own {β : Type} {te : TypeId} {B : Nat} {I : β → World → Prop} (h : OwnE te B I) : OwnFrom B I := fun s W W' row hs hg hr =>
  h s W W' row hs hg fun r e => ⟨(hr r e).1, by obtain ⟨_, o, ho, hc⟩ := hr r e; exact ⟨o, ho, .inl hc⟩⟩
theorem OwnE.below {β : Type} {te : TypeId} {B : Nat} {J : β → World → Prop} (h : OwnE te B J) {s : β} {w w' : World} (hs : J s w) (hb : Below w.heap.size w w') : J s w' :=
  h s w w' none hs (grown_of_below hb) (fun r e => by cases e)
theorem grownBy_set (W : World) (b k : Nat) (v : Value) : W.grownBy (W.setCell ⟨b, k, none⟩ v) (some b) :=
  ⟨rfl, rfl, rfl, by simp, fun i _ hn => heap_setCell_other W _ i v (fun e => hn (by rw [e]))⟩
theorem OwnE.set {β : Type} {te : TypeId} {B : Nat} {J : β → World → Prop} (h : OwnE te B J) {s : β} {W : World} {b : Nat} {cs : List Value} (hc : CellsBox W b te cs) (hB : B ≤ b) (k : Nat) (v : Value) (hs : J s W) : J s (W.setCell ⟨b, k, none⟩ v) :=
  h s W _ (some b) hs (grownBy_set W b k v) (fun r e => by cases e; exact ⟨hB, _, hc, .inr ⟨_, _, rfl⟩⟩)
theorem OwnE.and {β : Type} {te : TypeId} {B : Nat} {I J : β → World → Prop} (h : OwnE te B I) (k : OwnE te B J) : OwnE te B (fun s W => I s W ∧ J s W) := fun s W W' row hs hg hr => ⟨h s W W' row hs.1 hg hr, k s W W' row hs.2 hg hr⟩
theorem CellsBox.both {β : Type} {J : β → World → Prop} {W a : World} {b B B2 : Nat} {z : List Int} (hl : z.length = 12) (h : CellsBox W b 102 (z.map vi)) (hB : Below B a W) (hb : B ≤ b) (hJ : OwnE 102 B2 J) (hb2 : B2 ≤ b) (r0 r1 r2 r3 r4 r5 r6 r7 r8 r9 r10 r11 : Int) : CellsBox ((((((((((((W.setCell ⟨b, 0, none⟩ (vi r0)).setCell ⟨b, 1, none⟩ (vi r1)).setCell ⟨b, 2, none⟩ (vi r2)).setCell ⟨b, 3, none⟩ (vi r3)).setCell ⟨b, 4, none⟩ (vi r4)).setCell ⟨b, 5, none⟩ (vi r5)).setCell ⟨b, 6, none⟩ (vi r6)).setCell ⟨b, 7, none⟩ (vi r7)).setCell ⟨b, 8, none⟩ (vi r8)).setCell ⟨b, 9, none⟩ (vi r9)).setCell ⟨b, 10, none⟩ (vi r10)).setCell ⟨b, 11, none⟩ (vi r11)) b 102 ([r0, r1, r2, r3, r4, r5, r6, r7, r8, r9, r10, r11].map vi) ∧ Below B a ((((((((((((W.setCell ⟨b, 0, none⟩ (vi r0)).setCell ⟨b, 1, none⟩ (vi r1)).setCell ⟨b, 2, none⟩ (vi r2)).setCell ⟨b, 3, none⟩ (vi r3)).setCell ⟨b, 4, none⟩ (vi r4)).setCell ⟨b, 5, none⟩ (vi r5)).setCell ⟨b, 6, none⟩ (vi r6)).setCell ⟨b, 7, none⟩ (vi r7)).setCell ⟨b, 8, none⟩ (vi r8)).setCell ⟨b, 9, none⟩ (vi r9)).setCell ⟨b, 10, none⟩ (vi r10)).setCell ⟨b, 11, none⟩ (vi r11)) ∧ ∀ s, J s W → J s ((((((((((((W.setCell ⟨b, 0, none⟩ (vi r0)).setCell ⟨b, 1, none⟩ (vi r1)).setCell ⟨b, 2, none⟩ (vi r2)).setCell ⟨b, 3, none⟩ (vi r3)).setCell ⟨b, 4, none⟩ (vi r4)).setCell ⟨b, 5, none⟩ (vi r5)).setCell ⟨b, 6, none⟩ (vi r6)).setCell ⟨b, 7, none⟩ (vi r7)).setCell ⟨b, 8, none⟩ (vi r8)).setCell ⟨b, 9, none⟩ (vi r9)).setCell ⟨b, 10, none⟩ (vi r10)).setCell ⟨b, 11, none⟩ (vi r11)) := by
  refine ⟨h.setAll hl r0 r1 r2 r3 r4 r5 r6 r7 r8 r9 r10 r11, ((((((((((((hB.setCell hb _).setCell hb _).setCell hb _).setCell hb _).setCell hb _).setCell hb _).setCell hb _).setCell hb _).setCell hb _).setCell hb _).setCell hb _).setCell hb _), fun s hs => ?_⟩
  have k0 := hJ.set (h) hb2 0 (vi r0) hs
  have q0 := (h).store 0 (vi r0)
  have k1 := hJ.set (q0) hb2 1 (vi r1) k0
  have q1 := (q0).store 1 (vi r1)
  have k2 := hJ.set (q1) hb2 2 (vi r2) k1
  have q2 := (q1).store 2 (vi r2)
  have k3 := hJ.set (q2) hb2 3 (vi r3) k2
  have q3 := (q2).store 3 (vi r3)
  have k4 := hJ.set (q3) hb2 4 (vi r4) k3
  have q4 := (q3).store 4 (vi r4)
  have k5 := hJ.set (q4) hb2 5 (vi r5) k4
  have q5 := (q4).store 5 (vi r5)
  have k6 := hJ.set (q5) hb2 6 (vi r6) k5
  have q6 := (q5).store 6 (vi r6)
  have k7 := hJ.set (q6) hb2 7 (vi r7) k6
  have q7 := (q6).store 7 (vi r7)
  have k8 := hJ.set (q7) hb2 8 (vi r8) k7
  have q8 := (q7).store 8 (vi r8)
  have k9 := hJ.set (q8) hb2 9 (vi r9) k8
  have q9 := (q8).store 9 (vi r9)
  have k10 := hJ.set (q9) hb2 10 (vi r10) k9
  have q10 := (q9).store 10 (vi r10)
  have k11 := hJ.set (q10) hb2 11 (vi r11) k10
  have q11 := (q10).store 11 (vi r11)
  exact k11
/-- what an iterator gives whose rounds all go on -/
def SeqE {α : Type} (F : Fence) (n : Nat) (P : Program) (g : Nat) (lb : Array Value) (encs : α → Array Value) (Kp : World → World → Prop) (S : List α → Prop) (N : Nat) (te : TypeId) (w : World) : Prop :=
  ∀ (l : Nat) (J : List α → World → Prop) (W : World), Below w.heap.size w W → OwnE te W.heap.size J →
    (∀ pre x W1, J pre W1 → pre.length < N → YieldAt F (n - 1) P l (encs x) W1 fun e W' => e = .returned (.bool true) ∧ J (pre ++ [x]) W' ∧ Kp W1 W' ∧ KeepsFrom W.heap.size W1 W') →
    J [] W → CallsIn F n P g (#[.func (.yield l) #[] #[]] ++ lb) W fun e W' => (∃ v, e = .returned v) ∧ ∃ xs, S xs ∧ J xs W'
/-- the rounds of a loop whose record lies at l -/
theorem calls_turnE {α : Type} {ps : Array Tmp} {assign body : Code} {Q : Exit → Act → World → Prop} {t : Array Value} {a' : Act} {W1 : World} {fn : FuncId} {l D : Nat}
    (hfn : F.fn fn) (hl1 : W1.heap[l]? = some (.loop (lrec fn t ps assign body D .ready))) {gf : Nat} {lb : Array Value}
    {encs : α → Array Value} {Kp : World → World → Prop} {S : List α → Prop} {N : Nat} {te : TypeId} {w0 : World} (hseq : SeqE F (n - 1) P gf lb encs Kp S N te w0)
    (hKt : ∀ {A B C : World}, Kp A B → Kp B C → Kp A C) (hKb : ∀ (W : World) (o o' : Obj), W.heap[l]? = some o → o.isCells = false → o.isWalk = false → Kp W (W.putObj l o')) (hb0 : Below w0.heap.size w0 W1) (hps : ∀ x, (encs x).size = ps.size)
    (I : List α → World → Prop) (hI : OwnE te l I) (h0 : I [] W1) (Ax : α → Act → World → Prop) (hAx : ∀ x b, OwnFrom l (fun (_ : Unit) W => Ax x b W))
    (hassign : ∀ (pre : List α) (x : α) (W : World) (K : Act → World → Prop), I pre W → (∀ b W', KeepsFrom l W W' → Kp W W' → I pre W' → Ax x b W' → K b W') →
      assign.wpIn (F.inRound l) (n - 1 - 1) P (Exit.then K (fun _ _ _ => False)) { tmps := (ps.zip (encs x)).foldl (fun t (p, v) => t.setIfInBounds p v) t, defers := [] } W)
    (hbody : ∀ (pre : List α) (x : α) (b : Act) (W : World), (∃ r, W.heap[l]? = some (.loop r)) → I pre W → Ax x b W → pre.length < N → body.wpIn (F.inRound l) (n - 1 - 1) P (ownPostG l Kp I (fun _ _ _ => False) (pre ++ [x]) W) b W)
    (hdone : ∀ (xs : List α) (W : World), S xs → I xs W → Q .normal a' W) :
    CallsIn F (n - 1) P gf (#[.func (.yield l) #[] #[]] ++ lb) W1 (rangePost F n P l Q a') := by
  have hlW : l < W1.heap.size := (Array.getElem?_eq_some_iff.1 hl1).1
  refine (hseq l (fun pre W => I pre W ∧ W.heap[l]? = some (.loop (lrec fn t ps assign body D .ready))) W1 hb0 ?_ ?_ ⟨h0, hl1⟩).mono ?_
  · intro s A B row hs hg hr
    exact ⟨hI s A B row hs.1 hg (fun r e => ⟨by have := (hr r e).1; omega, (hr r e).2⟩), heap_stays hg (fun r e => (hr r e).1) hs.2 hlW⟩
  · rintro pre x W ⟨hi, hl⟩ hlen
    have hy := run_yield (P := P) (args := encs x) hl (hps x)
    refine ⟨fn, _, assign, body, hy, roundIn_of_wpIn hfn (hassign pre x W _ hi ?_)⟩
    intro b Wa hkf hkp hia hax
    have hla := hkf.same l _ (Nat.le_refl _) hl rfl
    have hlt : l < Wa.heap.size := (Array.getElem?_eq_some_iff.1 hla).1
    refine ⟨_, run_beginRound hla rfl, ?_⟩
    have hl2 : (Wa.putObj l (.loop (lrec fn t ps assign body D .busy))).heap[l]? = some (.loop (lrec fn t ps assign body D .busy)) := World.putObj_heap_same hlt
    refine wpIn_mono (hbody pre x b _ ⟨_, hl2⟩ (hI.own.putObj _ hia (Nat.le_refl _) hla rfl) ((hAx x b).putObj (s := ()) _ hax (Nat.le_refl _) hla rfl) hlen) ?_
    rintro e a3 W3 hp
    cases e with
    | normal =>
      obtain ⟨hk3, hkp3, hi3⟩ := hp
      have hl3 := hk3.same l _ (Nat.le_refl _) hl2 rfl
      have hr := run_endRound (P := P) none hl3
      exact ⟨_, _, hr, rfl, ⟨hI.own.putObj _ hi3 (Nat.le_refl _) hl3 rfl, World.putObj_heap_same (Array.getElem?_eq_some_iff.1 hl3).1⟩, hKt hkp (hKt (hKt (hKb _ _ _ hla rfl rfl) hkp3) (hKb _ _ _ hl3 rfl rfl)), ((keeps_up hkf (by omega)).trans (((keeps_put _ _ hlW).trans (keeps_up hk3 (by omega))).trans (keeps_put _ _ hlW)))⟩
    | ret => exact hp.2.elim
    | exit id => exact hp.2.elim
    | goto t => exact hp.2.elim
    | panic ch => exact hp.elim
    | outgrown => exact hp.elim
  · rintro e W2 ⟨⟨v, rfl⟩, xs, hS, hi, hl⟩
    have := run_endLoop (P := P) hl (by simp)
    exact ⟨none, _, this, hdone xs _ hS (hI.own.putObj _ hi (Nat.le_refl _) hl rfl)⟩
/-- such a loop, outermost: its block for deferred calls lies ahead of its record -/
theorem range_outerE {α : Type} {g : Operand} {ps : Array Tmp} {assign body : Code} {Q : Exit → Act → World → Prop} {a : Act} {w : World}
    (hro : F.round = none) (h1 : 1 ≤ n) {gf : Nat} {lb : Array Value} (hg : a.eval g = .func (.func gf) #[] lb) (hFg : F.fn gf) (eg : ∀ args w, (callFunc gf args).run P w = .ok (.enter gf args) w)
    {encs : α → Array Value} {Kp : World → World → Prop} {S : List α → Prop} {N : Nat} {te : TypeId} {w0 : World} (hseq : SeqE F (n - 1) P gf lb encs Kp S N te w0)
    (hKt : ∀ {A B C : World}, Kp A B → Kp B C → Kp A C) (hKb : ∀ (W : World) (l : Nat) (o o' : Obj), w.heap.size ≤ l → W.heap[l]? = some o → o.isCells = false → o.isWalk = false → Kp W (W.putObj l o')) (hb0 : Below w0.heap.size w0 w) (hps : ∀ x, (encs x).size = ps.size)
    (I : List α → World → Prop) (hI : OwnE te w.heap.size I) (h0 : I [] w) (Ax : α → Act → World → Prop) (hAx : ∀ x b, OwnFrom w.heap.size (fun (_ : Unit) W => Ax x b W))
    (hassign : ∀ (l : Nat) (pre : List α) (x : α) (W : World) (K : Act → World → Prop), I pre W → (∀ b W', KeepsFrom w.heap.size W W' → Kp W W' → I pre W' → Ax x b W' → K b W') →
      assign.wpIn (F.inRound l) (n - 1 - 1) P (Exit.then K (fun _ _ _ => False)) { tmps := (ps.zip (encs x)).foldl (fun t (p, v) => t.setIfInBounds p v) a.tmps, defers := [] } W)
    (hbody : ∀ (l : Nat) (pre : List α) (x : α) (b : Act) (W : World), w.heap.size ≤ l → (∃ r, W.heap[l]? = some (.loop r)) → I pre W → Ax x b W → pre.length < N → body.wpIn (F.inRound l) (n - 1 - 1) P (ownPostG w.heap.size Kp I (fun _ _ _ => False) (pre ++ [x]) W) b W)
    (hdone : ∀ (D : Nat) (xs : List α) (W : World), w.heap.size ≤ D → S xs → I xs W → W.heap[D]? = some (.deferred (some [])) → Q .normal { a with defers := { target := .collected D, args := #[] } :: a.defers } W) :
    (Code.rangeFunc g ps assign body).wpIn F n P Q a w := by
  refine wpIn_rangeFunc fun fn hfn => ?_
  rw [hro]
  obtain ⟨W1, hW1⟩ : ∃ W1, (w.alloc (.deferred (some []))).alloc (.loop (lrec fn a.tmps ps assign body w.heap.size .ready)) = W1 := ⟨_, rfl⟩
  have hl1 : W1.heap[w.heap.size + 1]? = some (.loop (lrec fn a.tmps ps assign body w.heap.size .ready)) := by
    subst hW1
    have := World.alloc_heap_new (w.alloc (.deferred (some []))) (.loop (lrec fn a.tmps ps assign body w.heap.size .ready))
    rwa [World.size_alloc] at this
  have hd1 : W1.heap[w.heap.size]? = some (.deferred (some [])) := by
    subst hW1
    exact (Below.heap_alloc _ _ _ (by simp)).trans (World.alloc_heap_new w _)
  have hI1 : I [] W1 := by subst hW1; exact hI.own.alloc _ (hI.own.alloc _ h0)
  have hb1 : Below w0.heap.size w0 W1 := by subst hW1; exact hb0.trans ((((Below.refl _ w).alloc (Nat.le_refl _) _).alloc (by simp) _).mono hb0.size)
  refine ⟨w.heap.size + 1, [{ target := .collected w.heap.size, args := #[] }], W1, { target := .fn (.func gf) lb, args := #[.func (.yield (w.heap.size + 1)) #[] #[]] }, W1, gf, #[.func (.yield (w.heap.size + 1)) #[] #[]] ++ lb, W1, ?_, ?_, ?_, ?_, fun _ => h1, ?_⟩
  · rw [← hW1]; exact run_enterLoop_outer _ _ _ _ _
  · simp only [resolve, hg]
    simp [go_sem]
  · intro f' hf'; simp [Target.leads] at hf'; subst hf'; exact hFg
  · simp [invoke, go_sem, eg]
  · have hupE : OwnE te (w.heap.size + 1) I := fun s A B row hs hg hr => hI s A B row hs hg (fun r e => ⟨by have := (hr r e).1; omega, (hr r e).2⟩)
    have hup : ∀ {s : Type} {X : s → World → Prop}, OwnFrom w.heap.size X → OwnFrom (w.heap.size + 1) X := fun h s A B row hs hg hr => h s A B row hs hg (fun r e => ⟨by have := (hr r e).1; omega, (hr r e).2⟩)
    refine calls_turnE (Q := Q) (a' := { a with defers := [{ target := .collected w.heap.size, args := #[] }] ++ a.defers }) hfn hl1 hseq (fun h k => hKt h k) (fun W o o' => hKb W _ o o' (by omega)) hb1 hps
      (fun pre W => I pre W ∧ W.heap[w.heap.size]? = some (.deferred (some []))) ?_ ⟨hI1, hd1⟩ Ax (fun x b => hup (hAx x b)) ?_ ?_ ?_
    · intro s A B row hs hg hr
      exact ⟨hupE s A B row hs.1 hg hr, heap_stays hg (fun r e => (hr r e).1) hs.2 (by omega)⟩
    · rintro pre x W K ⟨hi, hd⟩ hK
      refine hassign _ pre x W K hi fun b W' h1 h2 h3 h4 => hK b W' ⟨h1.size, fun k o hk => h1.same k o (by omega)⟩ h2 ⟨h3, h1.same _ _ (Nat.le_refl _) hd rfl⟩ h4
    · rintro pre x b W hr ⟨hi, hd⟩ hax hlen
      refine wpIn_mono (hbody _ pre x b W (by omega) hr hi hax hlen) ?_
      rintro e a3 W3 hp
      cases e with
      | normal => exact ⟨⟨hp.1.size, fun k o hk => hp.1.same k o (by omega)⟩, hp.2.1, hp.2.2, hp.1.same _ _ (Nat.le_refl _) hd rfl⟩
      | ret => exact hp.2.elim
      | exit id => exact hp.2.elim
      | goto t => exact hp.2.elim
      | panic ch => exact hp.elim
      | outgrown => exact hp.elim
    · rintro xs W hS ⟨hi, hd⟩
      exact hdone _ xs W (Nat.le_refl _) hS hi hd
end Go.Proofs.YtomgnpfpaodpiaaDoor
/- What produces loads: its contract. -/
namespace Go.Proofs.YtomgnpfpaodpiaaDoor
open Go Go.RowKit Go.Shelf
set_option maxHeartbeats 2000000
attribute [local go_sem] Oper.semAt_some
abbrev Floor.cells (f : Floor) : List Value := [.slice f.fA f.far.length f.fC, vi f.slo, vi f.shi, .slice f.pA f.picks.length f.pC, vi f.carry, .slice f.sA f.slips.length f.sC]
/-- what loads holds -/
structure LoadsAt (w : World) (bF bn : Nat) (f : Floor) (n : Nat) : Prop where
  cF : CellsBox w bF 89 f.cells
  cn : CellsBox w bn 3 [vi n]
abbrev loadsV (bF bn : Nat) : Value := .func (.func 94) #[] #[.pointer (some ⟨bF, 0, none⟩), .pointer (some ⟨bn, 0, none⟩)]
theorem loads_any (f : Floor) (n : Nat) (w : World) :
    Calls Tryd.prog 63 #[f.val, vi n] w fun e w' => ∃ bF bn, e = .returned (loadsV bF bn) ∧ (w.heap.size ≤ bF ∧ w.heap.size ≤ bn) ∧ LoadsAt w' bF bn f n ∧ Below w.heap.size w w' := by
  obtain ⟨fA, fC, ff, slo, shi, pA, pC, fp, fc, sA, sC, fs⟩ := f
  show Calls Tryd.prog 63 #[.agg #[.slice fA ff.length fC, vi slo, vi shi, .slice pA fp.length pC, vi fc, .slice sA fs.length sC], vi n] w _
  go_enter Tryd.func63, Tryd.ntmps63
  have X1 := CellsBox.new w 89 [.slice fA ff.length fC, vi slo, vi shi, .slice pA fp.length pC, vi fc, .slice sA fs.length sC]
  have X2 := X1.alloc (.cells #[vi n] 3)
  have X3 := CellsBox.new (w.alloc (.cells #[.slice fA ff.length fC, vi slo, vi shi, .slice pA fp.length pC, vi fc, .slice sA fs.length sC] 89)) 3 [vi n]
  have HX2 := Lib.hid X2
  have HX3 := Lib.hid X3
  clear X1 X2 X3
  go_wp2
  go_ret
  refine ⟨_, _, rfl, ⟨Nat.le_refl _, by omega⟩, ⟨HX2.out, ?_⟩, ?_⟩
  · simpa using HX3.out
  · (repeat (first | exact Below.refl _ _ | refine Below.setCell ?_ (by first | omega | (simp; omega) | (simp; done)) _ | refine Below.alloc ?_ (by first | omega | (simp; omega) | (simp; done)) _ | refine Below.drew ?_ | refine below_drewN ?_ _ | refine Below.trans ?_ (Below.mono (by assumption) (by first | omega | (simp; omega) | (simp; done)))))
def sumOf (b : Nat) (W : World) : Nat := (((List.range 12).map fun j => intOf ((W.cell? ⟨b, j, none⟩).getD undef)).sum).toNat
theorem sumOf_is {W : World} {b : Nat} {p : List Int} (h : ArrAt W b p) : sumOf b W = p.sum.toNat := by
  have hl := h.len
  have hc := h.cell
  obtain ⟨r0, r1, r2, r3, r4, r5, r6, r7, r8, r9, r10, r11, rfl⟩ := spread hl
  have e : (List.range 12) = [0, 1, 2, 3, 4, 5, 6, 7, 8, 9, 10, 11] := by decide
  unfold sumOf
  rw [e]
  simp [hc, intOf]
set_option maxRecDepth 100000 in
theorem loads1_any (f : Floor) (c m : Nat) (hc : f.carry = c) (hc1 : 1 ≤ c) (hc2 : c ≤ 20) (s : SSlip) (hs : f.slips[m]? = some s) (hok : LinesOk s.lines) (htw : Twelve 12000 (piecesF s.lines)) (ho : Only f.far.length (piecesF s.lines)) (fuel : Nat) (hfuel : (piecesF s.lines).sum ≤ fuel)
    (all : List (List Int)) (hall : loadsF c fuel (piecesF s.lines) = all) (et : TypeId) (t1 : 89 ≠ et) (t2 : 3 ≠ et) (t3 : 102 ≠ et)
    (n : Nat) (hn : 1 ≤ n) (l bF bn n₀ B₀ L : Nat) (J : List (Load f.far.length c) → World → Prop) (W : World)
    (hJ : OwnE 102 W.heap.size J)
    (hY : ∀ pre x W1, J pre W1 → pre.length < all.length → YieldAt Fence.wide (n - 1) Tryd.prog l x.enc W1 fun e W' => e = .returned (.bool true) ∧ J (pre ++ [x]) W' ∧ KE et n₀ L W1 W' ∧ KeepsFrom W.heap.size W1 W')
    (hn₀ : n₀ ≤ W.heap.size) (hB₀ : B₀ ≤ n₀) (hBL : B₀ ≤ L) (hL : L < W.heap.size) (lF : bF ≠ L) (ln : bn ≠ L)
    (hA : LoadsAt W bF bn f m) (hI : FloorAt W B₀ f) (h0 : J [] W) :
    CallsIn Fence.wide n Tryd.prog 94 #[.func (.yield l) #[] #[], .pointer (some ⟨bF, 0, none⟩), .pointer (some ⟨bn, 0, none⟩)] W fun e W' => (∃ v, e = .returned v) ∧
      ∃ ys, Loads ys = all ∧ J ys W' := by
  have hsll := hI.slips.lens
  have HI := Lib.hid hI
  have HA := Lib.hid hA
  obtain ⟨bs, os, hsA, hbs, s0, s1⟩ := row2 hI.slips.row hs rfl
  have HSL := Lib.hid (hI.each s (List.mem_of_getElem? hs))
  have hml : (m : Int) < f.slips.length := by have := (List.getElem?_eq_some_iff.1 hs).1; omega
  have h0m : (0 : Int) ≤ m := by omega
  have zbs : bs < W.heap.size := cell_lt s0
  have zF := hA.cF.lt
  have zn := hA.cn.lt
  have f0 := hA.cF.cell (j := 0) rfl
  have f1 := hA.cF.cell (j := 1) rfl
  have f2 := hA.cF.cell (j := 2) rfl
  have f3 := hA.cF.cell (j := 3) rfl
  have f4 := hA.cF.cell (j := 4) rfl
  have f5 := hA.cF.cell (j := 5) rfl
  have fn0 := hA.cn.cell (j := 0) rfl
  obtain ⟨p, hp⟩ : ∃ p, piecesF s.lines = p := ⟨_, rfl⟩
  rw [hp] at htw ho hfuel hall
  have PO := Lib.hid (fun (A : Option Addr) (cap : Nat) (W : World) hW => piecesOf_is hp hok A cap W hW)
  have M0 : Hid (Mid c f.far.length all [] p fuel) := by rw [← hall]; exact Mid.start htw ho hfuel
  have FA := Lib.hid (fun (q r : List Int) (hq : Twelve 12000 q) (hr : farthestF c q = r) (W : World) => (show Calls Tryd.prog 95 #[f.val, piecesV q] W fun e w' => e = .returned (piecesV r) ∧ Below W.heap.size W w' from hr ▸ farthest_any f c hc (by omega) q (hq.wide (by omega)) W))
  obtain ⟨n0, n1, n2, n3, n4, n5, n6, n7, n8, n9, n10, n11, hpp⟩ := spread htw.len
  rw [hpp] at M0 PO
  clear hpp htw ho hfuel hall hok hp hs hA hI
  refine callsIn_of_wp Tryd.func94 rfl trivial ?_ rfl
  simp only [Tryd.ntmps94, List.size_toArray, List.length_cons, List.length_nil, Nat.reduceAdd, Nat.reduceSub, Array.replicate_succ, Array.replicate_zero, List.push_toArray, List.append_toArray, List.nil_append, List.cons_append]
  obtain ⟨sa, sc, sl, till⟩ := s
  simp only at PO HSL
  replace s0 : W.cell? ⟨bs, os + m * 2, none⟩ = some (.slice sa sl.length sc) := s0
  obtain ⟨fA, fC, ff, slo, shi, pA, pC, fp, fc, sA, sC, fs⟩ := f
  simp only at hsll hml hsA hc f0 f1 f2 f3 f4 f5
  subst hsA hc
  gi_wp2_with fail
  refine ⟨trivial, ?_⟩
  refine (callsIn_wide.2 (PO.out sa sc _ ((HSL.out.below (Below.refl _ _)).more (by omega)))).mono ?_
  rintro e W1 ⟨rfl, hb⟩
  have hz1 := hb.size
  have hA1 := Lib.hid (hJ.below h0 hb)
  have HA1 : Hid (LoadsAt W1 bF bn _ m) := ⟨HA.out.cF.keep hb, HA.out.cn.keep hb⟩
  clear hb s0 s1 f0 f1 f2 f3 f4 f5 fn0 h0 PO
  gi_wp2_with fail
  gi_loopw [5] (fun x wr => ∃ (left : List Int) (ys : List (Load ff.length c)) (fu : Nat), Hid (Mid c ff.length all (Loads ys) left fu) ∧ J ys wr ∧ KE et n₀ L W1 wr ∧ W1.heap.size + 1 ≤ wr.heap.size ∧ CellsBox wr W1.heap.size 102 (left.map vi)) (fun _ wr => sumOf W1.heap.size wr)
  case atStart =>
    have hb0 : ∀ o, Below W1.heap.size W1 (W1.alloc o) := fun o => (Below.refl W1.heap.size W1).alloc (Nat.le_refl _) o
    exact ⟨[n0, n1, n2, n3, n4, n5, n6, n7, n8, n9, n10, n11], [], fuel, M0.out, hJ.below hA1.out (hb0 _), ke_of_below (hb0 _) (by omega), by simp, CellsBox.new W1 _ [vi n0, vi n1, vi n2, vi n3, vi n4, vi n5, vi n6, vi n7, vi n8, vi n9, vi n10, vi n11]⟩
  case round =>
    obtain ⟨left, ys, fu, HM, hJs, hK, hsz, hX⟩ := hrel
    have hXA := hX.arr HM.out.tw.len
    have hgd : Tryd.prog.eqGuardType Tryd.prog.depth 102 = false := by kernel_rfl
    have hll := HM.out.tw.len
    have HAr : Hid (LoadsAt wr bF bn _ m) := ⟨hK.box lF t1 HA1.out.cF, hK.box ln t2 HA1.out.cn⟩
    have HJs := Lib.hid hJs
    have HX := Lib.hid hX
    by_cases hzz : left = [0, 0, 0, 0, 0, 0, 0, 0, 0, 0, 0, 0]
    · subst hzz
      have HD := HM.out.done
      obtain ⟨c0, c1, c2, c3, c4, c5, c6, c7, c8, c9, c10, c11⟩ := hXA.cells
      have heq : ∀ w : World, (binOp .neq 102 (.agg #[vi 0, vi 0, vi 0, vi 0, vi 0, vi 0, vi 0, vi 0, vi 0, vi 0, vi 0, vi 0]) (.agg #[vi 0, vi 0, vi 0, vi 0, vi 0, vi 0, vi 0, vi 0, vi 0, vi 0, vi 0, vi 0])).run Tryd.prog w = .ok (.bool false) w := fun w => by
        have := eq12 (x := [0, 0, 0, 0, 0, 0, 0, 0, 0, 0, 0, 0]) (y := [0, 0, 0, 0, 0, 0, 0, 0, 0, 0, 0, 0]) rfl rfl 9998 w
        rw [run_neq_struct]
        change Result.andThen ((Op.equalIn (9998 + 2) 102 (.agg (List.map vi [0, 0, 0, 0, 0, 0, 0, 0, 0, 0, 0, 0]).toArray) (.agg (List.map vi [0, 0, 0, 0, 0, 0, 0, 0, 0, 0, 0, 0]).toArray)).run Tryd.prog w) _ = _
        rw [this]
        rfl
      clear hX hXA hJs HM
      gi_wp2
      go_end0
      exact ⟨⟨_, rfl⟩, ys, HD, HJs.out⟩
    · obtain ⟨q, r, fu', hq, hr, htq, honq, hlt, hr0, hlen, HM2⟩ := HM.out.next hc1 hzz
      obtain ⟨m0, m1, m2, m3, m4, m5, m6, m7, m8, m9, m10, m11, rfl⟩ := spread hll
      obtain ⟨d0, d1, d2, d3, d4, d5, d6, d7, d8, d9, d10, d11, rfl⟩ := spread htq.len
      have hrl := HM2.tw.len
      obtain ⟨e0, e1, e2, e3, e4, e5, e6, e7, e8, e9, e10, e11, rfl⟩ := spread hrl
      have heq : ∀ w : World, (binOp .neq 102 (.agg #[vi m0, vi m1, vi m2, vi m3, vi m4, vi m5, vi m6, vi m7, vi m8, vi m9, vi m10, vi m11]) (.agg #[vi 0, vi 0, vi 0, vi 0, vi 0, vi 0, vi 0, vi 0, vi 0, vi 0, vi 0, vi 0])).run Tryd.prog w = .ok (.bool true) w := fun w => by
        have := eq12 (x := [m0, m1, m2, m3, m4, m5, m6, m7, m8, m9, m10, m11]) (y := [0, 0, 0, 0, 0, 0, 0, 0, 0, 0, 0, 0]) rfl rfl 9998 w
        rw [run_neq_struct]
        change Result.andThen ((Op.equalIn (9998 + 2) 102 (.agg (List.map vi [m0, m1, m2, m3, m4, m5, m6, m7, m8, m9, m10, m11]).toArray) (.agg (List.map vi [0, 0, 0, 0, 0, 0, 0, 0, 0, 0, 0, 0]).toArray)).run Tryd.prog w) _ = _
        rw [this, decide_eq_false hzz]
        rfl
      have g0 := HAr.out.cF.cell (j := 0) rfl
      have g1 := HAr.out.cF.cell (j := 1) rfl
      have g2 := HAr.out.cF.cell (j := 2) rfl
      have g3 := HAr.out.cF.cell (j := 3) rfl
      have g4 := HAr.out.cF.cell (j := 4) rfl
      have g5 := HAr.out.cF.cell (j := 5) rfl
      have zF2 := HAr.out.cF.lt
      have FA1 := Lib.hid (fun W => FA.out [m0, m1, m2, m3, m4, m5, m6, m7, m8, m9, m10, m11] [d0, d1, d2, d3, d4, d5, d6, d7, d8, d9, d10, d11] HM.out.tw hq W)
      have hpb : ∀ x ∈ [m0, m1, m2, m3, m4, m5, m6, m7, m8, m9, m10, m11], -1152921504606846976 ≤ x ∧ x ≤ 1152921504606846976 := fun x hx => by
        have := HM.out.tw.pos x hx; have := HM.out.tw.top x hx; omega
      have hqb : ∀ x ∈ [d0, d1, d2, d3, d4, d5, d6, d7, d8, d9, d10, d11], -1000000 ≤ x ∧ x ≤ 1000000 := fun x hx => by
        have := htq.pos x hx; have := htq.top x hx; omega
      have WO := Lib.hid (fun (W : World) => without_is hr rfl rfl hpb hqb W)
      have HLT := Lib.hid hlt
      have HR0 := Lib.hid hr0
      have HM2 := Lib.hid HM2
      have HTQ := Lib.hid htq
      obtain ⟨c0, c1, c2, c3, c4, c5, c6, c7, c8, c9, c10, c11⟩ := hXA.cells
      have HXA := Lib.hid hXA
      clear hX hXA hJs hr hq hpb hqb hlt hr0 hrl hll hzz htq
      gi_wp2_with fail
      refine ⟨trivial, ?_⟩
      refine (callsIn_wide.2 (FA1.out _)).mono ?_
      rintro e W2 ⟨rfl, hb2⟩
      have hz2 := hb2.size
      have hb3 : Below wr.heap.size wr (W2.alloc (.cells #[vi d0, vi d1, vi d2, vi d3, vi d4, vi d5, vi d6, vi d7, vi d8, vi d9, vi d10, vi d11] 102)) := hb2.alloc hz2 _
      have HXb := Lib.hid (HX.out.keep hb3)
      have HLd := Lib.hid (CellsBox.new W2 102 [vi d0, vi d1, vi d2, vi d3, vi d4, vi d5, vi d6, vi d7, vi d8, vi d9, vi d10, vi d11])
      obtain ⟨fn, tmps, assign, body, hy, hR⟩ := hY ys ⟨[d0, d1, d2, d3, d4, d5, d6, d7, d8, d9, d10, d11], HTQ.out, honq⟩ (W2.alloc (.cells #[vi d0, vi d1, vi d2, vi d3, vi d4, vi d5, vi d6, vi d7, vi d8, vi d9, vi d10, vi d11] 102)) (hJ.below HJs.out hb3) (by simpa using hlen)
      replace hy : (Instr.yield l #[.agg #[vi d0, vi d1, vi d2, vi d3, vi d4, vi d5, vi d6, vi d7, vi d8, vi d9, vi d10, vi d11]]).run Tryd.prog (W2.alloc (.cells #[vi d0, vi d1, vi d2, vi d3, vi d4, vi d5, vi d6, vi d7, vi d8, vi d9, vi d10, vi d11] 102)) = .ok (.round l fn tmps assign body) (W2.alloc (.cells #[vi d0, vi d1, vi d2, vi d3, vi d4, vi d5, vi d6, vi d7, vi d8, vi d9, vi d10, vi d11] 102)) := hy
      have HK3 : Hid (KE et n₀ L W1 (W2.alloc (.cells #[vi d0, vi d1, vi d2, vi d3, vi d4, vi d5, vi d6, vi d7, vi d8, vi d9, vi d10, vi d11] 102))) := hK.trans (ke_of_below hb3 (by omega))
      clear hb2 hb3 c0 c1 c2 c3 c4 c5 c6 c7 c8 c9 c10 c11 g0 g1 g2 g3 g4 g5 heq FA1
      gi_wp2
      refine hR.mono ?_
      clear hy
      rintro e W3 ⟨rfl, hJ3, hk3, -⟩
      have hk9 := hk3.size
      have HX3 := Lib.hid (hk3.box (by omega) t3 HXb.out)
      have HL3 := Lib.hid (hk3.box (by simp; omega) t3 HLd.out)
      have HJ3 := Lib.hid hJ3
      have HK4 : Hid (KE et n₀ L W1 W3) := HK3.out.trans hk3
      have zl := HL3.out.lt
      have zx := HX3.out.lt
      obtain ⟨c0, c1, c2, c3, c4, c5, c6, c7, c8, c9, c10, c11⟩ := (HX3.out.arr rfl).cells
      obtain ⟨p0, p1, p2, p3, p4, p5, p6, p7, p8, p9, p10, p11⟩ := (HL3.out.arr rfl).cells
      simp only [World.size_alloc] at hk9
      clear hJ3 hk3
      gi_wp2
      refine ⟨trivial, ?_⟩
      refine (callsIn_wide.2 (WO.out _)).mono ?_
      rintro e W4 ⟨rfl, hb4⟩
      have HX4 := Lib.hid (HX3.out.keep hb4)
      have hz4 := hb4.size
      obtain ⟨o0, o1, o2, o3, o4, o5, o6, o7, o8, o9, o10, o11⟩ := (HX4.out.arr rfl).softs
      have K := Lib.hid (CellsBox.both (z := [m0, m1, m2, m3, m4, m5, m6, m7, m8, m9, m10, m11]) rfl HX4.out (Below.refl W1.heap.size W4) (Nat.le_refl _) hJ (by omega) e0 e1 e2 e3 e4 e5 e6 e7 e8 e9 e10 e11)
      have HJ4 := Lib.hid (hJ.below HJ3.out hb4)
      have HK5 : Hid (KE et n₀ L W1 W4) := HK4.out.trans (ke_of_below hb4 (by omega))
      clear hb4 c0 c1 c2 c3 c4 c5 c6 c7 c8 c9 c10 c11 p0 p1 p2 p3 p4 p5 p6 p7 p8 p9 p10 p11
      obtain ⟨c0, c1, c2, c3, c4, c5, c6, c7, c8, c9, c10, c11⟩ := (HX4.out.arr rfl).cells
      gi_wp2
      go_roundw
      case rel =>
        refine ⟨[e0, e1, e2, e3, e4, e5, e6, e7, e8, e9, e10, e11], ys ++ [⟨[d0, d1, d2, d3, d4, d5, d6, d7, d8, d9, d10, d11], HTQ.out, honq⟩], fu', by simpa [Hid, Loads] using HM2.out, K.out.2.2 _ HJ4.out, ⟨HK5.out.spare.trans (spare_of_below L K.out.2.1 (by omega)), fun k cc t hl ht hk => (K.out.2.1.block k (Array.getElem?_eq_some_iff.1 hk).1).trans (HK5.out.boxes k cc t hl ht hk)⟩, by simp; omega, K.out.1⟩
      case measure =>
        rw [sumOf_is (K.out.1.arr rfl), sumOf_is HXA.out]
        have := HLT.out
        have := HR0.out
        omega
theorem loads_seq (f : Floor) (c m : Nat) (hc : f.carry = c) (hc1 : 1 ≤ c) (hc2 : c ≤ 20) (s : SSlip) (hs : f.slips[m]? = some s) (hok : LinesOk s.lines) (htw : Twelve 12000 (piecesF s.lines)) (ho : Only f.far.length (piecesF s.lines)) (fuel : Nat) (hfuel : (piecesF s.lines).sum ≤ fuel)
    (all : List (List Int)) (hall : loadsF c fuel (piecesF s.lines) = all) (et : TypeId) (t1 : 89 ≠ et) (t2 : 3 ≠ et) (t3 : 102 ≠ et)
    (n : Nat) (hn : 1 ≤ n) (bF bn B₀ L : Nat) (w : World) (hB₀ : B₀ ≤ w.heap.size) (hBL : B₀ ≤ L) (hL : L < w.heap.size) (lF : bF ≠ L) (ln : bn ≠ L)
    (hA : LoadsAt w bF bn f m) (hI : FloorAt w B₀ f) :
    SeqE Fence.wide n Tryd.prog 94 #[.pointer (some ⟨bF, 0, none⟩), .pointer (some ⟨bn, 0, none⟩)] (Load.enc (n := f.far.length) (c := c)) (KE et w.heap.size L) (fun ys => Loads ys = all) all.length 102 w := fun l J W hW hJ hY h0 =>
  loads1_any f c m hc hc1 hc2 s hs hok htw ho fuel hfuel all hall et t1 t2 t3 n hn l bF bn w.heap.size B₀ L J W hJ hY hW.size hB₀ hBL (Nat.lt_of_lt_of_le hL hW.size) lF ln ⟨hA.cF.keep hW, hA.cn.keep hW⟩ (hI.below (hW.mono hB₀)) h0
end Go.Proofs.YtomgnpfpaodpiaaDoor
/- How many steps a slip takes: plain forms and bounds. -/
namespace Go.Proofs.YtomgnpfpaodpiaaDoor
open Go Go.RowKit Go.Shelf
/-- what a valid floor is -/
structure Fine (f : Floor) : Prop where
  far1 : 1 ≤ f.far.length
  far12 : f.far.length ≤ 12
  fars : ∀ x ∈ f.far, 0 ≤ x ∧ x ≤ 500
  picksl : f.picks.length = f.far.length
  picks : ∀ p ∈ f.picks, p.1 ≤ p.2 ∧ 0 ≤ p.1 ∧ p.2 ≤ 300
  step : f.slo ≤ f.shi ∧ 1 ≤ f.slo ∧ f.shi ≤ 10
  carry1 : 1 ≤ f.carry
  carry20 : f.carry ≤ 20
  slips9 : f.slips.length ≤ 9
  slips : ∀ s ∈ f.slips, 0 ≤ s.till ∧ s.till ≤ 100000 ∧ linesB f.far.length s.lines = true
theorem hasB_iff {lo hi n : Int} : hasB lo hi n = true ↔ lo ≤ n ∧ n ≤ hi := by simp [hasB]
theorem fine {f : Floor} (h : validB f = true) : Fine f := by
  unfold validB shelvesB at h
  simp only [Bool.and_eq_true, decide_eq_true_eq, hasB_iff, withinB, List.all_eq_true, List.mem_range] at h
  obtain ⟨⟨⟨⟨⟨⟨h1, h2⟩, h3⟩, h4⟩, h5⟩, h6⟩, h7⟩ := h
  refine ⟨by omega, by omega, fun x hx => ?_, by omega, fun p hp => ?_, by omega, by omega, by omega, by omega, fun s hs => ?_⟩
  · obtain ⟨k, hk, rfl⟩ := List.mem_iff_getElem.1 hx
    have := h3 k hk
    unfold goodShelf at this
    rw [List.getElem?_eq_getElem hk, List.getElem?_eq_getElem (show k < f.picks.length by omega)] at this
    simp only [Bool.and_eq_true, decide_eq_true_eq, hasB_iff, withinB] at this
    omega
  · obtain ⟨k, hk, rfl⟩ := List.mem_iff_getElem.1 hp
    have := h3 k (by omega)
    unfold goodShelf at this
    rw [List.getElem?_eq_getElem hk, List.getElem?_eq_getElem (show k < f.far.length by omega)] at this
    simp only [Bool.and_eq_true, decide_eq_true_eq, hasB_iff, withinB] at this
    omega
  · obtain ⟨k, hk, rfl⟩ := List.mem_iff_getElem.1 hs
    have := h7 k hk
    unfold goodSlip at this
    rw [List.getElem?_eq_getElem hk] at this
    simp only [Bool.and_eq_true, decide_eq_true_eq, hasB_iff] at this
    exact ⟨by omega, by omega, this.2⟩
theorem pieces_sum {l : List SLine} {n : Int} (hn : n ≤ 12) (h : ∀ (k : Nat) (x : SLine), l[k]? = some x → 0 ≤ x.shelf ∧ x.shelf < n ∧ 1 ≤ x.many ∧ x.many ≤ 20) (hok : LinesOk l) : ∀ k : Nat, k ≤ l.length → (piecesK l k).sum = sumK l k ∧ ∀ (j : Nat) (x : Int), (piecesK l k)[j]? = some x → 0 < x → (j : Int) < n
  | 0, _ => by
    refine ⟨by simp [piecesK, piecesF, sumK], fun j x hx h0 => ?_⟩
    have e : piecesK l 0 = List.replicate 12 0 := by simp [piecesK, piecesF]
    rw [e, List.getElem?_replicate] at hx
    split at hx
    · cases hx; omega
    · cases hx
  | k + 1, hk => by
    obtain ⟨i1, i2⟩ := pieces_sum hn h hok k (by omega)
    obtain ⟨x, hx⟩ : ∃ x, l[k]? = some x := ⟨_, List.getElem?_eq_getElem (by omega)⟩
    obtain ⟨x0, x1, x2, x3⟩ := h k x hx
    have ht := piecesK_ok hok k (by omega)
    obtain ⟨m, hm, m0, _⟩ := ht.at_ (k := x.shelf.toNat) (by omega)
    rw [piecesK_succ hx, sumK_succ hx, hm]
    refine ⟨?_, fun j y hy h0 => ?_⟩
    · rw [Option.getD_some, sum_set _ _ _ _ hm, i1]; omega
    · by_cases hj : x.shelf.toNat = j
      · omega
      · rw [List.getElem?_set_ne hj] at hy
        exact i2 j y hy h0
theorem pieces_only {l : List SLine} {n : Nat} (hn : n ≤ 12) (h : linesB n l = true) : Only n (piecesF l) ∧ (piecesF l).sum = togetherF l ∧ 0 ≤ togetherF l ∧ togetherF l ≤ 240 := by
  obtain ⟨h1, h2, h3⟩ := linesB_ok h
  obtain ⟨i1, i2⟩ := pieces_sum (by omega) h3 (lines_good (by omega) h).1 l.length (Nat.le_refl _)
  rw [piecesK_all] at i1 i2
  rw [sumK_all] at i1
  have i3 := sumK_range (fun k x hx => ⟨(h3 k x hx).2.2.1, (h3 k x hx).2.2.2⟩) l.length (Nat.le_refl _)
  rw [sumK_all] at i3
  exact ⟨fun k x hx h0 => by have := i2 k x hx h0; omega, i1, i3.1, by omega⟩
theorem loads_len (c : Nat) : ∀ (n : Nat) (p : List Int), (loadsF c n p).length ≤ n
  | 0, p => by simp [loadsF]
  | n + 1, p => by
    rw [loadsF]
    split
    · simp
    · have := loads_len c n (withoutF p (farthestF c p))
      simp; omega
theorem linesFrom_mem : ∀ (p : List Int) (j : Nat) (x : SLine), x ∈ linesFrom j p → ∃ k : Nat, x.shelf = ((j + k : Nat) : Int) ∧ p[k]? = some x.many ∧ 0 < x.many
  | [], j, x, h => by simp [linesFrom] at h
  | a :: p, j, x, h => by
    rw [linesFrom] at h
    have rest : x ∈ linesFrom (j + 1) p → ∃ k : Nat, x.shelf = ((j + k : Nat) : Int) ∧ (a :: p)[k]? = some x.many ∧ 0 < x.many := fun h => by
      obtain ⟨k, h1, h2, h3⟩ := linesFrom_mem p (j + 1) x h
      exact ⟨k + 1, by omega, by simpa using h2, h3⟩
    split at h
    · rcases List.mem_cons.1 h with rfl | h
      · exact ⟨0, by simp, by simp, by assumption⟩
      · exact rest h
    · exact rest h
def farF (f : Floor) (x : SLine) : Int := f.far[x.shelf.toNat]?.getD 0
def farsF (f : Floor) (q : List Int) : List Int := (linesOf q).map (farF f)
theorem lines_at {f : Floor} {q : List Int} (ho : Only f.far.length q) {x : SLine} (h : x ∈ linesOf q) : ∃ k : Nat, x.shelf = k ∧ k < f.far.length ∧ f.far[k]? = some (farF f x) := by
  obtain ⟨k, h1, h2, h3⟩ := linesFrom_mem q 0 x h
  have hk := ho k _ h2 h3
  refine ⟨k, by omega, hk, ?_⟩
  have e : x.shelf.toNat = k := by omega
  unfold farF
  rw [e, List.getElem?_eq_getElem hk]
  rfl
theorem greatest_range {a : Int} {l : List Int} {m : Int} (ha : a ≤ m) (h : ∀ x ∈ l, x ≤ m) : a ≤ greatestF a l ∧ greatestF a l ≤ m := by
  induction l generalizing a with
  | nil => exact ⟨Int.le_refl _, ha⟩
  | cons x l ih =>
    have h1 := h x (by simp)
    have h2 := ih (a := max a x) (by omega) (fun y hy => h y (by simp [hy]))
    have e : greatestF a (x :: l) = greatestF (max a x) l := rfl
    rw [e]
    omega
def longF (f : Floor) (q : List Int) : Int := 2 * greatestF 0 (farsF f q)
theorem fars_range {f : Floor} (hf : Fine f) {q : List Int} (ho : Only f.far.length q) : 0 ≤ greatestF 0 (farsF f q) ∧ greatestF 0 (farsF f q) ≤ 500 := by
  refine greatest_range (by omega) fun x hx => ?_
  obtain ⟨l, hl, rfl⟩ := List.mem_map.1 hx
  obtain ⟨k, _, hk, h⟩ := lines_at ho hl
  exact (hf.fars _ (List.mem_of_getElem? h)).2
def stepsL (f : Floor) (loads : List (List Int)) : Int := (loads.map (longF f)).sum
theorem stepsL_snoc (f : Floor) (loads : List (List Int)) (q : List Int) : stepsL f (loads ++ [q]) = stepsL f loads + longF f q := by simp [stepsL]
theorem stepsL_range {f : Floor} (hf : Fine f) : ∀ {loads : List (List Int)}, (∀ q ∈ loads, Only f.far.length q) → 0 ≤ stepsL f loads ∧ stepsL f loads ≤ 1000 * loads.length
  | [], _ => by simp [stepsL]
  | q :: loads, h => by
    have i := stepsL_range hf (loads := loads) (fun q hq => h q (by simp [hq]))
    have j := fars_range hf (h q (by simp))
    have e : stepsL f (q :: loads) = longF f q + stepsL f loads := by simp [stepsL]
    rw [e, List.length_cons]
    unfold longF
    omega
def loadsOf (f : Floor) (s : SSlip) : List (List Int) := loadsF f.carry.toNat (piecesF s.lines).sum.toNat (piecesF s.lines)
def stepsF (f : Floor) (s : SSlip) : Int := stepsL f (loadsOf f s)
theorem lines_small {q : List Int} (h : q.length = 12) : (linesOf q).length ≤ 12 := by
  have := linesFrom_len q 0
  unfold linesOf
  omega
theorem loadsOf_len {f : Floor} (hf : Fine f) {s : SSlip} (hs : s ∈ f.slips) : (loadsOf f s).length ≤ 240 := by
  obtain ⟨_, _, h⟩ := hf.slips s hs
  obtain ⟨_, h1, h2, h3⟩ := pieces_only hf.far12 h
  have := loads_len f.carry.toNat (piecesF s.lines).sum.toNat (piecesF s.lines)
  unfold loadsOf
  omega
end Go.Proofs.YtomgnpfpaodpiaaDoor
/- Contract of steps. -/
namespace Go.Proofs.YtomgnpfpaodpiaaDoor
open Go Go.RowKit Go.Shelf
set_option maxHeartbeats 2000000
attribute [local go_sem] Oper.semAt_some
theorem ownE_boxed {β : Type} {te t : TypeId} {B L : Nat} (hL : L < B) (g : β → Value) : OwnE te B (fun s W => Boxed W L t (g s)) := fun s X Y row hs hg hr =>
  (hg.block L hs.lt fun e => by have := (hr L e.symm).1; omega).trans hs
theorem wrapI {n : Int} (h0 : -9223372036854775808 ≤ n) (h1 : n ≤ 9223372036854775807) : IntKind.wrap .i64 n = n := IntWalk.i64_in n ⟨h0, h1⟩
theorem ownFrom_spareE {te : TypeId} {n₀ B L : Nat} {w₀ X Y : World} {row : Option Nat} (hn : n₀ ≤ w₀.heap.size) (hB : w₀.heap.size ≤ B) (hs : Spare n₀ L w₀ X) (hg : X.grownBy Y row) (hr : ∀ r, row = some r → B ≤ r ∧ ∃ o : Obj, X.heap[r]? = some o ∧ NotRow te o) : Spare n₀ L w₀ Y := by
  refine hs.trans ⟨hg.os, hg.tape, hg.output, hg.size, fun k hk _ => ?_⟩
  exact hg.block k (by have := hs.size; omega) fun e => by have := (hr k e.symm).1; omega
theorem ownE_ke {β : Type} {tp te : TypeId} {n₀ L B : Nat} {w₀ : World} (hn : n₀ ≤ w₀.heap.size) (hB : w₀.heap.size ≤ B) : OwnE tp B (fun (_ : β) W => KE te n₀ L w₀ W) := by
  intro s X Y row hs hg hr
  refine ⟨ownFrom_spareE hn hB hs.spare hg hr, fun k c t hl ht hk => ?_⟩
  have hX := hs.boxes k c t hl ht hk
  refine (hg.block k (Array.getElem?_eq_some_iff.1 hX).1 fun e => ?_).trans hX
  have := (hr k e.symm).1
  have := (Array.getElem?_eq_some_iff.1 hk).1
  omega
theorem ke_set {e : TypeId} {n₀ L : Nat} {a b : World} (h : KE e n₀ L a b) (k : Nat) (v : Value) : KE e n₀ L a (b.setCell ⟨L, k, none⟩ v) :=
  h.trans ⟨⟨rfl, rfl, rfl, by simp, fun i _ hl => heap_setCell_other b _ i v hl⟩, fun i c t hl _ hk => (heap_setCell_other b _ i v hl).trans hk⟩
set_option maxRecDepth 100000 in
theorem steps_any (f : Floor) (hf : Fine f) (m : Nat) (s : SSlip) (hs : f.slips[m]? = some s) (w : World) (h : FloorAt w w.heap.size f) :
    Calls Tryd.prog 59 #[f.val, vi m] w fun e w' => e = .returned (vi (stepsF f s)) ∧ Below w.heap.size w w' := by
  obtain ⟨i0, hi, hy0, hy1, hy2⟩ := info_parts info_int
  obtain ⟨c, hc⟩ : ∃ c : Nat, f.carry = c := ⟨f.carry.toNat, by have := hf.carry1; omega⟩
  have hc1 := hf.carry1
  have hc2 := hf.carry20
  obtain ⟨_, _, hsl⟩ := hf.slips s (List.mem_of_getElem? hs)
  obtain ⟨ho, hsum, hs0, hs1⟩ := pieces_only hf.far12 hsl
  obtain ⟨hok, htw⟩ := lines_good (by have := hf.far12; omega) hsl
  have hlen := loadsOf_len hf (List.mem_of_getElem? hs)
  have HF := Lib.hid h
  obtain ⟨all, hall⟩ : ∃ all, loadsOf f s = all := ⟨_, rfl⟩
  have HALL : Hid (loadsF c (piecesF s.lines).sum.toNat (piecesF s.lines) = all) := by
    have e : f.carry.toNat = c := by omega
    unfold Hid
    rw [← hall, loadsOf, e]
  rw [hall] at hlen
  have HC := Lib.hid hc
  have HC1 : Hid (1 ≤ c ∧ c ≤ 20) := ⟨by omega, by omega⟩
  rw [show stepsF f s = stepsL f all from by rw [stepsF, hall]]
  have HSL := Lib.hid hsl
  have HTW := Lib.hid htw
  have HOK := Lib.hid hok
  have HO := Lib.hid ho
  have HFN := Lib.hid hf
  clear hc hc1 hc2 hsl ho hsum hs0 hs1 hok htw hall h hf
  refine (callsIn_wide (n := 12)).1 ?_
  refine callsIn_of_wp_marks Tryd.func59 rfl trivial ?_ rfl
  simp only [Tryd.ntmps59, List.size_toArray, List.length_cons, List.length_nil, Nat.reduceAdd, Nat.reduceSub, Array.replicate_succ, Array.replicate_zero, List.push_toArray, List.append_toArray, List.nil_append, List.cons_append]
  gi_wp2_with fail
  refine ⟨trivial, ?_⟩
  refine (callsIn_wide.2 (loads_any f m _)).mono ?_
  rintro e w2 ⟨bF, bn, rfl, ⟨y1, y2⟩, hAt, hb2⟩
  have hz2 := hb2.size
  simp only [World.size_alloc] at hz2 y1 y2
  have bL : Boxed w2 (w.heap.size + 1) 3 (vi 0) := by
    refine (hb2.block (w.heap.size + 1) (by simp)).trans ?_
    have := Boxed.new (w.alloc (.cells #[.slice f.fA f.far.length f.fC, vi f.slo, vi f.shi, .slice f.pA f.picks.length f.pC, vi f.carry, .slice f.sA f.slips.length f.sC] 89)) 3 (vi 0)
    simp only [World.size_alloc] at this
    exact this
  have bG : CellsBox w2 w.heap.size 89 f.cells := by
    refine (hb2.block w.heap.size (by simp; omega)).trans ?_
    exact (CellsBox.new w 89 f.cells).alloc _
  have hB2 : Below w.heap.size w w2 := by (repeat (first | exact Below.refl _ _ | refine Below.setCell ?_ (by first | omega | (simp; omega) | (simp; done)) _ | refine Below.alloc ?_ (by first | omega | (simp; omega) | (simp; done)) _ | refine Below.drew ?_ | refine below_drewN ?_ _ | refine Below.trans ?_ (Below.mono (by assumption) (by first | omega | (simp; omega) | (simp; done)))))
  clear hb2
  gi_wp2_with fail
  refine range_outerE rfl (by omega) (gf := 94) (lb := #[.pointer (some ⟨bF, 0, none⟩), .pointer (some ⟨bn, 0, none⟩)]) rfl trivial (enters_of Tryd.func94 (by kernel_rfl) rfl)
    (loads_seq f c m HC.out HC1.out.1 HC1.out.2 s hs HOK.out HTW.out HO.out _ (Int.self_le_toNat _) all HALL.out 50 (by decide) (by decide) (by decide) _ (by omega) bF bn w.heap.size (w.heap.size + 1) w2 (by omega) (by omega) bL.lt (by omega) (by omega) hAt (HF.out.below hB2))
    (fun h k => KE.trans h k) (fun W l o o' hl h h1 _ => KE.turn _ W l o o' hl h h1) (Below.refl _ _) (fun _ => rfl)
    (fun pre W => Boxed W (w.heap.size + 1) 3 (vi (stepsL f (Loads pre))) ∧ KE 50 w2.heap.size (w.heap.size + 1) w2 W)
    (OwnE.and (ownE_boxed bL.lt (fun pre => vi (stepsL f (Loads pre)))) (ownE_ke (Nat.le_refl _) (Nat.le_refl _)))
    ⟨bL, KE.refl _ _ _ _⟩
    (fun x a' W => ∃ Bx, w2.heap.size ≤ Bx ∧ CellsBox W Bx 102 (x.1.map vi) ∧ a' = { tmps := #[f.val, vi m, .pointer (some ⟨w.heap.size, 0, none⟩), undef, vi 0, .pointer (some ⟨w.heap.size + 1, 0, none⟩), .pointer (some ⟨Bx, 0, none⟩), undef, undef, undef, f.val, vi m, loadsV bF bn, piecesV x.1, undef, undef, undef, undef, undef, undef, undef, undef, undef, undef, undef, undef, undef, undef, undef, undef, undef, undef, undef, undef, undef, undef, undef, undef], defers := [] })
    (fun x a' _ X Y row hs hg hr => by obtain ⟨Bx, h1, h2, h3⟩ := hs; exact ⟨Bx, h1, (hg.block Bx h2.lt fun e => by obtain ⟨_, o, ho, hc⟩ := hr Bx e.symm; rw [show X.heap[Bx]? = _ from h2] at ho; cases ho; cases hc).trans h2, h3⟩)
    ?assign ?body ?done
  case assign =>
    rintro l pre ⟨x, hx, hon⟩ W K ⟨hv, hS⟩ hK
    have hs9 := hS.size
    have hxl := hx.len
    obtain ⟨r0, r1, r2, r3, r4, r5, r6, r7, r8, r9, r10, r11, rfl⟩ := spread hxl
    gi_wp2_with fail
    have hb : ∀ o, Below W.heap.size W (W.alloc o) := fun o => (Below.refl W.heap.size W).alloc (Nat.le_refl _) o
    exact hK _ _ (keeps_of_below (hb _) _) (ke_of_below (hb _) (by omega)) ⟨boxed_below hv (hb _), hS.trans (ke_of_below (hb _) (by omega))⟩ ⟨W.heap.size, by omega, CellsBox.new W _ [vi r0, vi r1, vi r2, vi r3, vi r4, vi r5, vi r6, vi r7, vi r8, vi r9, vi r10, vi r11], rfl⟩
  case body =>
    rintro l pre ⟨x, hx, hon⟩ a' W hl ⟨rr, hrr⟩ ⟨hv, hS⟩ ⟨Bx, hBx, hbx, rfl⟩ hlt
    have hs9 := hS.size
    have hG := hS.box (B := w.heap.size) (by omega) (by decide) bG
    have g0 := hG.cell (j := 0) rfl
    have dL := hv.cell
    have zG := hG.lt
    have zL := hv.lt
    have hBW : Below w.heap.size w W := hB2.trans (hS.spare.below (by omega) (by omega))
    have HFW := Lib.hid (HF.out.to hBW)
    have hxl := hx.len
    have HLA := Lib.hid (fun (l : SLine) (hl : l ∈ linesOf x) => lines_at (f := f) hon hl)
    have hRl := lines_small hxl
    have HFR := Lib.hid (fars_range HFN.out hon)
    have HRX : Hid (longF f x = 2 * greatestF 0 (farsF f x)) := rfl
    have HPR : Hid (∀ q ∈ Loads pre, Only f.far.length q) := fun q hq => by
      obtain ⟨y, _, rfl⟩ := List.mem_map.1 hq
      exact y.2.2
    have HSR := Lib.hid (stepsL_range HFN.out HPR.out)
    have hSN : stepsL f (Loads (pre ++ [⟨x, hx, hon⟩])) = stepsL f (Loads pre) + longF f x := by
      rw [show Loads (pre ++ [⟨x, hx, hon⟩]) = Loads pre ++ [x] from by simp [Loads]]
      exact stepsL_snoc _ _ _
    have HSN := Lib.hid hSN
    have hpl : (Loads pre).length < all.length := by simpa [Loads] using hlt
    have HPL := Lib.hid hpl
    have LINES := Lib.hid (fun W => pLines_any x hxl W)
    obtain ⟨R, hR⟩ : ∃ R, R = linesOf x := ⟨_, rfl⟩
    obtain ⟨FK, hFK⟩ : ∃ FK, FK = farsF f x := ⟨_, rfl⟩
    have HFK : Hid (FK = R.map (farF f)) := by unfold Hid; rw [hFK, hR]; rfl
    have hfl : FK.length = R.length := by rw [HFK.out, List.length_map]
    obtain ⟨gr, hgr⟩ : ∃ gr, gr = greatestF 0 FK := ⟨_, rfl⟩
    have HGR := Lib.hid hgr
    rw [← hR] at HLA LINES hRl
    rw [← hFK, ← hgr] at HFR HRX
    obtain ⟨sp, hsp⟩ : ∃ sp, sp = stepsL f (Loads pre) := ⟨_, rfl⟩
    have HSP := Lib.hid hsp
    rw [← hsp] at HSN HSR dL
    have hgr0 := HFR.out.1
    have hgr1 := HFR.out.2
    have hsp0 := HSR.out.1
    have hsp1 : sp ≤ 240000 := by have := HSR.out.2; have := HPL.out; omega
    obtain ⟨r0, r1, r2, r3, r4, r5, r6, r7, r8, r9, r10, r11, rfl⟩ := spread hxl
    obtain ⟨c0, c1, c2, c3, c4, c5, c6, c7, c8, c9, c10, c11⟩ := (hbx.arr rfl).cells
    clear hgr hR hFK hSN hsp hpl
    gi_wp2_with fail
    refine ⟨trivial, ?_⟩
    refine (CallsIn.inRound l (callsIn_wide.2 (LINES.out W))).mono ?_
    rintro e W3 ⟨A, rfl, hRA, hRb, hb3⟩
    have hz3 := hb3.size
    have HRA := Lib.hid hRA
    have g03 := cell_keep hb3 g0
    have dL3 := cell_keep hb3 dL
    have fL3 : W3.frozen? ⟨w.heap.size + 1, 0, none⟩ = false := soft_keep hb3 zL hv.frozen
    have HB3 := Lib.hid hb3
    clear hb3 c0 c1 c2 c3 c4 c5 c6 c7 c8 c9 c10 c11 hRb hRA
    gi_wp2_with fail
    gi_loopw [7, 9, 17] (fun v y i wr => ∃ k : Nat, k ≤ R.length ∧ i = .int .i64 k ∧ Below W3.heap.size W3 wr ∧ wr.ownsRow W3.heap.size 3 1 v (FK.take k).length ((FK.take k).map vi)) (fun _ _ i _ => R.length - (intOf i).toNat)
    case atStart => exact ⟨0, Nat.zero_le _, rfl, Below.refl _ _, by simpa using World.ownsRow_nil _ _ _ _⟩
    case round =>
      obtain ⟨k, hk, rfl, hB, hown⟩ := hrel
      have hz := hB.size
      have hRAr := (HRA.out.below hB).more hz
      have g0r := cell_keep hB g03
      have zGr := cell_lt g0r
      by_cases hlt2 : k < R.length
      · obtain ⟨y, hy⟩ : ∃ y, R[k]? = some y := ⟨_, List.getElem?_eq_getElem hlt2⟩
        obtain ⟨bb, off, rfl, hbb, x0, x1⟩ := row2 hRAr.row hy rfl
        obtain ⟨j, hj1, hj2, hj3⟩ := HLA.out y (List.mem_of_getElem? hy)
        obtain ⟨bf, offf, hfA, hbf, q0⟩ := ints_at ((HFW.out.far.to HB3.out).to hB) (k := j) (x := farF f y) hj3
        have zbb : bb < wr.heap.size := cell_lt x0
        have zbf : bf < wr.heap.size := cell_lt q0
        have hkI : (k : Int) < R.length := by omega
        have h0k : (0 : Int) ≤ k := by omega
        have hjI : (j : Int) < f.far.length := by omega
        have h0j : (0 : Int) ≤ j := by omega
        have hFS : Hid (FK.take (k + 1) = FK.take k ++ [farF f y]) := by
          unfold Hid
          rw [List.take_succ_eq_append_getElem (by omega)]
          congr 2
          have e : FK[k]? = some (farF f y) := by rw [HFK.out, List.getElem?_map, hy]; rfl
          exact Option.some.inj ((List.getElem?_eq_getElem (by omega)).symm.trans e)
        obtain ⟨lk, hlk⟩ : ∃ lk, lk = FK.take k := ⟨_, rfl⟩
        have hlkl : lk.length ≤ 12 := by rw [hlk, List.length_take]; omega
        rw [← hlk] at hFS hown
        rw [hj1] at x0
        clear hlk hy hRAr
        obtain ⟨fy, hfy⟩ : ∃ fy, fy = farF f y := ⟨_, rfl⟩
        rw [← hfy] at hFS q0
        have hlI : (lk.length : Int) ≤ 12 := by omega
        obtain ⟨sh, mn⟩ := y
        simp only at hj1
        subst hj1
        clear hfy
        obtain ⟨A', c', rfl, hn1, hn2⟩ := own_form hown
        gi_wp2_with (gi_at_builtin; go_loud (refine wpListIn_append_own _ rfl _ _ 22 rfl W3.heap.size 3 i0 (.int .i64 0) 1 8 Tryd.underlying22 hi hy0 hy1 hy2 rfl (by decide) _ _ _ rfl ((hown.alloc _).alloc _) ⟨wr.heap.size + 1, 0, none⟩ 1 1 [vi fy] rfl rfl (by simpa using cells_new (wr.alloc (.cells #[vi j, vi mn] 64)) [vi fy] 3) (by simp [Value.oneCell']) (by unfold maxLen; omega) (by omega) (by simp; omega) ?_; intro v5 w5 hown5 hgrow5 _))
        have HB5 : Below W3.heap.size W3 w5 := Below.grown ((hB.alloc hz _).alloc (by simp; omega) _) hgrow5 (by simp; omega) (fun j e => (hown.lt j e).1)
        go_roundw
        case rel =>
          refine ⟨k + 1, by omega, by go_num, HB5, ?_⟩
          rw [hFS.out]
          simpa using hown5
        case measure => simp [intOf]; omega
      · obtain rfl : k = R.length := by omega
        rw [← hfl, List.take_length] at hown
        rw [show FK.map vi = (FK.map intC).flatten from (intC_flat FK).symm] at hown
        obtain ⟨A', c', rfl, hn1, hn2, hIA⟩ := own_rows (intC_one FK) hown (by simp) (by omega)
        have HIA : Hid (IntsAt wr wr.heap.size A' FK.length FK) := hIA
        have dLr := cell_keep hB dL3
        have fLr : wr.frozen? ⟨w.heap.size + 1, 0, none⟩ = false := soft_keep hB (by have := cell_lt dL3; simpa using this) fL3
        have zLr := cell_lt dLr
        have GRE : Hid (∀ W, IntsAt W W.heap.size A' FK.length FK → Calls Tryd.prog 92 #[vi 0, .slice A' R.length c'] W fun e w' => e = .returned (vi gr) ∧ Below W.heap.size W w') := fun W hW => by rw [HGR.out, ← hfl]; exact greatest_any 0 A' c' FK W hW
        clear hIA hown g0r hRAr
        gi_wp2_with fail
        gi_region_with (refine ⟨trivial, ?_⟩; gi_at_call 92; go_loud (refine (CallsIn.inRound l (callsIn_wide.2 (GRE.out _ (HIA.out.to (by (repeat (first | exact Below.refl _ _ | refine Below.setCell ?_ (by first | omega | (simp; omega) | (simp; done)) _ | refine Below.alloc ?_ (by first | omega | (simp; omega) | (simp; done)) _ | refine Below.drew ?_ | refine below_drewN ?_ _ | refine Below.trans ?_ (Below.mono (by assumption) (by first | omega | (simp; omega) | (simp; done)))))))))).mono ?_; rintro e wq ⟨rfl, hbq⟩; have dLq : wq.cell? ⟨w.heap.size + 1, 0, none⟩ = some (vi sp) := (cell_keep hbq (by simpa [go_sem] using dLr)); have fLq : wq.frozen? ⟨w.heap.size + 1, 0, none⟩ = false := (soft_keep hbq (by simpa using zLr) (by simpa [go_sem] using fLr)); have HBq : Below wr.heap.size wr wq := (by (repeat (first | exact Below.refl _ _ | refine Below.setCell ?_ (by first | omega | (simp; omega) | (simp; done)) _ | refine Below.alloc ?_ (by first | omega | (simp; omega) | (simp; done)) _ | refine Below.drew ?_ | refine below_drewN ?_ _ | refine Below.trans ?_ (Below.mono (by assumption) (by first | omega | (simp; omega) | (simp; done))))))))
        all_goals
          rw [wrapI (n := 2 * gr) (by omega) (by omega), wrapI (n := sp + 2 * gr) (by omega) (by omega)]
          have hBall : Below W.heap.size W wq := (HB3.out.trans (hB.mono hz3)).trans (HBq.mono (by omega))
          refine ⟨(keeps_of_below hBall _).trans ((KeepsOthers.setCell _ _ _).from _), ke_set (ke_of_below hBall (by omega)) _ _, ?_, ?_⟩
          · rw [HSN.out, HRX.out]
            exact (boxed_below hv hBall).set _
          · exact hS.trans (ke_set (ke_of_below hBall (by omega)) _ _)
  case done =>
    rintro D xs W hD hS ⟨hv, hKE⟩ hDf
    have hc := hv.cell
    rw [hS] at hc
    gi_wp2
    refine ⟨by simp, .inl ⟨_, _, rfl, run_takeDeferred hDf, ?_⟩⟩
    exact ⟨_, results_tmp rfl _ _ _, rfl, (hB2.trans (hKE.spare.below (by omega) (by omega))).trans (belowK_b (w := w) (Nat.le_refl _) W D _ _ (by omega) hDf rfl rfl)⟩
end Go.Proofs.YtomgnpfpaodpiaaDoor
/- Contracts of pace.seconds, least and most. -/
namespace Go.Proofs.YtomgnpfpaodpiaaDoor
open Go Go.RowKit
set_option maxHeartbeats 2000000
theorem picks_ok {f : Floor} (hv : validB f = true) (k : Nat) : (0 ≤ ((f.picks[k]?).getD (0, 0)).1 ∧ ((f.picks[k]?).getD (0, 0)).1 ≤ 300) ∧ (0 ≤ ((f.picks[k]?).getD (0, 0)).2 ∧ ((f.picks[k]?).getD (0, 0)).2 ≤ 300) := by
  obtain ⟨p1, p2, p3, -⟩ := valid_parts hv
  by_cases hk : k < f.picks.length
  · have h2 : f.picks[k]? = some f.picks[k] := List.getElem?_eq_getElem hk
    have h1 : f.far[k]? = some f.far[k] := List.getElem?_eq_getElem (by omega)
    unfold validB shelvesB at hv
    simp only [Bool.and_eq_true, List.all_eq_true, List.mem_range] at hv
    have := hv.1.1.1.1.2 k (by omega)
    rw [goodShelf_of h1 h2] at this
    simp only [withinB, hasB, Bool.and_eq_true, decide_eq_true_eq] at this
    rw [h2]
    simp only [Option.getD_some]
    omega
  · rw [List.getElem?_eq_none (by omega)]
    simp
def secsKLo (f : Floor) (l : List SLine) (steps : Int) : Nat → Int
  | 0 => steps * (f.slo, f.shi).1
  | k + 1 => secsKLo f l steps k + (match l[k]? with | some x => x.many * ((f.picks[x.shelf.toNat]?).getD (0, 0)).1 | none => 0)
def secsFLo (f : Floor) (l : List SLine) (steps : Int) : Int := secsKLo f l steps l.length
theorem secsLo_range {f : Floor} {l : List SLine} {steps : Int} (hv : validB f = true) (hl : linesB f.far.length l = true) (hs : 0 ≤ steps ∧ steps ≤ 1000000) : ∀ k : Nat, k ≤ l.length → 0 ≤ secsKLo f l steps k ∧ secsKLo f l steps k ≤ 10000000 + 6000 * k
  | 0, _ => by
    obtain ⟨-, -, -, p4, -, -, -⟩ := valid_parts hv
    have h1 : 0 ≤ steps * (f.slo, f.shi).1 := Int.mul_nonneg hs.1 (by simp only; omega)
    have h2 : steps * (f.slo, f.shi).1 ≤ 1000000 * 10 := Int.mul_le_mul hs.2 (by simp only; omega) (by simp only; omega) (by omega)
    simp only [secsKLo] at *
    omega
  | k + 1, hk => by
    have ih := secsLo_range hv hl hs k (by omega)
    have hx : l[k]? = some l[k] := List.getElem?_eq_getElem (by omega)
    obtain ⟨g1, g2, g3, g4⟩ := (linesB_ok hl).2.2 k _ hx
    have pk := picks_ok hv l[k].shelf.toNat
    simp only [secsKLo, hx]
    have h1 : 0 ≤ l[k].many * ((f.picks[l[k].shelf.toNat]?).getD (0, 0)).1 := Int.mul_nonneg (by omega) (by omega)
    have h2 : l[k].many * ((f.picks[l[k].shelf.toNat]?).getD (0, 0)).1 ≤ 20 * 300 := Int.mul_le_mul g4 (by omega) (by omega) (by omega)
    omega
theorem secondsLo_any (f : Floor) (n : Nat) (s : SSlip) (hs : f.slips[n]? = some s) (hv : validB f = true) (steps : Int) (hst : 0 ≤ steps ∧ steps ≤ 1000000) (w : World) (h : FloorAt w w.heap.size f) :
    Calls Tryd.prog 120 #[.agg #[.func (Fn.func 119) #[] #[]], .agg #[.slice f.fA f.far.length f.fC, vi f.slo, vi f.shi, .slice f.pA f.picks.length f.pC, vi f.carry, .slice f.sA f.slips.length f.sC, vi n, vi steps]] w fun e w' => e = .returned (vi (secsFLo f s.lines steps)) ∧ Below w.heap.size w w' := by
  obtain ⟨p1, p2, p3, p4, p5, p6, p7⟩ := valid_parts hv
  have hsl := (p7 n s hs).2
  have HF := Lib.hid h
  have hsll := h.slips.lens
  have hpl := h.picks.lens
  have HX : Hid (∀ (k : Nat) (x : SLine), s.lines[k]? = some x → ∃ (j : Nat) (q : Int × Int), x.shelf = j ∧ j < f.picks.length ∧ f.picks[j]? = some q ∧ (0 ≤ q.1 ∧ q.1 ≤ 300) ∧ (1 ≤ x.many ∧ x.many ≤ 20) ∧ (0 ≤ x.many * q.1 ∧ x.many * q.1 ≤ 6000) ∧ (0 ≤ secsKLo f s.lines steps k ∧ secsKLo f s.lines steps k ≤ 20000000) ∧ secsKLo f s.lines steps (k + 1) = secsKLo f s.lines steps k + x.many * q.1) := fun k x hx => by
    have hk := (List.getElem?_eq_some_iff.1 hx).1
    obtain ⟨l1, l2, l3⟩ := linesB_ok hsl
    obtain ⟨g1, g2, g3, g4⟩ := l3 k x hx
    have hj : x.shelf.toNat < f.picks.length := by omega
    have e := List.getElem?_eq_getElem hj
    have pk := picks_ok hv x.shelf.toNat
    rw [e] at pk
    simp only [Option.getD_some] at pk
    have r := secsLo_range hv hsl hst k (by omega)
    refine ⟨x.shelf.toNat, f.picks[x.shelf.toNat], by omega, hj, e, by omega, ⟨g3, g4⟩, ⟨Int.mul_nonneg (by omega) (by omega), Int.mul_le_mul g4 (by omega : f.picks[x.shelf.toNat].1 ≤ 300) (by omega) (by omega)⟩, by omega, ?_⟩
    simp only [secsKLo, hx, e, Option.getD_some]
  have R0 := secsLo_range hv hsl hst 0 (Nat.zero_le _)
  have hS0 : secsKLo f s.lines steps 0 = steps * (f.slo, f.shi).1 := rfl
  have HA : Hid (secsKLo f s.lines steps s.lines.length = secsFLo f s.lines steps) := rfl
  obtain ⟨R, hR⟩ : ∃ R, R = secsFLo f s.lines steps := ⟨_, rfl⟩
  obtain ⟨S, hS⟩ : ∃ S, S = secsKLo f s.lines steps := ⟨_, rfl⟩
  rw [← hR] at HA ⊢
  rw [← hS] at HX HA R0 hS0
  rw [hS0] at R0
  have HS0 := Lib.hid hS0
  have HP := Lib.hid h.picks
  have hsR := h.slips.row
  obtain ⟨bs, os, hsA, hbs, s0, s1⟩ := row2 hsR hs rfl
  have HSL := Lib.hid (h.each s (List.mem_of_getElem? hs))
  have hnl : (n : Int) < f.slips.length := by have := (List.getElem?_eq_some_iff.1 hs).1; omega
  have h0n : (0 : Int) ≤ n := by omega
  have zbs : bs < w.heap.size := cell_lt s0
  clear hs hR hS hS0 hsR h hsl p7 hv
  have P3 := Lib.hid p3
  clear p3
  obtain ⟨sa, sc, sl, till⟩ := s
  simp only at HSL HX HA
  replace s0 : w.cell? ⟨bs, os + n * 2, none⟩ = some (.slice sa sl.length sc) := s0
  have hll := HSL.out.lens
  obtain ⟨fA, fC, ff, slo, shi, pA, pC, fp, fc, sA, sC, fs⟩ := f
  simp only at hsll hnl hsA hpl HX HP R0 HS0
  subst hsA
  show Calls Tryd.prog 120 #[.agg #[.func (Fn.func 119) #[] #[]], .agg #[.slice fA ff.length fC, vi slo, vi shi, .slice pA fp.length pC, vi fc, .slice (some ⟨bs, os, none⟩) fs.length sC, vi n, vi steps]] w _
  go_enter Tryd.func120, Tryd.ntmps120
  go_wp2_with fail
  (refine wp_region_grow_lit (by kernel_rfl) (by kernel_rfl) ?_; (repeat (go_big_quiet_step ((go_at_call 119; refine Calls.grow_of (low_any _ _ _))))); refine wpQuiet_nil ?_; intro w1 hw1; have hb1 := below_of_plus hw1; clear hw1; obtain ⟨⟨hc1, hf1, hs1⟩, hz1⟩ := after hb1; (try simp only [World.size_alloc, World.size_setCell, World.size_drew] at hz1))
  have HB0 : Below w.heap.size w w1 := by (repeat (first | exact Below.refl _ _ | refine Below.setCell ?_ (by first | omega | (simp; omega) | (simp; done)) _ | refine Below.alloc ?_ (by first | omega | (simp; omega) | (simp; done)) _ | refine Below.drew ?_ | refine below_drewN ?_ _ | refine Below.trans ?_ (Below.mono (by assumption) (by first | omega | (simp; omega) | (simp; done)))))
  have q0 : w1.cell? ⟨w.heap.size, 0, none⟩ = some (.func (Fn.func 119) #[] #[]) := cell_keep hb1 (by simp [go_sem])
  have a3 : w1.cell? ⟨w.heap.size + 1, 3, none⟩ = some (.slice pA fp.length pC) := cell_keep hb1 (by simp [go_sem])
  have a5 : w1.cell? ⟨w.heap.size + 1, 5, none⟩ = some (.slice (some ⟨bs, os, none⟩) fs.length sC) := cell_keep hb1 (by simp [go_sem])
  have a6 : w1.cell? ⟨w.heap.size + 1, 6, none⟩ = some (vi n) := cell_keep hb1 (by simp [go_sem])
  have s01 := cell_keep HB0 s0
  have z1 := cell_lt a3
  clear hb1 hc1 hf1 hs1 hz1 s0 s1
  go_wp2_with fail
  go_loopw [5, 28] (fun x i wr => ∃ k : Nat, k ≤ sl.length ∧ i = .int .i64 k ∧ Below w1.heap.size w1 wr ∧ x = vi (S k)) (fun _ i _ => sl.length - (intOf i).toNat)
  case atStart => exact ⟨0, Nat.zero_le _, rfl, Below.refl _ _, by rw [HS0.out]⟩
  obtain ⟨k, hk, rfl, hB, rfl⟩ := hrel
  have hz := hB.size
  have HBr : Below w.heap.size w wr := gr_trans HB0 hB
  by_cases hlt : k < sl.length
  · obtain ⟨x, hx⟩ : ∃ x, sl[k]? = some x := ⟨_, List.getElem?_eq_getElem hlt⟩
    obtain ⟨j, q, hj, hjl, hq, ⟨q1, q2⟩, ⟨m1, m2⟩, ⟨e1, e2⟩, ⟨r1, r2⟩, S1⟩ := HX.out k x hx
    obtain ⟨bb, off, rfl, hbb, x0, x1⟩ := row2 (HSL.out.to HBr).row hx rfl
    obtain ⟨bp, op, rfl, hbp, y0, y1⟩ := row2 (HP.out.to HBr).row hq rfl
    obtain ⟨xs, xm⟩ := x
    obtain ⟨ql, qh⟩ := q
    simp only at hj q1 q2 m1 m2 e1 e2 S1 x0 x1 y0 y1
    subst hj
    have S1 := Lib.hid S1
    have hkI : (k : Int) < sl.length := by omega
    have h0k : (0 : Int) ≤ k := by omega
    have hjI : (j : Int) < fp.length := by omega
    have h0j : (0 : Int) ≤ j := by omega
    have zbb : bb < wr.heap.size := cell_lt x0
    have zbp : bp < wr.heap.size := cell_lt y0
    have q0r := cell_keep hB q0
    have a3r := cell_keep hB a3
    have z1r := cell_lt a3r
    have z0r := cell_lt q0r
    obtain ⟨sk, hsk⟩ : ∃ sk, sk = S k := ⟨_, rfl⟩
    rw [← hsk] at r1 r2 S1 ⊢
    clear hx hq hsk HX HA HS0 a5 a6 s01
    go_wp2_with fail
    (refine wp_region_grow_lit (by kernel_rfl) (by kernel_rfl) ?_; (repeat (go_big_quiet_step ((go_at_call 119; refine Calls.grow_of (low_any _ _ _))))); refine wpQuiet_nil ?_; intro w1 hw1; have hb1 := below_of_plus hw1; clear hw1; obtain ⟨⟨hc1, hf1, hs1⟩, hz1⟩ := after hb1; (try simp only [World.size_alloc, World.size_setCell, World.size_drew] at hz1))
    have HB1 : Below wr.heap.size wr w1 := by (repeat (first | exact Below.refl _ _ | refine Below.setCell ?_ (by first | omega | (simp; omega) | (simp; done)) _ | refine Below.alloc ?_ (by first | omega | (simp; omega) | (simp; done)) _ | refine Below.drew ?_ | refine below_drewN ?_ _ | refine Below.trans ?_ (Below.mono (by assumption) (by first | omega | (simp; omega) | (simp; done)))))
    clear hb1 hc1 hf1 hs1 hz1
    go_wp2_with fail
    go_roundw
    case rel => exact ⟨k + 1, by omega, by go_num, gr_trans hB HB1, by rw [S1.out]⟩
    case measure => simp [intOf]; omega
  · obtain rfl : k = sl.length := by omega
    rw [HA.out]
    go_wp2_with fail
    go_ret
    exact ⟨rfl, HBr⟩
theorem least_any (f : Floor) (n : Nat) (s : SSlip) (hs : f.slips[n]? = some s) (hv : validB f = true) (steps : Int) (hst : 0 ≤ steps ∧ steps ≤ 1000000) (w : World) (h : FloorAt w w.heap.size f) :
    Calls Tryd.prog 111 #[.agg #[.slice f.fA f.far.length f.fC, vi f.slo, vi f.shi, .slice f.pA f.picks.length f.pC, vi f.carry, .slice f.sA f.slips.length f.sC, vi n, vi steps]] w fun e w' => e = .returned (vi (secsFLo f s.lines steps)) ∧ Below w.heap.size w w' := by
  have SE := Lib.hid (fun (W : World) hW => secondsLo_any f n s hs hv steps hst W hW)
  have HF := Lib.hid h
  obtain ⟨R, hR⟩ : ∃ R, R = secsFLo f s.lines steps := ⟨_, rfl⟩
  rw [← hR] at SE ⊢
  clear h hs hv hR
  obtain ⟨fA, fC, ff, slo, shi, pA, pC, fp, fc, sA, sC, fs⟩ := f
  show Calls Tryd.prog 111 #[.agg #[.slice fA ff.length fC, vi slo, vi shi, .slice pA fp.length pC, vi fc, .slice sA fs.length sC, vi n, vi steps]] w _
  go_enter Tryd.func111, Tryd.ntmps111
  go_wp2_with fail
  refine (SE.out _ (HF.out.to (by (repeat (first | exact Below.refl _ _ | refine Below.setCell ?_ (by first | omega | (simp; omega) | (simp; done)) _ | refine Below.alloc ?_ (by first | omega | (simp; omega) | (simp; done)) _ | refine Below.drew ?_ | refine below_drewN ?_ _ | refine Below.trans ?_ (Below.mono (by assumption) (by first | omega | (simp; omega) | (simp; done)))))))).mono ?_
  rintro e W ⟨rfl, hb⟩
  have HB0 : Below w.heap.size w W := by (repeat (first | exact Below.refl _ _ | refine Below.setCell ?_ (by first | omega | (simp; omega) | (simp; done)) _ | refine Below.alloc ?_ (by first | omega | (simp; omega) | (simp; done)) _ | refine Below.drew ?_ | refine below_drewN ?_ _ | refine Below.trans ?_ (Below.mono (by assumption) (by first | omega | (simp; omega) | (simp; done)))))
  clear hb
  go_wp2_with fail
  go_ret
  exact ⟨rfl, HB0⟩
def secsKHi (f : Floor) (l : List SLine) (steps : Int) : Nat → Int
  | 0 => steps * (f.slo, f.shi).2
  | k + 1 => secsKHi f l steps k + (match l[k]? with | some x => x.many * ((f.picks[x.shelf.toNat]?).getD (0, 0)).2 | none => 0)
def secsFHi (f : Floor) (l : List SLine) (steps : Int) : Int := secsKHi f l steps l.length
theorem secsHi_range {f : Floor} {l : List SLine} {steps : Int} (hv : validB f = true) (hl : linesB f.far.length l = true) (hs : 0 ≤ steps ∧ steps ≤ 1000000) : ∀ k : Nat, k ≤ l.length → 0 ≤ secsKHi f l steps k ∧ secsKHi f l steps k ≤ 10000000 + 6000 * k
  | 0, _ => by
    obtain ⟨-, -, -, p4, -, -, -⟩ := valid_parts hv
    have h1 : 0 ≤ steps * (f.slo, f.shi).2 := Int.mul_nonneg hs.1 (by simp only; omega)
    have h2 : steps * (f.slo, f.shi).2 ≤ 1000000 * 10 := Int.mul_le_mul hs.2 (by simp only; omega) (by simp only; omega) (by omega)
    simp only [secsKHi] at *
    omega
  | k + 1, hk => by
    have ih := secsHi_range hv hl hs k (by omega)
    have hx : l[k]? = some l[k] := List.getElem?_eq_getElem (by omega)
    obtain ⟨g1, g2, g3, g4⟩ := (linesB_ok hl).2.2 k _ hx
    have pk := picks_ok hv l[k].shelf.toNat
    simp only [secsKHi, hx]
    have h1 : 0 ≤ l[k].many * ((f.picks[l[k].shelf.toNat]?).getD (0, 0)).2 := Int.mul_nonneg (by omega) (by omega)
    have h2 : l[k].many * ((f.picks[l[k].shelf.toNat]?).getD (0, 0)).2 ≤ 20 * 300 := Int.mul_le_mul g4 (by omega) (by omega) (by omega)
    omega
theorem secondsHi_any (f : Floor) (n : Nat) (s : SSlip) (hs : f.slips[n]? = some s) (hv : validB f = true) (steps : Int) (hst : 0 ≤ steps ∧ steps ≤ 1000000) (w : World) (h : FloorAt w w.heap.size f) :
    Calls Tryd.prog 120 #[.agg #[.func (Fn.func 121) #[] #[]], .agg #[.slice f.fA f.far.length f.fC, vi f.slo, vi f.shi, .slice f.pA f.picks.length f.pC, vi f.carry, .slice f.sA f.slips.length f.sC, vi n, vi steps]] w fun e w' => e = .returned (vi (secsFHi f s.lines steps)) ∧ Below w.heap.size w w' := by
  obtain ⟨p1, p2, p3, p4, p5, p6, p7⟩ := valid_parts hv
  have hsl := (p7 n s hs).2
  have HF := Lib.hid h
  have hsll := h.slips.lens
  have hpl := h.picks.lens
  have HX : Hid (∀ (k : Nat) (x : SLine), s.lines[k]? = some x → ∃ (j : Nat) (q : Int × Int), x.shelf = j ∧ j < f.picks.length ∧ f.picks[j]? = some q ∧ (0 ≤ q.2 ∧ q.2 ≤ 300) ∧ (1 ≤ x.many ∧ x.many ≤ 20) ∧ (0 ≤ x.many * q.2 ∧ x.many * q.2 ≤ 6000) ∧ (0 ≤ secsKHi f s.lines steps k ∧ secsKHi f s.lines steps k ≤ 20000000) ∧ secsKHi f s.lines steps (k + 1) = secsKHi f s.lines steps k + x.many * q.2) := fun k x hx => by
    have hk := (List.getElem?_eq_some_iff.1 hx).1
    obtain ⟨l1, l2, l3⟩ := linesB_ok hsl
    obtain ⟨g1, g2, g3, g4⟩ := l3 k x hx
    have hj : x.shelf.toNat < f.picks.length := by omega
    have e := List.getElem?_eq_getElem hj
    have pk := picks_ok hv x.shelf.toNat
    rw [e] at pk
    simp only [Option.getD_some] at pk
    have r := secsHi_range hv hsl hst k (by omega)
    refine ⟨x.shelf.toNat, f.picks[x.shelf.toNat], by omega, hj, e, by omega, ⟨g3, g4⟩, ⟨Int.mul_nonneg (by omega) (by omega), Int.mul_le_mul g4 (by omega : f.picks[x.shelf.toNat].2 ≤ 300) (by omega) (by omega)⟩, by omega, ?_⟩
    simp only [secsKHi, hx, e, Option.getD_some]
  have R0 := secsHi_range hv hsl hst 0 (Nat.zero_le _)
  have hS0 : secsKHi f s.lines steps 0 = steps * (f.slo, f.shi).2 := rfl
  have HA : Hid (secsKHi f s.lines steps s.lines.length = secsFHi f s.lines steps) := rfl
  obtain ⟨R, hR⟩ : ∃ R, R = secsFHi f s.lines steps := ⟨_, rfl⟩
  obtain ⟨S, hS⟩ : ∃ S, S = secsKHi f s.lines steps := ⟨_, rfl⟩
  rw [← hR] at HA ⊢
  rw [← hS] at HX HA R0 hS0
  rw [hS0] at R0
  have HS0 := Lib.hid hS0
  have HP := Lib.hid h.picks
  have hsR := h.slips.row
  obtain ⟨bs, os, hsA, hbs, s0, s1⟩ := row2 hsR hs rfl
  have HSL := Lib.hid (h.each s (List.mem_of_getElem? hs))
  have hnl : (n : Int) < f.slips.length := by have := (List.getElem?_eq_some_iff.1 hs).1; omega
  have h0n : (0 : Int) ≤ n := by omega
  have zbs : bs < w.heap.size := cell_lt s0
  clear hs hR hS hS0 hsR h hsl p7 hv
  have P3 := Lib.hid p3
  clear p3
  obtain ⟨sa, sc, sl, till⟩ := s
  simp only at HSL HX HA
  replace s0 : w.cell? ⟨bs, os + n * 2, none⟩ = some (.slice sa sl.length sc) := s0
  have hll := HSL.out.lens
  obtain ⟨fA, fC, ff, slo, shi, pA, pC, fp, fc, sA, sC, fs⟩ := f
  simp only at hsll hnl hsA hpl HX HP R0 HS0
  subst hsA
  show Calls Tryd.prog 120 #[.agg #[.func (Fn.func 121) #[] #[]], .agg #[.slice fA ff.length fC, vi slo, vi shi, .slice pA fp.length pC, vi fc, .slice (some ⟨bs, os, none⟩) fs.length sC, vi n, vi steps]] w _
  go_enter Tryd.func120, Tryd.ntmps120
  go_wp2_with fail
  (refine wp_region_grow_lit (by kernel_rfl) (by kernel_rfl) ?_; (repeat (go_big_quiet_step ((go_at_call 121; refine Calls.grow_of (high_any _ _ _))))); refine wpQuiet_nil ?_; intro w1 hw1; have hb1 := below_of_plus hw1; clear hw1; obtain ⟨⟨hc1, hf1, hs1⟩, hz1⟩ := after hb1; (try simp only [World.size_alloc, World.size_setCell, World.size_drew] at hz1))
  have HB0 : Below w.heap.size w w1 := by (repeat (first | exact Below.refl _ _ | refine Below.setCell ?_ (by first | omega | (simp; omega) | (simp; done)) _ | refine Below.alloc ?_ (by first | omega | (simp; omega) | (simp; done)) _ | refine Below.drew ?_ | refine below_drewN ?_ _ | refine Below.trans ?_ (Below.mono (by assumption) (by first | omega | (simp; omega) | (simp; done)))))
  have q0 : w1.cell? ⟨w.heap.size, 0, none⟩ = some (.func (Fn.func 121) #[] #[]) := cell_keep hb1 (by simp [go_sem])
  have a3 : w1.cell? ⟨w.heap.size + 1, 3, none⟩ = some (.slice pA fp.length pC) := cell_keep hb1 (by simp [go_sem])
  have a5 : w1.cell? ⟨w.heap.size + 1, 5, none⟩ = some (.slice (some ⟨bs, os, none⟩) fs.length sC) := cell_keep hb1 (by simp [go_sem])
  have a6 : w1.cell? ⟨w.heap.size + 1, 6, none⟩ = some (vi n) := cell_keep hb1 (by simp [go_sem])
  have s01 := cell_keep HB0 s0
  have z1 := cell_lt a3
  clear hb1 hc1 hf1 hs1 hz1 s0 s1
  go_wp2_with fail
  go_loopw [5, 28] (fun x i wr => ∃ k : Nat, k ≤ sl.length ∧ i = .int .i64 k ∧ Below w1.heap.size w1 wr ∧ x = vi (S k)) (fun _ i _ => sl.length - (intOf i).toNat)
  case atStart => exact ⟨0, Nat.zero_le _, rfl, Below.refl _ _, by rw [HS0.out]⟩
  obtain ⟨k, hk, rfl, hB, rfl⟩ := hrel
  have hz := hB.size
  have HBr : Below w.heap.size w wr := gr_trans HB0 hB
  by_cases hlt : k < sl.length
  · obtain ⟨x, hx⟩ : ∃ x, sl[k]? = some x := ⟨_, List.getElem?_eq_getElem hlt⟩
    obtain ⟨j, q, hj, hjl, hq, ⟨q1, q2⟩, ⟨m1, m2⟩, ⟨e1, e2⟩, ⟨r1, r2⟩, S1⟩ := HX.out k x hx
    obtain ⟨bb, off, rfl, hbb, x0, x1⟩ := row2 (HSL.out.to HBr).row hx rfl
    obtain ⟨bp, op, rfl, hbp, y0, y1⟩ := row2 (HP.out.to HBr).row hq rfl
    obtain ⟨xs, xm⟩ := x
    obtain ⟨ql, qh⟩ := q
    simp only at hj q1 q2 m1 m2 e1 e2 S1 x0 x1 y0 y1
    subst hj
    have S1 := Lib.hid S1
    have hkI : (k : Int) < sl.length := by omega
    have h0k : (0 : Int) ≤ k := by omega
    have hjI : (j : Int) < fp.length := by omega
    have h0j : (0 : Int) ≤ j := by omega
    have zbb : bb < wr.heap.size := cell_lt x0
    have zbp : bp < wr.heap.size := cell_lt y0
    have q0r := cell_keep hB q0
    have a3r := cell_keep hB a3
    have z1r := cell_lt a3r
    have z0r := cell_lt q0r
    obtain ⟨sk, hsk⟩ : ∃ sk, sk = S k := ⟨_, rfl⟩
    rw [← hsk] at r1 r2 S1 ⊢
    clear hx hq hsk HX HA HS0 a5 a6 s01
    go_wp2_with fail
    (refine wp_region_grow_lit (by kernel_rfl) (by kernel_rfl) ?_; (repeat (go_big_quiet_step ((go_at_call 121; refine Calls.grow_of (high_any _ _ _))))); refine wpQuiet_nil ?_; intro w1 hw1; have hb1 := below_of_plus hw1; clear hw1; obtain ⟨⟨hc1, hf1, hs1⟩, hz1⟩ := after hb1; (try simp only [World.size_alloc, World.size_setCell, World.size_drew] at hz1))
    have HB1 : Below wr.heap.size wr w1 := by (repeat (first | exact Below.refl _ _ | refine Below.setCell ?_ (by first | omega | (simp; omega) | (simp; done)) _ | refine Below.alloc ?_ (by first | omega | (simp; omega) | (simp; done)) _ | refine Below.drew ?_ | refine below_drewN ?_ _ | refine Below.trans ?_ (Below.mono (by assumption) (by first | omega | (simp; omega) | (simp; done)))))
    clear hb1 hc1 hf1 hs1 hz1
    go_wp2_with fail
    go_roundw
    case rel => exact ⟨k + 1, by omega, by go_num, gr_trans hB HB1, by rw [S1.out]⟩
    case measure => simp [intOf]; omega
  · obtain rfl : k = sl.length := by omega
    rw [HA.out]
    go_wp2_with fail
    go_ret
    exact ⟨rfl, HBr⟩
theorem most_any (f : Floor) (n : Nat) (s : SSlip) (hs : f.slips[n]? = some s) (hv : validB f = true) (steps : Int) (hst : 0 ≤ steps ∧ steps ≤ 1000000) (w : World) (h : FloorAt w w.heap.size f) :
    Calls Tryd.prog 112 #[.agg #[.slice f.fA f.far.length f.fC, vi f.slo, vi f.shi, .slice f.pA f.picks.length f.pC, vi f.carry, .slice f.sA f.slips.length f.sC, vi n, vi steps]] w fun e w' => e = .returned (vi (secsFHi f s.lines steps)) ∧ Below w.heap.size w w' := by
  have SE := Lib.hid (fun (W : World) hW => secondsHi_any f n s hs hv steps hst W hW)
  have HF := Lib.hid h
  obtain ⟨R, hR⟩ : ∃ R, R = secsFHi f s.lines steps := ⟨_, rfl⟩
  rw [← hR] at SE ⊢
  clear h hs hv hR
  obtain ⟨fA, fC, ff, slo, shi, pA, pC, fp, fc, sA, sC, fs⟩ := f
  show Calls Tryd.prog 112 #[.agg #[.slice fA ff.length fC, vi slo, vi shi, .slice pA fp.length pC, vi fc, .slice sA fs.length sC, vi n, vi steps]] w _
  go_enter Tryd.func112, Tryd.ntmps112
  go_wp2_with fail
  refine (SE.out _ (HF.out.to (by (repeat (first | exact Below.refl _ _ | refine Below.setCell ?_ (by first | omega | (simp; omega) | (simp; done)) _ | refine Below.alloc ?_ (by first | omega | (simp; omega) | (simp; done)) _ | refine Below.drew ?_ | refine below_drewN ?_ _ | refine Below.trans ?_ (Below.mono (by assumption) (by first | omega | (simp; omega) | (simp; done)))))))).mono ?_
  rintro e W ⟨rfl, hb⟩
  have HB0 : Below w.heap.size w W := by (repeat (first | exact Below.refl _ _ | refine Below.setCell ?_ (by first | omega | (simp; omega) | (simp; done)) _ | refine Below.alloc ?_ (by first | omega | (simp; omega) | (simp; done)) _ | refine Below.drew ?_ | refine below_drewN ?_ _ | refine Below.trans ?_ (Below.mono (by assumption) (by first | omega | (simp; omega) | (simp; done)))))
  clear hb
  go_wp2_with fail
  go_ret
  exact ⟨rfl, HB0⟩
end Go.Proofs.YtomgnpfpaodpiaaDoor
/- Contracts of Steps, ends, takes, Takes. -/
namespace Go.Proofs.YtomgnpfpaodpiaaDoor
open Go Go.RowKit
set_option maxHeartbeats 2000000
def StepsV (f : Floor) (n : Int) : Int := if checkSlipV f n = 0 then (match f.slips[n.toNat]? with | some s => stepsF f s | none => 0) else 0
theorem Steps_any (f : Floor) (n : Int) (w : World) (hl : Lim w) (h : FloorAt w w.heap.size f) :
    Calls Tryd.prog 18 #[f.val, vi n] w fun e w' => e = .returned (.tuple #[vi (StepsV f n), vi (checkSlipV f n)]) ∧ Below w.heap.size w w' := by
  have HL := Lib.hid hl
  have HF := Lib.hid h
  rcases check_cases f n with hc | ⟨hc, hv, k, s, rfl, hs⟩
  · obtain ⟨ec, hec⟩ : ∃ ec, checkSlipV f n = ec := ⟨_, rfl⟩
    have hne : ec ≠ 0 := by omega
    have hned : decide (ec = 0) = false := by simpa using hne
    have E : Hid (StepsV f n = 0) := by unfold Hid StepsV; rw [if_neg (by omega)]
    have CH := Lib.hid (fun (W : World) hL hW => checkSlip_is hec W hL hW)
    rw [E.out, hec]
    clear h hl hc hec E
    go_enter Tryd.func18, Tryd.ntmps18
    go_wp2_with fail
    refine (CH.out _ (HL.out.next (by (repeat (first | exact Below.refl _ _ | refine Below.setCell ?_ (by first | omega | (simp; omega) | (simp; done)) _ | refine Below.alloc ?_ (by first | omega | (simp; omega) | (simp; done)) _ | refine Below.drew ?_ | refine below_drewN ?_ _ | refine Below.trans ?_ (Below.mono (by assumption) (by first | omega | (simp; omega) | (simp; done))))))) (HF.out.to (by (repeat (first | exact Below.refl _ _ | refine Below.setCell ?_ (by first | omega | (simp; omega) | (simp; done)) _ | refine Below.alloc ?_ (by first | omega | (simp; omega) | (simp; done)) _ | refine Below.drew ?_ | refine below_drewN ?_ _ | refine Below.trans ?_ (Below.mono (by assumption) (by first | omega | (simp; omega) | (simp; done)))))))).mono ?_
    rintro e W ⟨rfl, hb⟩
    have HB0 : Below w.heap.size w W := by (repeat (first | exact Below.refl _ _ | refine Below.setCell ?_ (by first | omega | (simp; omega) | (simp; done)) _ | refine Below.alloc ?_ (by first | omega | (simp; omega) | (simp; done)) _ | refine Below.drew ?_ | refine below_drewN ?_ _ | refine Below.trans ?_ (Below.mono (by assumption) (by first | omega | (simp; omega) | (simp; done)))))
    clear hb
    go_wp2_with fail
    go_ret2
    exact ⟨rfl, HB0⟩
  · have HFN := Lib.hid (fine hv)
    have E : Hid (StepsV f k = stepsF f s) := by unfold Hid StepsV; rw [if_pos hc]; simp [hs]
    have CH := Lib.hid (fun (W : World) hL hW => checkSlip_is hc W hL hW)
    have ST := Lib.hid (fun (W : World) hW => steps_any f HFN.out k s hs W hW)
    rw [hc, E.out]
    obtain ⟨an, han⟩ : ∃ an, an = stepsF f s := ⟨_, rfl⟩
    rw [← han] at ST ⊢
    clear h hl hc han hs E hv
    go_enter Tryd.func18, Tryd.ntmps18
    go_wp2_with fail
    refine (CH.out _ (HL.out.next (by (repeat (first | exact Below.refl _ _ | refine Below.setCell ?_ (by first | omega | (simp; omega) | (simp; done)) _ | refine Below.alloc ?_ (by first | omega | (simp; omega) | (simp; done)) _ | refine Below.drew ?_ | refine below_drewN ?_ _ | refine Below.trans ?_ (Below.mono (by assumption) (by first | omega | (simp; omega) | (simp; done))))))) (HF.out.to (by (repeat (first | exact Below.refl _ _ | refine Below.setCell ?_ (by first | omega | (simp; omega) | (simp; done)) _ | refine Below.alloc ?_ (by first | omega | (simp; omega) | (simp; done)) _ | refine Below.drew ?_ | refine below_drewN ?_ _ | refine Below.trans ?_ (Below.mono (by assumption) (by first | omega | (simp; omega) | (simp; done)))))))).mono ?_
    rintro e W ⟨rfl, hb⟩
    have HB0 : Below w.heap.size w W := by (repeat (first | exact Below.refl _ _ | refine Below.setCell ?_ (by first | omega | (simp; omega) | (simp; done)) _ | refine Below.alloc ?_ (by first | omega | (simp; omega) | (simp; done)) _ | refine Below.drew ?_ | refine below_drewN ?_ _ | refine Below.trans ?_ (Below.mono (by assumption) (by first | omega | (simp; omega) | (simp; done)))))
    have a0 : W.cell? ⟨w.heap.size, 0, none⟩ = some (.slice f.fA f.far.length f.fC) := cell_keep hb (by simp [go_sem])
    have a1 : W.cell? ⟨w.heap.size, 1, none⟩ = some (vi f.slo) := cell_keep hb (by simp [go_sem])
    have a2 : W.cell? ⟨w.heap.size, 2, none⟩ = some (vi f.shi) := cell_keep hb (by simp [go_sem])
    have a3 : W.cell? ⟨w.heap.size, 3, none⟩ = some (.slice f.pA f.picks.length f.pC) := cell_keep hb (by simp [go_sem])
    have a4 : W.cell? ⟨w.heap.size, 4, none⟩ = some (vi f.carry) := cell_keep hb (by simp [go_sem])
    have a5 : W.cell? ⟨w.heap.size, 5, none⟩ = some (.slice f.sA f.slips.length f.sC) := cell_keep hb (by simp [go_sem])
    clear hb
    go_wp2_with fail
    refine (ST.out _ (HF.out.to HB0)).mono ?_
    rintro e W2 ⟨rfl, hb2⟩
    go_wp2_with fail
    go_ret2
    exact ⟨rfl, gr_trans HB0 hb2⟩
abbrev endsV : Value := .agg #[.func (.func 111) #[] #[], .func (.func 112) #[] #[]]
theorem ends_any (w : World) :
    Calls Tryd.prog 93 #[] w fun e w' => e = .returned endsV ∧ Below w.heap.size w w' := by
  go_enter Tryd.func93, Tryd.ntmps93
  go_wp2_with fail
  go_wp2_with fail
  refine bodyPost_ret (v := endsV) (by simp [results, Tryd.results93, go_sem]) rfl ⟨rfl, ?_⟩
  (repeat (first | exact Below.refl _ _ | refine Below.setCell ?_ (by first | omega | (simp; omega) | (simp; done)) _ | refine Below.alloc ?_ (by first | omega | (simp; omega) | (simp; done)) _ | refine Below.drew ?_ | refine below_drewN ?_ _ | refine Below.trans ?_ (Below.mono (by assumption) (by first | omega | (simp; omega) | (simp; done)))))
theorem stepsF_range {f : Floor} (hf : Fine f) {s : SSlip} (hs : s ∈ f.slips) : 0 ≤ stepsF f s ∧ stepsF f s ≤ 240000 := by
  obtain ⟨_, _, hsl⟩ := hf.slips s hs
  have hl := loadsOf_len hf hs
  have ho : ∀ q ∈ loadsOf f s, Only f.far.length q := by
    obtain ⟨o1, _, _, _⟩ := pieces_only hf.far12 hsl
    have htw := (lines_good (by have := hf.far12; omega) hsl).2
    have key : ∀ (n : Nat) (p : List Int), Twelve 12000 p → Only f.far.length p → ∀ q ∈ loadsF f.carry.toNat n p, Only f.far.length q := by
      intro n
      induction n with
      | zero => intro p _ _ q hq; simp [loadsF] at hq
      | succ n ih =>
        intro p hp hop q hq
        rw [loadsF] at hq
        split at hq
        · simp at hq
        · obtain ⟨q1, q2⟩ := only_parts hp hop f.carry.toNat
          rcases List.mem_cons.1 hq with rfl | hq
          · rw [farthest_is]; exact q2
          · rw [without_moves hp] at hq
            exact ih _ (moves_ok hp _).1 q1 q hq
    exact key _ _ htw o1
  have := stepsL_range hf ho
  unfold stepsF
  omega
def takesF (f : Floor) (s : SSlip) : Int × Int := (secsFLo f s.lines (stepsF f s), secsFHi f s.lines (stepsF f s))
set_option maxRecDepth 100000 in
theorem takes_any (f : Floor) (hv : validB f = true) (n : Nat) (s : SSlip) (hs : f.slips[n]? = some s) (w : World) (h : FloorAt w w.heap.size f) :
    Calls Tryd.prog 61 #[f.val, vi n] w fun e w' => e = .returned (spanV (takesF f s)) ∧ Below w.heap.size w w' := by
  have hf := fine hv
  have hst := stepsF_range hf (List.mem_of_getElem? hs)
  have HF := Lib.hid h
  have ST := Lib.hid (fun (W : World) hW => steps_any f hf n s hs W hW)
  obtain ⟨st, hst2⟩ : ∃ st, st = stepsF f s := ⟨_, rfl⟩
  have LO := Lib.hid (fun (W : World) hW => least_any f n s hs hv st (by omega) W hW)
  have HI := Lib.hid (fun (W : World) hW => most_any f n s hs hv st (by omega) W hW)
  unfold takesF
  rw [← hst2] at ST ⊢
  obtain ⟨tl, htl⟩ : ∃ tl, tl = secsFLo f s.lines st := ⟨_, rfl⟩
  obtain ⟨th, hth⟩ : ∃ th, th = secsFHi f s.lines st := ⟨_, rfl⟩
  rw [← htl] at LO ⊢
  rw [← hth] at HI ⊢
  clear h hs hv hst hst2 htl hth hf
  go_enter Tryd.func61, Tryd.ntmps61
  go_wp2_with fail
  obtain ⟨V0, hV0⟩ : ∃ V0, V0 = (w.alloc (.cells #[.slice f.fA f.far.length f.fC, vi f.slo, vi f.shi, .slice f.pA f.picks.length f.pC, vi f.carry, .slice f.sA f.slips.length f.sC] 89)).alloc (.cells #[vi 0, vi 0] 24) := ⟨_, rfl⟩
  have hb0 : Below w.heap.size w V0 := by rw [hV0]; (repeat (first | exact Below.refl _ _ | refine Below.setCell ?_ (by first | omega | (simp; omega) | (simp; done)) _ | refine Below.alloc ?_ (by first | omega | (simp; omega) | (simp; done)) _ | refine Below.drew ?_ | refine below_drewN ?_ _ | refine Below.trans ?_ (Below.mono (by assumption) (by first | omega | (simp; omega) | (simp; done)))))
  have XF : Hid (CellsBox V0 w.heap.size 89 f.cells) := by unfold Hid; rw [hV0]; exact (CellsBox.new w 89 f.cells).alloc _
  have XR : Hid (CellsBox V0 (w.heap.size + 1) 24 [vi 0, vi 0]) := by
    unfold Hid; rw [hV0]
    have := CellsBox.new (w.alloc (.cells #[.slice f.fA f.far.length f.fC, vi f.slo, vi f.shi, .slice f.pA f.picks.length f.pC, vi f.carry, .slice f.sA f.slips.length f.sC] 89)) 24 [vi 0, vi 0]
    simpa using this
  rw [← hV0]
  clear hV0
  refine' wp_region_box (fun w' => Below V0.heap.size V0 w') (stays_below _) [0, 1, 2, 3, 4, 5] 2 23 (by kernel_rfl) (by kernel_rfl) rfl (by kernel_rfl) (by kernel_rfl) rfl (by kernel_rfl) ?hl5 (Below.refl _ _) ?hq5 ?hr5
  case hl5 =>
    simp only [List.map_cons, List.map_nil, List.getD_cons_zero, List.getD_cons_succ]
    exact rfl
  case hq5 =>
    intro w0 hw0
    have K := XF.out.keep hw0
    have f0 := K.cell (j := 0) rfl
    have f1 := K.cell (j := 1) rfl
    have f2 := K.cell (j := 2) rfl
    have f3 := K.cell (j := 3) rfl
    have f4 := K.cell (j := 4) rfl
    have f5 := K.cell (j := 5) rfl
    have zf := K.lt
    clear K
    (repeat (go_big_quiet_step ((go_at_call 59; refine Calls.grow_of (ST.out _ (HF.out.to (gr_trans hb0 (gr_trans hw0 (plus_below _ _)))))))))
    exact wpQuiet_nil rfl
  refine wpUp_one (i := 6) (by kernel_rfl) rfl rfl (fun w1 h1 h2 K hK => ?_)
  go_simp
  obtain ⟨V, hV⟩ : ∃ V, V = w1.alloc (.cells #[.slice none 0 0, vi 0, vi 0, .slice none 0 0, vi 0, .slice none 0 0, vi 0, vi 0] 137) := ⟨_, rfl⟩
  have hbV : Below w1.heap.size w1 V := by rw [hV]; exact (Below.refl _ _).alloc (Nat.le_refl _) _
  have XV : Hid (CellsBox V w1.heap.size 137 [.slice none 0 0, vi 0, vi 0, .slice none 0 0, vi 0, .slice none 0 0, vi 0, vi 0]) := by unfold Hid; rw [hV]; exact CellsBox.new w1 _ _
  rw [← hV]
  clear hV
  refine hK _ _ (gr_trans h2 hbV) ?_
  refine wpUp_one (i := 7) (by kernel_rfl) rfl rfl (fun w3 h3 h4 K2 hK2 => ?_)
  have Y3 := XV.out.keep h3
  have c0 := Y3.cell (j := 0) rfl
  have c1 := Y3.cell (j := 1) rfl
  have c2 := Y3.cell (j := 2) rfl
  have c3 := Y3.cell (j := 3) rfl
  have c4 := Y3.cell (j := 4) rfl
  have c5 := Y3.cell (j := 5) rfl
  have c6 := Y3.cell (j := 6) rfl
  have c7 := Y3.cell (j := 7) rfl
  have z0 := Y3.frozen 0
  have z1 := Y3.frozen 1
  have z2 := Y3.frozen 2
  have z3 := Y3.frozen 3
  have z4 := Y3.frozen 4
  have z5 := Y3.frozen 5
  have z6 := Y3.frozen 6
  have z7 := Y3.frozen 7
  have Y4 := (((((((Y3.store 0 (.slice f.fA f.far.length f.fC)).store 1 (vi f.slo)).store 2 (vi f.shi)).store 3 (.slice f.pA f.picks.length f.pC)).store 4 (vi f.carry)).store 5 (.slice f.sA f.slips.length f.sC)).store 6 (vi n)).store 7 (vi st)
  have HB4x : Below V0.heap.size V0 _ := (((((((h4.setCell (p := ⟨w1.heap.size, 0, none⟩) h2.size (.slice f.fA f.far.length f.fC)).setCell (p := ⟨w1.heap.size, 1, none⟩) h2.size (vi f.slo)).setCell (p := ⟨w1.heap.size, 2, none⟩) h2.size (vi f.shi)).setCell (p := ⟨w1.heap.size, 3, none⟩) h2.size (.slice f.pA f.picks.length f.pC)).setCell (p := ⟨w1.heap.size, 4, none⟩) h2.size (vi f.carry)).setCell (p := ⟨w1.heap.size, 5, none⟩) h2.size (.slice f.sA f.slips.length f.sC)).setCell (p := ⟨w1.heap.size, 6, none⟩) h2.size (vi n)).setCell (p := ⟨w1.heap.size, 7, none⟩) h2.size (vi st)
  have HY4 := Lib.hid Y4
  have HB4 := Lib.hid HB4x
  clear Y4 Y3 HB4x
  go_simp
  refine (?_ : ∀ W9 : World, CellsBox W9 w1.heap.size 137 [.slice f.fA f.far.length f.fC, vi f.slo, vi f.shi, .slice f.pA f.picks.length f.pC, vi f.carry, .slice f.sA f.slips.length f.sC, vi n, vi st] ∧ Below V0.heap.size V0 W9 → K2 _ W9) _ ⟨HY4.out, HB4.out⟩
  clear c0 c1 c2 c3 c4 c5 c6 c7 z0 z1 z2 z3 z4 z5 z6 z7
  intro W9 ⟨Y9, B9⟩
  refine hK2 _ _ B9 (wpUp_done (by kernel_rfl) (fun W4 h7 h8 => NoPanic.normal ?_))
  have YW := Lib.hid (Y9.keep h7)
  have hw1 : V0.heap.size ≤ w1.heap.size := h2.size
  have BW : Below w.heap.size w W4 := gr_trans hb0 h8
  have XF4 := Lib.hid (XF.out.keep h8)
  have XR4 := Lib.hid (XR.out.keep h8)
  obtain ⟨bw, hbw⟩ : ∃ bw, bw = w1.heap.size := ⟨_, rfl⟩
  have hbwR : w.heap.size + 1 < bw := by have := XR.out.lt; omega
  rw [← hbw] at YW
  try rw [← hbw]
  clear hbw hw1 hK hK2 K K2 h1 h2 h3 h4 h7 h8 B9 Y9 HY4 HB4 W9 w3 XV hbV V w1 XF XR hb0 V0
  go_wp2_with fail
  refine (ends_any _).mono ?_
  rintro e W5 ⟨rfl, hb5⟩
  obtain ⟨V5, hV5⟩ : ∃ V5, V5 = W5.alloc (.cells #[.func (.func 111) #[] #[], .func (.func 112) #[] #[]] 139) := ⟨_, rfl⟩
  have hbV5 : Below W4.heap.size W4 V5 := by rw [hV5]; exact hb5.alloc hb5.size _
  have XE : Hid (CellsBox V5 W5.heap.size 139 [.func (.func 111) #[] #[], .func (.func 112) #[] #[]]) := by unfold Hid; rw [hV5]; exact CellsBox.new W5 _ _
  have YW5 := Lib.hid (YW.out.keep hbV5)
  have XR5 := Lib.hid (XR4.out.keep hbV5)
  have BW5 : Below w.heap.size w V5 := gr_trans BW hbV5
  have hz5 := hb5.size
  have hzR := XR4.out.lt
  go_wp2_with fail
  rw [← hV5]
  clear hV5 YW XR4 hb5 hbV5
  have hW5 : W5.heap.size < V5.heap.size := XE.out.lt
  have hzR5 := XR5.out.lt
  refine' wp_region_box (fun w' => Spare V5.heap.size (w.heap.size + 1) V5 w' ∧ ∃ x y, CellsBox w' (w.heap.size + 1) 24 [vi x, vi y]) ?hC [0, 1, 2, 3, 4, 5, 6, 7, 8] 1 23 (by kernel_rfl) (by kernel_rfl) rfl (by kernel_rfl) (by kernel_rfl) rfl (by kernel_rfl) ?hl6 ⟨Spare.refl _ _ _, 0, 0, XR5.out⟩ ?hq6 ?hr6
  case hC =>
    rintro X Y ⟨h1, x, y, h2⟩ h3
    exact ⟨h1.trans (spare_of_below _ h3 h1.size), x, y, h2.keep h3⟩
  case hl6 =>
    simp only [List.map_cons, List.map_nil, List.getD_cons_zero, List.getD_cons_succ]
    exact rfl
  case hq6 =>
    rintro w0 ⟨hs0, -⟩
    have hk : ∀ {b : Nat} {t : TypeId} {cs : List Value}, CellsBox V5 b t cs → b ≠ w.heap.size + 1 → CellsBox w0 b t cs := fun h hne => (hs0.block _ h.lt hne).trans h
    have K := hk YW5.out (by omega)
    have hBw0 : Below w.heap.size w w0 := BW5.trans (hs0.below (by omega) (by omega))
    have f0 := K.cell (j := 0) rfl
    have f1 := K.cell (j := 1) rfl
    have f2 := K.cell (j := 2) rfl
    have f3 := K.cell (j := 3) rfl
    have f4 := K.cell (j := 4) rfl
    have f5 := K.cell (j := 5) rfl
    have f6 := K.cell (j := 6) rfl
    have f7 := K.cell (j := 7) rfl
    have zf := K.lt
    have E := hk XE.out (by omega)
    have e0 := E.cell (j := 0) rfl
    have e1 := E.cell (j := 1) rfl
    have ze := E.lt
    clear K E hk
    (repeat (go_big_quiet_step (first | (go_at_call 111; refine Calls.grow_of (LO.out _ (HF.out.to (gr_trans hBw0 (plus_below _ _))))) | (go_at_call 112; refine Calls.grow_of (HI.out _ (HF.out.to (gr_trans hBw0 (plus_below _ _))))))))
    exact wpQuiet_nil rfl
  refine wpUp_one (i := 9) (by kernel_rfl) rfl rfl (fun w7 h1 h2 K hK => ?_)
  obtain ⟨hs7, x, y, hc7⟩ := h2
  have c0 := hc7.cell (j := 0) rfl
  have c1 := hc7.cell (j := 1) rfl
  have z0 := hc7.frozen 0
  have z1 := hc7.frozen 1
  have R7 := (hc7.store 0 (vi tl)).store 1 (vi th)
  have S7 : Spare V5.heap.size (w.heap.size + 1) V5 ((w7.setCell ⟨w.heap.size + 1, 0, none⟩ (vi tl)).setCell ⟨w.heap.size + 1, 1, none⟩ (vi th)) := hs7.trans ⟨rfl, rfl, rfl, by simp, fun k hk hl => (heap_setCell_other _ _ k _ hl).trans (heap_setCell_other _ _ k _ hl)⟩
  have HR7 := Lib.hid R7
  have HS7 := Lib.hid S7
  clear R7 S7
  go_simp
  refine hK _ _ ⟨HS7.out, tl, th, HR7.out⟩ (wpUp_done (by kernel_rfl) (fun W8 g1 g2 => NoPanic.normal ?_))
  have R8 := HR7.out.keep g1
  have r0 := R8.cell (j := 0) rfl
  have r1 := R8.cell (j := 1) rfl
  have HB8 : Below w.heap.size w W8 := BW5.trans (g2.1.below (by omega) (by omega))
  clear R8 g1 g2 HR7 HS7 c0 c1 z0 z1 hK K
  go_wp2_with fail
  refine bodyPost_ret (v := spanV (tl, th)) (by simp [results, Tryd.results61, go_sem, r0, r1]) rfl ⟨rfl, HB8⟩
end Go.Proofs.YtomgnpfpaodpiaaDoor
/- Contracts of Takes and done. -/
namespace Go.Proofs.YtomgnpfpaodpiaaDoor
open Go Go.RowKit
set_option maxHeartbeats 2000000
def TakesV (f : Floor) (n : Int) : Int × Int := if checkSlipV f n = 0 then (match f.slips[n.toNat]? with | some s => takesF f s | none => (0, 0)) else (0, 0)
theorem Takes_any (f : Floor) (n : Int) (w : World) (hl : Lim w) (h : FloorAt w w.heap.size f) :
    Calls Tryd.prog 20 #[f.val, vi n] w fun e w' => e = .returned (.tuple #[spanV (TakesV f n), vi (checkSlipV f n)]) ∧ Below w.heap.size w w' := by
  have HL := Lib.hid hl
  have HF := Lib.hid h
  rcases check_cases f n with hc | ⟨hc, hv, k, s, rfl, hs⟩
  · obtain ⟨ec, hec⟩ : ∃ ec, checkSlipV f n = ec := ⟨_, rfl⟩
    have hne : ec ≠ 0 := by omega
    have hned : decide (ec = 0) = false := by simpa using hne
    have E : Hid (TakesV f n = (0, 0)) := by unfold Hid TakesV; rw [if_neg (by omega)]
    have CH := Lib.hid (fun (W : World) hL hW => checkSlip_is hec W hL hW)
    rw [E.out, hec]
    clear h hl hc hec E
    go_enter Tryd.func20, Tryd.ntmps20
    go_wp2_with fail
    refine (CH.out _ (HL.out.next (by (repeat (first | exact Below.refl _ _ | refine Below.setCell ?_ (by first | omega | (simp; omega) | (simp; done)) _ | refine Below.alloc ?_ (by first | omega | (simp; omega) | (simp; done)) _ | refine Below.drew ?_ | refine below_drewN ?_ _ | refine Below.trans ?_ (Below.mono (by assumption) (by first | omega | (simp; omega) | (simp; done))))))) (HF.out.to (by (repeat (first | exact Below.refl _ _ | refine Below.setCell ?_ (by first | omega | (simp; omega) | (simp; done)) _ | refine Below.alloc ?_ (by first | omega | (simp; omega) | (simp; done)) _ | refine Below.drew ?_ | refine below_drewN ?_ _ | refine Below.trans ?_ (Below.mono (by assumption) (by first | omega | (simp; omega) | (simp; done)))))))).mono ?_
    rintro e W ⟨rfl, hb⟩
    have HB0 : Below w.heap.size w W := by (repeat (first | exact Below.refl _ _ | refine Below.setCell ?_ (by first | omega | (simp; omega) | (simp; done)) _ | refine Below.alloc ?_ (by first | omega | (simp; omega) | (simp; done)) _ | refine Below.drew ?_ | refine below_drewN ?_ _ | refine Below.trans ?_ (Below.mono (by assumption) (by first | omega | (simp; omega) | (simp; done)))))
    have r0 : W.cell? ⟨w.heap.size + 1, 0, none⟩ = some (vi 0) := cell_keep hb (by simp [go_sem])
    have r1 : W.cell? ⟨w.heap.size + 1, 1, none⟩ = some (vi 0) := cell_keep hb (by simp [go_sem])
    have z0 : W.frozen? ⟨w.heap.size + 1, 0, none⟩ = false := soft_keep hb (by simp) (by simp [go_sem])
    have z1 : W.frozen? ⟨w.heap.size + 1, 1, none⟩ = false := soft_keep hb (by simp) (by simp [go_sem])
    have zr := cell_lt r0
    clear hb
    go_wp2_with fail
    refine bodyPost_ret (v := .tuple #[spanV (0, 0), vi ec]) (by simp [results, Tryd.results20, go_sem, r0, r1, z0, z1]) rfl ⟨rfl, ?_⟩
    (repeat (first | exact Below.refl _ _ | refine Below.setCell ?_ (by first | omega | (simp; omega) | (simp; done)) _ | refine Below.alloc ?_ (by first | omega | (simp; omega) | (simp; done)) _ | refine Below.drew ?_ | refine below_drewN ?_ _ | refine Below.trans ?_ (Below.mono (by assumption) (by first | omega | (simp; omega) | (simp; done)))))
  · have E : Hid (TakesV f k = takesF f s) := by unfold Hid TakesV; rw [if_pos hc]; simp [hs]
    have CH := Lib.hid (fun (W : World) hL hW => checkSlip_is hc W hL hW)
    have ST := Lib.hid (fun (W : World) hW => takes_any f hv k s hs W hW)
    rw [hc, E.out]
    obtain ⟨an, han⟩ : ∃ an, an = takesF f s := ⟨_, rfl⟩
    rw [← han] at ST ⊢
    obtain ⟨lo, hi⟩ := an
    clear h hl hc han hs E hv
    go_enter Tryd.func20, Tryd.ntmps20
    go_wp2_with fail
    refine (CH.out _ (HL.out.next (by (repeat (first | exact Below.refl _ _ | refine Below.setCell ?_ (by first | omega | (simp; omega) | (simp; done)) _ | refine Below.alloc ?_ (by first | omega | (simp; omega) | (simp; done)) _ | refine Below.drew ?_ | refine below_drewN ?_ _ | refine Below.trans ?_ (Below.mono (by assumption) (by first | omega | (simp; omega) | (simp; done))))))) (HF.out.to (by (repeat (first | exact Below.refl _ _ | refine Below.setCell ?_ (by first | omega | (simp; omega) | (simp; done)) _ | refine Below.alloc ?_ (by first | omega | (simp; omega) | (simp; done)) _ | refine Below.drew ?_ | refine below_drewN ?_ _ | refine Below.trans ?_ (Below.mono (by assumption) (by first | omega | (simp; omega) | (simp; done)))))))).mono ?_
    rintro e W ⟨rfl, hb⟩
    have HB0 : Below w.heap.size w W := by (repeat (first | exact Below.refl _ _ | refine Below.setCell ?_ (by first | omega | (simp; omega) | (simp; done)) _ | refine Below.alloc ?_ (by first | omega | (simp; omega) | (simp; done)) _ | refine Below.drew ?_ | refine below_drewN ?_ _ | refine Below.trans ?_ (Below.mono (by assumption) (by first | omega | (simp; omega) | (simp; done)))))
    have a0 : W.cell? ⟨w.heap.size, 0, none⟩ = some (.slice f.fA f.far.length f.fC) := cell_keep hb (by simp [go_sem])
    have a1 : W.cell? ⟨w.heap.size, 1, none⟩ = some (vi f.slo) := cell_keep hb (by simp [go_sem])
    have a2 : W.cell? ⟨w.heap.size, 2, none⟩ = some (vi f.shi) := cell_keep hb (by simp [go_sem])
    have a3 : W.cell? ⟨w.heap.size, 3, none⟩ = some (.slice f.pA f.picks.length f.pC) := cell_keep hb (by simp [go_sem])
    have a4 : W.cell? ⟨w.heap.size, 4, none⟩ = some (vi f.carry) := cell_keep hb (by simp [go_sem])
    have a5 : W.cell? ⟨w.heap.size, 5, none⟩ = some (.slice f.sA f.slips.length f.sC) := cell_keep hb (by simp [go_sem])
    have r0 : W.cell? ⟨w.heap.size + 1, 0, none⟩ = some (vi 0) := cell_keep hb (by simp [go_sem])
    have r1 : W.cell? ⟨w.heap.size + 1, 1, none⟩ = some (vi 0) := cell_keep hb (by simp [go_sem])
    have z0 : W.frozen? ⟨w.heap.size + 1, 0, none⟩ = false := soft_keep hb (by simp) (by simp [go_sem])
    have z1 : W.frozen? ⟨w.heap.size + 1, 1, none⟩ = false := soft_keep hb (by simp) (by simp [go_sem])
    have zr := cell_lt r0
    clear hb
    go_wp2_with fail
    refine (ST.out _ (HF.out.to HB0)).mono ?_
    rintro e W2 ⟨rfl, hb2⟩
    have s0 := cell_keep hb2 r0
    have s1 := cell_keep hb2 r1
    have y0 := soft_keep hb2 zr z0
    have y1 := soft_keep hb2 zr z1
    have zr2 := cell_lt s0
    have HB2 : Below w.heap.size w W2 := gr_trans HB0 hb2
    clear a0 a1 a2 a3 a4 a5 r0 r1 z0 z1 hb2
    go_wp2_with fail
    refine bodyPost_ret (v := .tuple #[spanV (lo, hi), vi 0]) (by simp [results, Tryd.results20, go_sem, s0, s1, y0, y1]) rfl ⟨rfl, ?_⟩
    (repeat (first | exact Below.refl _ _ | refine Below.setCell ?_ (by first | omega | (simp; omega) | (simp; done)) _ | refine Below.alloc ?_ (by first | omega | (simp; omega) | (simp; done)) _ | refine Below.drew ?_ | refine below_drewN ?_ _ | refine Below.trans ?_ (Below.mono (by assumption) (by first | omega | (simp; omega) | (simp; done)))))
end Go.Proofs.YtomgnpfpaodpiaaDoor
/- Contract of done. -/
namespace Go.Proofs.YtomgnpfpaodpiaaDoor
open Go Go.RowKit
set_option maxHeartbeats 2000000
theorem madeCells_rep (z : Array Value) (v : Value) (hz : ∀ i, i < z.size → z[i]! = v) (h0 : 0 < z.size) (n : Nat) : madeCells z n = (List.replicate n v).toArray := by
  apply Array.ext
  · simp [madeCells]
  · intro i h1 h2
    simp only [madeCells, Array.getElem_map, Array.getElem_range]
    rw [hz _ (Nat.mod_lt _ h0)]
    simp
theorem info_span : (Tryd.prog.info? 24).map (fun i => (i.zero, i.size, i.bytes)) = some (some (.agg #[vi 0, vi 0]), 2, 16) := by kernel_rfl
theorem mkSpans (n : Nat) (hn : n ≤ 1000) (w : World) : (Instr.makeSlice 25 (.int .i64 n) (.int .i64 n)).run Tryd.prog w = .ok (.slice (some ⟨w.heap.size, 0, none⟩) n n) (w.alloc (.cells (List.replicate (n * 2) (vi 0)).toArray 24)) := by
  obtain ⟨i0, hi, hy0, hy1, hy2⟩ := info_parts info_span
  have := run_make (P := Tryd.prog) w 25 24 i0 _ Tryd.underlying25 hi hy0 .i64 .i64 n n (by omega) (by omega) (by rw [hy2]; omega) (by omega)
  rw [this, hy1, Int.toNat_natCast, madeCells_rep _ (vi 0)]
  · intro i hi
    have : i = 0 ∨ i = 1 := by simp [Value.cells] at hi; omega
    rcases this with rfl | rfl <;> rfl
  · simp [Value.cells]
abbrev flatS (l : List (Int × Int)) : List Value := l.flatMap spanC
theorem flatS_rep (n : Nat) : flatS (List.replicate n (0, 0)) = List.replicate (n * 2) (vi 0) := by
  induction n with
  | zero => rfl
  | succ n ih =>
    rw [List.replicate_succ, show (n + 1) * 2 = n * 2 + 1 + 1 by omega, List.replicate_succ, List.replicate_succ, ← ih]
    rfl
theorem flatS_set : ∀ (l : List (Int × Int)) (k : Nat) (p : Int × Int), k < l.length → flatS (l.set k p) = ((flatS l).set (k * 2) (vi p.1)).set (k * 2 + 1) (vi p.2)
  | [], _, _, h => by simp at h
  | a :: l, 0, p, _ => by simp [flatS, spanC]
  | a :: l, k + 1, p, h => by
    have ih := flatS_set l k p (by simpa using h)
    have e1 : flatS ((a :: l).set (k + 1) p) = vi a.1 :: vi a.2 :: flatS (l.set k p) := rfl
    have e2 : flatS (a :: l) = vi a.1 :: vi a.2 :: flatS l := rfl
    rw [e1, e2, ih, show (k + 1) * 2 = k * 2 + 1 + 1 by omega]
    simp
theorem flatS_at : ∀ (l : List (Int × Int)) (k : Nat) (p : Int × Int), l[k]? = some p → (flatS l)[k * 2]? = some (vi p.1) ∧ (flatS l)[k * 2 + 1]? = some (vi p.2)
  | [], _, _, h => by simp at h
  | a :: l, 0, p, h => by simp at h; subst h; simp [flatS, spanC]
  | a :: l, k + 1, p, h => by
    have ih := flatS_at l k p (by simpa using h)
    have e2 : flatS (a :: l) = vi a.1 :: vi a.2 :: flatS l := rfl
    rw [e2, show (k + 1) * 2 = k * 2 + 1 + 1 by omega]
    simpa using ih
/-- how long a slip takes -/
def tkF (f : Floor) (x : Int) : Int × Int := match f.slips[x.toNat]? with | some s => takesF f s | none => (0, 0)
def addS (p q : Int × Int) : Int × Int := (p.1 + q.1, p.2 + q.2)
def stepD (tk : Int → Int × Int) (st : (Int × Int) × List (Int × Int)) (x : Int) : (Int × Int) × List (Int × Int) := (addS st.1 (tk x), st.2.set x.toNat (addS st.1 (tk x)))
def rowD (tk : Int → Int × Int) (out : List (Int × Int)) (row : List Int) : List (Int × Int) := (row.foldl (stepD tk) ((0, 0), out)).2
def doneF (f : Floor) (rows : List (List Int)) : List (Int × Int) := rows.foldl (rowD (tkF f)) (List.replicate f.slips.length (0, 0))
theorem tk_range {f : Floor} (hv : validB f = true) (x : Int) : (0 ≤ (tkF f x).1 ∧ (tkF f x).1 ≤ 20000000) ∧ (0 ≤ (tkF f x).2 ∧ (tkF f x).2 ≤ 20000000) := by
  unfold tkF
  cases hs : f.slips[x.toNat]? with
  | none => simp
  | some s =>
    have hm := List.mem_of_getElem? hs
    have hf := fine hv
    have hsl := (hf.slips s hm).2.2
    have hst := stepsF_range hf hm
    have h1 := secsLo_range hv hsl (by omega : 0 ≤ stepsF f s ∧ stepsF f s ≤ 1000000) s.lines.length (Nat.le_refl _)
    have h2 := secsHi_range hv hsl (by omega : 0 ≤ stepsF f s ∧ stepsF f s ≤ 1000000) s.lines.length (Nat.le_refl _)
    have h3 := (linesB_ok hsl).2.1
    simp only [takesF, secsFLo, secsFHi]
    omega
theorem row_len (tk : Int → Int × Int) : ∀ (row : List Int) (st : (Int × Int) × List (Int × Int)), (row.foldl (stepD tk) st).2.length = st.2.length
  | [], _ => rfl
  | x :: row, st => by
    rw [List.foldl_cons, row_len tk row]
    simp [stepD]
theorem done_len (tk : Int → Int × Int) : ∀ (rows : List (List Int)) (out : List (Int × Int)), (rows.foldl (rowD tk) out).length = out.length
  | [], _ => rfl
  | r :: rows, out => by
    rw [List.foldl_cons, done_len tk rows, rowD, row_len]
theorem now_range {tk : Int → Int × Int} (h : ∀ x, (0 ≤ (tk x).1 ∧ (tk x).1 ≤ 20000000) ∧ (0 ≤ (tk x).2 ∧ (tk x).2 ≤ 20000000)) : ∀ (row : List Int) (st : (Int × Int) × List (Int × Int)), (st.1.1 ≤ (row.foldl (stepD tk) st).1.1 ∧ (row.foldl (stepD tk) st).1.1 ≤ st.1.1 + 20000000 * row.length) ∧ (st.1.2 ≤ (row.foldl (stepD tk) st).1.2 ∧ (row.foldl (stepD tk) st).1.2 ≤ st.1.2 + 20000000 * row.length)
  | [], st => by simp
  | x :: row, st => by
    have ih := now_range h row (stepD tk st x)
    have hx := h x
    rw [List.foldl_cons, List.length_cons]
    simp only [stepD, addS] at ih ⊢
    omega
end Go.Proofs.YtomgnpfpaodpiaaDoor
