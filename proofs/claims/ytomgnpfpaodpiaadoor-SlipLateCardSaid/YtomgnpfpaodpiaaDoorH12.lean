/- The law of Grow within the round of a loop over a function. -/
import Derived.Test.YtomgnpfpaodpiaaDoorH02
import Derived.Sort.BigQuietIn
import Derived.RangeFuncNested
import Derived.RangeFuncBound
import Derived.RangeFuncCalls
import Derived.RangeFuncLeaves
import Derived.RangeFuncBox
import Derived.RangeFuncFrom
import Derived.Shelf.Abstract
import Derived.Shelf.RegionOpen
import Derived.WalkKit
import Derived.WalkMore
import Derived.OwnWalkIn
import Derived.TacticsInMore
import Derived.LoopNIn
import Derived.LoopIn
import Derived.Maps.AppendAt
import Derived.Laws.Rows
import Derived.Test.YtomgnpfpaodpiaaDoorH11
import Derived.Test.YtomgnpfpaodpiaaDoorH09
set_option linter.unusedVariables false
set_option linter.unusedSimpArgs false
namespace Go.Proofs.YtomgnpfpaodpiaaDoor
open Go Go.RowKit
variable {P : Program} {n l : Nat}
def noDefer (ops : List Oper) : Bool := ops.all fun o => match o.op with | .defer _ => false | _ => true
theorem wpIn_round {o : Oper} {a : Act} {w : World} {K : Act → World → Prop} {Q : Exit → Act → World → Prop} (hd : ∀ c, o.op ≠ .defer c) (h : o.wpIn Fence.wide n P a w K Q) : o.wpIn (Fence.wide.inRound l) n P a w K Q := by
  unfold Oper.wpIn at *
  refine ⟨h.1, ?_⟩
  have h2 := h.2
  rw [Oper.semAt_eq _ _ _ hd] at h2 ⊢
  generalize (execOp a.eval o).run P w = r at *
  cases r with
  | ok x w' => cases x <;> exact h2
  | halt x w' => cases x <;> exact h2
theorem wpAnyIn_round {md : Region.Mode} {ops : Array Oper} {Q : Exit → Act → World → Prop} (hd : noDefer ops.toList = true) : ∀ (fuel : Nat) (listed : Array Bool) (a : Act) (w : World), wpAnyIn Fence.wide n P md ops Q fuel listed a w → wpAnyIn (Fence.wide.inRound l) n P md ops Q fuel listed a w := by
  intro fuel
  induction fuel with
  | zero => exact fun _ _ _ h => h
  | succ fuel ih =>
    intro listed a w h
    refine ⟨h.1, fun i hi => ?_⟩
    have h2 := h.2 i hi
    unfold wpOpIn at h2 ⊢
    cases ho : ops[i]? with
    | none => rw [ho] at h2; exact ih _ _ _ h2
    | some o =>
      rw [ho] at h2
      dsimp only at h2 ⊢
      have hdo : ∀ c, o.op ≠ .defer c := by
        intro c hc
        have := List.all_eq_true.1 hd o (by rw [Array.mem_toList_iff]; exact Array.mem_of_getElem? ho)
        simp [hc] at this
      split
      · rename_i hw
        rw [if_pos hw] at h2
        exact wpIn_round hdo (Oper.wpIn_mono (fun a w => ih _ a w) h2)
      · rename_i hw
        rw [if_neg hw] at h2
        exact ⟨h2.1, ih _ _ _ h2.2⟩
theorem quietIn_wide {ops : Array Oper} {C : World → Prop} {Q : Act → Prop} : ∀ (l : List Oper) (a : Act), wpQuiet P ops C Q l a → wpQuietIn Fence.wide n P ops C Q l a := by
  intro l
  induction l with
  | nil => exact fun _ h => h
  | cons o rest ih =>
    intro a h
    refine ⟨fun _ _ _ _ => trivial, ?_⟩
    unfold wpQuiet at h
    split
    · rename_i hw
      rw [if_pos hw] at h
      obtain ⟨v, h1, h2⟩ := h
      refine ⟨v, fun w hC => ?_, ih _ h2⟩
      have := h1 w hC
      unfold Oper.quietAt at this
      unfold Oper.quietAtIn
      generalize (execOp a.eval o).run P w = r at *
      cases r with
      | ok x w' =>
        cases x <;> first
          | exact this
          | exact ⟨this.1, fun h => by simp [Fence.wide] at h, callsIn_wide.2 this.2⟩
      | halt x w' => exact this
    · rename_i hw
      rw [if_neg hw] at h
      exact ih _ h
theorem wpIn_region_grow_round {id : Nat} {Q : Exit → Act → World → Prop} {a : Act} {w : World} {ops : List Oper} (hm : P.follows .mixedOrders = true) (hB : Region.lexB .any ops.toArray = true) (hd : noDefer ops = true)
    (h' : wpQuiet P ops.toArray (fun w' => ∃ g, w' = plus w g) (fun a' => ∀ w', (∃ g, w' = plus w g) → Q .normal a' w') ops a) : (Code.region id ops.toArray true).wpIn (Fence.wide.inRound l) n P Q a w := by
  have h := quietIn_wide (n := n) _ _ h'
  simp only [Region.lexB, Bool.and_eq_true] at hB
  refine wpIn_region_any hm (wpAnyIn_round (by simpa using hd) _ _ _ _ (wpAnyIn_of_quiet (C := fun w' => ∃ g, w' = plus w g) (Q := fun a' => ∀ w', (∃ g, w' = plus w g) → Q .normal a' w') rfl (fun _ w' hw' h => h w' hw') _ _ _ _ ⟨⟨[], w.drawn + 1⟩, by simp [plus]⟩ ?_))
  have := wpAnyQIn_lex (F := Fence.wide) (n := n) (C := fun w' => ∃ g, w' = plus w g) (md := .any) hB.1 ops 0 (Array.replicate ops.toArray.size false) a (by simp) (by simpa using hB.2) h
  simpa using this
theorem wpIn_region_grow_wide {id : Nat} {Q : Exit → Act → World → Prop} {a : Act} {w : World} {ops : List Oper} (hm : P.follows .mixedOrders = true) (hB : Region.lexB .any ops.toArray = true)
    (h' : wpQuiet P ops.toArray (fun w' => ∃ g, w' = plus w g) (fun a' => ∀ w', (∃ g, w' = plus w g) → Q .normal a' w') ops a) : (Code.region id ops.toArray true).wpIn Fence.wide n P Q a w :=
  wpIn_region_quiet (C := fun w' => ∃ g, w' = plus w g) rfl hm hB ⟨⟨[], w.drawn + 1⟩, by simp [plus]⟩ (by simpa using quietIn_wide (n := n) _ _ h')
theorem CallsIn.grow_of {f : FuncId} {args : Array Value} {w : World} {g : More} {v : Value}
    (h : Calls P f args (plus w g) fun e w' => e = .returned v ∧ Below (plus w g).heap.size (plus w g) w') : CallsIn Fence.wide n P f args (plus w g) fun e w'' => e = .returned v ∧ ∃ g', w'' = plus w g' :=
  callsIn_wide.2 (Calls.grow_of h)
end Go.Proofs.YtomgnpfpaodpiaaDoor

/- Iterators: what stays while rounds go on: every block of cells below a world's end, one aside, and rows of one type. -/
namespace Go.Proofs.YtomgnpfpaodpiaaDoor
open Go Go.RowKit Go.Shelf
attribute [local go_sem] Oper.semAt_some
theorem grown_of_below {w w' : World} (h : Below w.heap.size w w') : w.grownBy w' none :=
  ⟨h.os, h.tape, h.output, h.size, fun k hk _ => h.block k hk⟩
theorem abides_below {β : Type} {B : Nat} {J : β → World → Prop} (h : AbidesFrom B J) {s : β} {w w' : World} (hs : J s w) (hb : Below w.heap.size w w') : J s w' :=
  h s w w' none hs (grown_of_below hb) (fun r e => by cases e)
theorem keeps_of_below {A B : World} (h : Below A.heap.size A B) (k : Nat) : KeepsFrom k A B := KeepsFrom.of_grownBy (grown_of_below h) (fun j e => by cases e)
theorem boxed_below {W W' : World} {B : Nat} {t : TypeId} {v : Value} (h : Boxed W B t v) (hb : Below W.heap.size W W') : Boxed W' B t v := (hb.block B h.lt).trans h
def CellsBox (W : World) (B : Nat) (t : TypeId) (cs : List Value) : Prop := W.heap[B]? = some (.cells cs.toArray t (0, 0))
theorem CellsBox.lt {W : World} {B : Nat} {t : TypeId} {cs : List Value} (h : CellsBox W B t cs) : B < W.heap.size := (Array.getElem?_eq_some_iff.1 h).1
theorem CellsBox.cell {W : World} {B : Nat} {t : TypeId} {cs : List Value} (h : CellsBox W B t cs) {j : Nat} {u : Value} (hj : cs[j]? = some u) : W.cell? ⟨B, j, none⟩ = some u := by
  unfold World.cell?
  dsimp only
  rw [show W.heap[B]? = _ from h]
  simp [hj]
theorem CellsBox.frozen {W : World} {b : Nat} {t : TypeId} {cs : List Value} (h : CellsBox W b t cs) (j : Nat) : W.frozen? ⟨b, j, none⟩ = false := by simp [World.frozen?, show W.heap[b]? = _ from h]
theorem CellsBox.new (W : World) (t : TypeId) (cs : List Value) : CellsBox (W.alloc (.cells cs.toArray t)) W.heap.size t cs := World.alloc_heap_new W _
theorem CellsBox.keep {w w' : World} {b : Nat} {t : TypeId} {cs : List Value} (h : CellsBox w b t cs) (hb : Below w.heap.size w w') : CellsBox w' b t cs := (hb.block b h.lt).trans h
theorem CellsBox.apart {W : World} {b : Nat} {t : TypeId} {cs : List Value} (h : CellsBox W b t cs) (p : Addr) (v : Value) (hne : b ≠ p.block) : CellsBox (W.setCell p v) b t cs := (heap_setCell_other W p b v hne).trans h
theorem CellsBox.alloc {W : World} {b : Nat} {t : TypeId} {cs : List Value} (h : CellsBox W b t cs) (o : Obj) : CellsBox (W.alloc o) b t cs := h.keep ((Below.refl _ W).alloc (Nat.le_refl _) o)
theorem CellsBox.store {W : World} {b : Nat} {t : TypeId} {cs : List Value} (h : CellsBox W b t cs) (i : Nat) (v : Value) : CellsBox (W.setCell ⟨b, i, none⟩ v) b t (cs.set i v) := by
  have := heap_setCell_same W b i cs.toArray t v h
  unfold CellsBox
  rw [this]
  simp
theorem CellsBox.arr {W : World} {b : Nat} {p : List Int} (hl : p.length = 12) (h : CellsBox W b 102 (p.map vi)) : ArrAt W b p :=
  ⟨hl, fun j hj => h.cell (by rw [List.getElem?_map, List.getElem?_eq_getElem (by omega)]; simp [List.getElem?_eq_getElem (show j < p.length by omega)]), fun j hj => h.frozen j⟩
theorem CellsBox.setAll {W : World} {b : Nat} {z : List Int} (hl : z.length = 12) (h : CellsBox W b 102 (z.map vi)) (r0 r1 r2 r3 r4 r5 r6 r7 r8 r9 r10 r11 : Int) : CellsBox ((((((((((((W.setCell ⟨b, 0, none⟩ (vi r0)).setCell ⟨b, 1, none⟩ (vi r1)).setCell ⟨b, 2, none⟩ (vi r2)).setCell ⟨b, 3, none⟩ (vi r3)).setCell ⟨b, 4, none⟩ (vi r4)).setCell ⟨b, 5, none⟩ (vi r5)).setCell ⟨b, 6, none⟩ (vi r6)).setCell ⟨b, 7, none⟩ (vi r7)).setCell ⟨b, 8, none⟩ (vi r8)).setCell ⟨b, 9, none⟩ (vi r9)).setCell ⟨b, 10, none⟩ (vi r10)).setCell ⟨b, 11, none⟩ (vi r11)) b 102 ([r0, r1, r2, r3, r4, r5, r6, r7, r8, r9, r10, r11].map vi) := by
  obtain ⟨z0, z1, z2, z3, z4, z5, z6, z7, z8, z9, z10, z11, rfl⟩ := spread hl
  exact ((((((((((((h.store 0 (vi r0)).store 1 (vi r1)).store 2 (vi r2)).store 3 (vi r3)).store 4 (vi r4)).store 5 (vi r5)).store 6 (vi r6)).store 7 (vi r7)).store 8 (vi r8)).store 9 (vi r9)).store 10 (vi r10)).store 11 (vi r11))
/-- whatever lay below n₀ lies as it lay, the block L aside -/
structure Spare (n₀ L : Nat) (w w' : World) : Prop where
  os : w'.os = w.os
  tape : w'.tape = w.tape
  output : w'.output = w.output
  size : w.heap.size ≤ w'.heap.size
  block : ∀ k, k < n₀ → k ≠ L → w'.heap[k]? = w.heap[k]?
theorem Spare.refl (n₀ L : Nat) (w : World) : Spare n₀ L w w := ⟨rfl, rfl, rfl, Nat.le_refl _, fun _ _ _ => rfl⟩
theorem Spare.trans {n₀ L : Nat} {a b c : World} (h : Spare n₀ L a b) (k : Spare n₀ L b c) : Spare n₀ L a c :=
  ⟨k.os.trans h.os, k.tape.trans h.tape, k.output.trans h.output, Nat.le_trans h.size k.size, fun i hi hl => (k.block i hi hl).trans (h.block i hi hl)⟩
theorem spare_of_below {n₀ B : Nat} {a b : World} (L : Nat) (h : Below B a b) (hn : n₀ ≤ B) : Spare n₀ L a b := ⟨h.os, h.tape, h.output, h.size, fun k hk _ => h.block k (by omega)⟩
theorem Spare.cell {n₀ L : Nat} {a b : World} (h : Spare n₀ L a b) {p : Addr} (hp : p.block < n₀) (hl : p.block ≠ L) : b.cell? p = a.cell? p := by
  simp [World.cell?, h.block _ hp hl]
theorem Spare.below {n₀ L : Nat} {a b : World} (h : Spare n₀ L a b) {B : Nat} (h1 : B ≤ n₀) (h2 : B ≤ L) : Below B a b :=
  ⟨h.os, h.tape, h.output, h.size, fun k hk => h.block k (by omega) (by omega)⟩
/-- whatever lay below n₀ lies as it lay, and every block of cells that are not of type e, the block L aside -/
structure KE (e : TypeId) (n₀ L : Nat) (w w' : World) : Prop where
  spare : Spare n₀ L w w'
  boxes : ∀ (k : Nat) (c : Array Value) (t : TypeId), k ≠ L → t ≠ e → w.heap[k]? = some (.cells c t (0, 0)) → w'.heap[k]? = some (.cells c t (0, 0))
theorem KE.refl (e : TypeId) (n₀ L : Nat) (w : World) : KE e n₀ L w w := ⟨Spare.refl _ _ _, fun _ _ _ _ _ h => h⟩
theorem KE.trans {e : TypeId} {n₀ L : Nat} {a b c : World} (h : KE e n₀ L a b) (k : KE e n₀ L b c) : KE e n₀ L a c :=
  ⟨h.spare.trans k.spare, fun i x t hl ht hi => k.boxes i x t hl ht (h.boxes i x t hl ht hi)⟩
theorem KE.size {e : TypeId} {n₀ L : Nat} {a b : World} (h : KE e n₀ L a b) : a.heap.size ≤ b.heap.size := h.spare.size
theorem KE.turn {e : TypeId} {n₀ : Nat} (L : Nat) (W : World) (l : Nat) (o o' : Obj) (hn : n₀ ≤ l) (h : W.heap[l]? = some o) (h1 : o.isCells = false) : KE e n₀ L W (W.putObj l o') :=
  ⟨⟨rfl, rfl, rfl, by simp, fun k hk _ => World.putObj_heap_other (by omega)⟩, fun k c t _ _ hk => by
    by_cases e : k = l
    · subst e; rw [h] at hk; cases hk; cases h1
    · exact (World.putObj_heap_other e).trans hk⟩
theorem ke_of_below {e : TypeId} {n₀ L : Nat} {a b : World} (h : Below a.heap.size a b) (hn : n₀ ≤ a.heap.size) : KE e n₀ L a b :=
  ⟨spare_of_below L h hn, fun k c t _ _ hk => (h.block k (Array.getElem?_eq_some_iff.1 hk).1).trans hk⟩
theorem KE.box {e : TypeId} {n₀ L B : Nat} {a b : World} {t : TypeId} {cs : List Value} (h : KE e n₀ L a b) (hl : B ≠ L) (ht : t ≠ e) (hc : CellsBox a B t cs) : CellsBox b B t cs := h.boxes B _ t hl ht hc
theorem ownFrom_spare {β : Type} {n₀ B L : Nat} {w₀ : World} (hn : n₀ ≤ w₀.heap.size) (hB : n₀ ≤ B) : OwnFrom B (fun (_ : β) W => Spare n₀ L w₀ W) := by
  intro s X Y row hs hg hr
  refine hs.trans ⟨hg.os, hg.tape, hg.output, hg.size, fun k hk _ => ?_⟩
  exact hg.block k (by have := hs.size; omega) fun e => by have := (hr k e.symm).1; omega
theorem ownFrom_ke {β : Type} {e : TypeId} {n₀ L B : Nat} {w₀ : World} (hn : n₀ ≤ w₀.heap.size) (hB : n₀ ≤ B) : OwnFrom B (fun (_ : β) W => KE e n₀ L w₀ W) := by
  intro s X Y row hs hg hr
  refine ⟨ownFrom_spare hn hB s X Y row hs.spare hg hr, fun k c t hl ht hk => ?_⟩
  have hX := hs.boxes k c t hl ht hk
  refine (hg.block k (Array.getElem?_eq_some_iff.1 hX).1 fun e => ?_).trans hX
  obtain ⟨_, o', ho', hc⟩ := hr k e.symm
  rw [hX] at ho'; cases ho'; cases hc
/-- an append to the list in the box L -/
theorem appended_ke {e te : TypeId} {size : Nat} {W w1 : World} {n₀ base L : Nat} {v v' : Value} {k m : Nat} {xs ys : List Value} {tmp : Obj}
    (hv : Boxed W L te v) (hte : te ≠ e) (hrow : W.ownsRow base e size v k xs) (hb : n₀ ≤ base) (hn₀ : base ≤ W.heap.size)
    (hown' : w1.ownsRow base e size v' m ys) (hgrow : (W.alloc tmp).grownBy w1 v.ownBlock) :
    Boxed w1 L te v ∧ Boxed (w1.setCell ⟨L, 0, none⟩ v') L te v' ∧ (w1.setCell ⟨L, 0, none⟩ v').ownsRow base e size v' m ys ∧ KeepsOthers W (w1.setCell ⟨L, 0, none⟩ v') ∧ KE e n₀ L W (w1.setCell ⟨L, 0, none⟩ v') := by
  obtain ⟨h1, h2, _, h4, h5⟩ := hv.appended hte (own_base hrow (Nat.zero_le _)) (Nat.zero_le _) (Nat.zero_le _) (own_base hown' (Nat.zero_le _)) hgrow
  refine ⟨h1, h2, hown'.kept (grownBy_setCell' w1 L v') (.inr (h1.not_row hte hown').symm), h4, ⟨h5.os, h5.tape, h5.output, h5.size, fun i hi hl => ?_⟩, fun i c t hl ht hi => ?_⟩
  · have g1 := (grownBy_setCell' w1 L v').block i (by have := hgrow.size; simp at this; omega) (by simpa using hl)
    have g2 := hgrow.block i (by simp; omega) (fun e => by have := (hrow.lt i e.symm).1; omega)
    rw [g1, g2]
    exact Below.heap_alloc _ _ _ (by omega)
  · have hiW : i < W.heap.size := (Array.getElem?_eq_some_iff.1 hi).1
    have g1 := (grownBy_setCell' w1 L v').block i (by have := hgrow.size; simp at this; omega) (by simpa using hl)
    have g2 := hgrow.block i (by simp; omega) (fun e => by
      rcases hrow.2 with ⟨rfl, _⟩ | ⟨g, cp, cur, rfl, _, hh, _⟩
      · cases e
      · cases e
        rw [hi] at hh
        cases hh
        exact ht rfl)
    rw [g1, g2]
    exact (Below.heap_alloc _ _ _ hiW).trans hi
end Go.Proofs.YtomgnpfpaodpiaaDoor

/- What loads produces: plain mathematics. -/
namespace Go.Proofs.YtomgnpfpaodpiaaDoor
open Go Go.RowKit Go.Shelf
def sumF (p : List Int) : Int := p.sum
theorem sum_set : ∀ (p : List Int) (k : Nat) (n x : Int), p[k]? = some n → (p.set k x).sum = p.sum - n + x
  | [], _, _, _, h => by simp at h
  | a :: p, 0, n, x, h => by simp at h; subst h; simp; omega
  | a :: p, k + 1, n, x, h => by
    simp only [List.set_cons_succ, List.sum_cons]
    rw [sum_set p k n x (by simpa using h)]
    omega
theorem sum_nonneg : ∀ p : List Int, (∀ n ∈ p, 0 ≤ n) → 0 ≤ p.sum
  | [], _ => by simp
  | a :: p, h => by
    have := sum_nonneg p (fun n hn => h n (by simp [hn]))
    have := h a (by simp)
    simp; omega
theorem zeros_of_sum : ∀ p : List Int, (∀ n ∈ p, 0 ≤ n) → p.sum ≤ 0 → ∀ n ∈ p, n = 0
  | [], _, _, n, h => by simp at h
  | a :: p, h, hs, n, hn => by
    have h1 := sum_nonneg p (fun n hn => h n (by simp [hn]))
    have h2 := h a (by simp)
    simp only [List.sum_cons] at hs
    rcases List.mem_cons.1 hn with rfl | hn
    · omega
    · exact zeros_of_sum p (fun n hn => h n (by simp [hn])) (by omega) n hn
theorem last_some {p : List Int} (h : p.length = 12) (hz : ¬ p = [0, 0, 0, 0, 0, 0, 0, 0, 0, 0, 0, 0]) (hp : ∀ n ∈ p, 0 ≤ n) : ∃ s, lastF p = some s := by
  have hl := lastF_is p
  cases hf : lastF p with
  | some s => exact ⟨s, rfl⟩
  | none =>
    rw [hf] at hl
    refine absurd ?_ hz
    apply List.ext_getElem (by simp [h])
    intro i h1 h2
    have a := hp _ (List.getElem_mem h1)
    have b := hl i _ (List.getElem?_eq_getElem h1)
    have c : ([0, 0, 0, 0, 0, 0, 0, 0, 0, 0, 0, 0] : List Int)[i] = 0 := by
      have : ∀ x ∈ ([0, 0, 0, 0, 0, 0, 0, 0, 0, 0, 0, 0] : List Int), x = 0 := by simp
      exact this _ (List.getElem_mem h2)
    rw [c]; omega
theorem move_sum {m : Int} {x : List Int × List Int} (h1 : Twelve m x.1) : (moveF x).1.sum ≤ x.1.sum ∧ ((∃ s, lastF x.1 = some s) → (moveF x).1.sum < x.1.sum) := by
  unfold moveF
  have hl := lastF_is x.1
  cases hf : lastF x.1 with
  | none => simp
  | some s =>
    rw [hf] at hl
    obtain ⟨⟨n, hn, hp⟩, _⟩ := hl
    simp only [hn, Option.getD_some]
    rw [sum_set _ _ _ _ hn]
    exact ⟨by omega, fun _ => by omega⟩
theorem moves_sum {m : Int} {p : List Int} (h : Twelve m p) : ∀ k : Nat, (movesF k p).1.sum ≤ p.sum ∧ (1 ≤ k → (∃ s, lastF p = some s) → (movesF k p).1.sum < p.sum)
  | 0 => ⟨Int.le_refl _, fun h => by omega⟩
  | k + 1 => by
    obtain ⟨i1, i2⟩ := moves_sum h k
    have hm := move_sum (moves_ok h k).1
    rw [movesF_succ]
    refine ⟨by omega, fun _ hs => ?_⟩
    rcases Nat.eq_zero_or_pos k with rfl | hk
    · exact (hm.2 hs)
    · have := i2 hk hs; omega
theorem without_moves {m : Int} {p : List Int} (h : Twelve m p) (c : Nat) : withoutF p (farthestF c p) = (movesF c p).1 := by
  obtain ⟨i1, i2, i3⟩ := moves_ok h c
  rw [farthest_is]
  have hl := h.len
  have l1 := i1.len
  have l2 := i2.len
  apply List.ext_getElem (by simp [withoutF, hl, l1, l2])
  intro j h1 h2
  have := i3 j p[j] (movesF c p).1[j] (movesF c p).2[j] (List.getElem?_eq_getElem _) (List.getElem?_eq_getElem _) (List.getElem?_eq_getElem (by omega))
  simp only [withoutF, List.getElem_map, List.getElem_zip]
  omega
theorem loads_zero (c n : Nat) : loadsF c n [0, 0, 0, 0, 0, 0, 0, 0, 0, 0, 0, 0] = [] := by cases n <;> simp [loadsF]
theorem loads_more {c n : Nat} {p : List Int} (hn : p.sum ≤ n) (hp : ∀ x ∈ p, 0 ≤ x) (h : p.length = 12) (hz : ¬ p = [0, 0, 0, 0, 0, 0, 0, 0, 0, 0, 0, 0]) : ∃ n', n = n' + 1 ∧ loadsF c n p = farthestF c p :: loadsF c n' (withoutF p (farthestF c p)) := by
  have hpos : 0 < p.sum := by
    rcases Int.lt_or_le 0 p.sum with h1 | h1
    · exact h1
    · refine absurd ?_ hz
      have := zeros_of_sum p hp h1
      apply List.ext_getElem (by simp [h])
      intro i h1 h2
      have c : ([0, 0, 0, 0, 0, 0, 0, 0, 0, 0, 0, 0] : List Int)[i] = 0 := by
        have : ∀ x ∈ ([0, 0, 0, 0, 0, 0, 0, 0, 0, 0, 0, 0] : List Int), x = 0 := by simp
        exact this _ (List.getElem_mem h2)
      rw [c]
      exact this _ (List.getElem_mem h1)
  obtain ⟨n', rfl⟩ : ∃ n', n = n' + 1 := ⟨n - 1, by omega⟩
  refine ⟨n', rfl, ?_⟩
  rw [loadsF, if_neg]
  intro ha
  refine hz ?_
  have := List.all_eq_true.1 ha
  apply List.ext_getElem (by simp [h])
  intro i h1 h2
  have c : ([0, 0, 0, 0, 0, 0, 0, 0, 0, 0, 0, 0] : List Int)[i] = 0 := by
    have : ∀ x ∈ ([0, 0, 0, 0, 0, 0, 0, 0, 0, 0, 0, 0] : List Int), x = 0 := by simp
    exact this _ (List.getElem_mem h2)
  rw [c]
  simpa using this _ (List.getElem_mem h1)
/-- there are pieces of the first n shelves alone -/
def Only (n : Nat) (p : List Int) : Prop := ∀ (k : Nat) (x : Int), p[k]? = some x → 0 < x → k < n
theorem only_parts {m : Int} {p : List Int} {n : Nat} (h : Twelve m p) (ho : Only n p) (c : Nat) : Only n (movesF c p).1 ∧ Only n (movesF c p).2 := by
  obtain ⟨i1, i2, i3⟩ := moves_ok h c
  have both : ∀ k : Nat, k < 12 → ∃ a b x, p[k]? = some a ∧ (movesF c p).1[k]? = some b ∧ (movesF c p).2[k]? = some x ∧ 0 ≤ b ∧ 0 ≤ x ∧ b + x = a := fun k hk => by
    obtain ⟨a, ha, _⟩ := h.at_ hk
    obtain ⟨b, hb, b0, _⟩ := i1.at_ hk
    obtain ⟨x, hx, x0, _⟩ := i2.at_ hk
    exact ⟨a, b, x, ha, hb, hx, b0, x0, i3 k a b x ha hb hx⟩
  refine ⟨fun k x hx h0 => ?_, fun k x hx h0 => ?_⟩
  · obtain ⟨a, b, y, ha, hb, hy, b0, y0, e⟩ := both k (by have := (List.getElem?_eq_some_iff.1 hx).1; rw [i1.len] at this; exact this)
    rw [hb] at hx; cases hx
    exact ho k a ha (by omega)
  · obtain ⟨a, b, y, ha, hb, hy, b0, y0, e⟩ := both k (by have := (List.getElem?_eq_some_iff.1 hx).1; rw [i2.len] at this; exact this)
    rw [hy] at hx; cases hx
    exact ho k a ha (by omega)
/-- a load of a floor of n shelves, that carries no more than c -/
abbrev Load (n c : Nat) := { q : List Int // Twelve c q ∧ Only n q }
abbrev Load.enc {n c : Nat} (q : Load n c) : Array Value := #[piecesV q.1]
abbrev Loads {n c : Nat} (ys : List (Load n c)) : List (List Int) := ys.map Subtype.val
/-- what is so ahead of a round: what was given, and what is left -/
structure Mid (c n : Nat) (all pre : List (List Int)) (left : List Int) (fuel : Nat) : Prop where
  tw : Twelve 12000 left
  on : Only n left
  sum : left.sum ≤ fuel
  list : pre ++ loadsF c fuel left = all
theorem Mid.done {c n fuel : Nat} {all pre : List (List Int)} (h : Mid c n all pre [0, 0, 0, 0, 0, 0, 0, 0, 0, 0, 0, 0] fuel) : pre = all := by
  have := h.list
  rwa [loads_zero, List.append_nil] at this
theorem Mid.next {c n fuel : Nat} {all pre : List (List Int)} {left : List Int} (hc : 1 ≤ c) (h : Mid c n all pre left fuel) (hz : ¬ left = [0, 0, 0, 0, 0, 0, 0, 0, 0, 0, 0, 0]) : ∃ q r fuel', farthestF c left = q ∧ withoutF left q = r ∧ Twelve c q ∧ Only n q ∧ r.sum < left.sum ∧ 0 ≤ r.sum ∧ pre.length < all.length ∧ Mid c n all (pre ++ [q]) r fuel' := by
  obtain ⟨fuel', rfl, hl⟩ := loads_more (c := c) h.sum h.tw.pos h.tw.len hz
  have hw := without_moves h.tw c
  obtain ⟨i1, i2, i3⟩ := moves_ok h.tw c
  obtain ⟨o1, o2⟩ := only_parts h.tw h.on c
  have hs := (moves_sum h.tw c).2 hc (last_some h.tw.len hz h.tw.pos)
  rw [hw] at hl
  have hall := h.list
  rw [hl] at hall
  refine ⟨_, _, fuel', rfl, hw, by rw [farthest_is]; exact i2, by rw [farthest_is]; exact o2, hs, sum_nonneg _ i1.pos, ?_, i1, o1, by have := h.sum; omega, ?_⟩
  · rw [← hall]; simp
  · rw [← hall]; simp
theorem Mid.start {c n fuel : Nat} {p : List Int} (h : Twelve 12000 p) (ho : Only n p) (hs : p.sum ≤ fuel) : Mid c n (loadsF c fuel p) [] p fuel := ⟨h, ho, hs, rfl⟩
end Go.Proofs.YtomgnpfpaodpiaaDoor

