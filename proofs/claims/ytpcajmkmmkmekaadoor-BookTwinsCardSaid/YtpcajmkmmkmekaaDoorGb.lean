/- A region that draws its order, whose operations only read and whose callees may make memory: one walk serves every order; what is kept is that nothing old has changed. -/
import Derived.BigQuiet
import Derived.Below
import Derived.WalkKit
import Derived.Sort.BigQuietIn
import Derived.RangeFuncNested
import Derived.RangeFuncBound
import Derived.RangeFuncCalls
import Derived.RangeFuncLeaves
namespace Go.Proofs.YtpcajmkmmkmekaaDoor
open Go Go.RowKit
/-- new blocks, and how many draws there were -/
structure More where
  blocks : List Obj
  drawn : Nat
instance : Nonempty More := ⟨⟨[], 0⟩⟩
def plus (w : World) (g : More) : World := { w with heap := w.heap ++ g.blocks.toArray, drawn := g.drawn }
theorem plus_cell (w : World) (g : More) (b o : Nat) (h : b < w.heap.size) : (plus w g).cell? ⟨b, o, none⟩ = w.cell? ⟨b, o, none⟩ := by
  simp [World.cell?, plus, Array.getElem?_append, h]
theorem plus_frozen (w : World) (g : More) (b o : Nat) (h : b < w.heap.size) : (plus w g).frozen? ⟨b, o, none⟩ = w.frozen? ⟨b, o, none⟩ := by
  simp [World.frozen?, plus, Array.getElem?_append, h]
theorem plus_below (w : World) (g : More) : Below w.heap.size w (plus w g) :=
  ⟨rfl, rfl, rfl, by simp [plus], fun k hk => by simp [plus, Array.getElem?_append, hk]⟩
theorem below_plus {w w' : World} (h : Below w.heap.size w w') : ∃ g, w' = plus w g := by
  refine ⟨⟨w'.heap.toList.drop w.heap.size, w'.drawn⟩, ?_⟩
  obtain ⟨h1, h2, h3, h4, h5⟩ := h
  have hh : w'.heap = w.heap ++ (w'.heap.toList.drop w.heap.size).toArray := by
    apply Array.ext_getElem?
    intro i
    rw [Array.getElem?_append]
    split
    · rename_i hi; exact h5 i hi
    · rename_i hi; simp; congr 1; omega
  cases w; cases w'
  simp only [plus] at *
  subst h1 h2 h3
  congr
theorem plus_plus {w w' : World} {g : More} (h : Below (plus w g).heap.size (plus w g) w') : ∃ g', w' = plus w g' :=
  below_plus ((plus_below w g).trans (h.mono (plus_below w g).size))
section
variable {P : Program}
theorem Calls.grow_of {f : FuncId} {args : Array Value} {w : World} {g : More} {v : Value}
    (h : Calls P f args (plus w g) fun e w' => e = .returned v ∧ Below (plus w g).heap.size (plus w g) w') : Calls P f args (plus w g) fun e w'' => e = .returned v ∧ ∃ g', w'' = plus w g' :=
  h.mono fun _ _ ⟨he, hb⟩ => ⟨he, plus_plus hb⟩
theorem Calls.grow_same {f : FuncId} {args : Array Value} {w : World} {g : More} {v : Value}
    (h : Calls P f args (plus w g) fun e w' => e = .returned v ∧ plus w g = w') : Calls P f args (plus w g) fun e w'' => e = .returned v ∧ ∃ g', w'' = plus w g' :=
  h.mono fun _ _ ⟨he, hb⟩ => ⟨he, g, hb.symm⟩
theorem wp_region_grow_lit {id : Nat} {Q : Exit → Act → World → Prop} {a : Act} {w : World} {l : List Oper} (hm : P.follows .mixedOrders = true) (hB : Region.lexB .any l.toArray = true)
    (h : wpQuiet P l.toArray (fun w' => ∃ g, w' = plus w g) (fun a' => ∀ w', (∃ g, w' = plus w g) → Q .normal a' w') l a) : (Code.region id l.toArray true).wp P Q a w :=
  wp_region_quiet (C := fun w' => ∃ g, w' = plus w g) hm hB ⟨⟨[], w.drawn + 1⟩, by simp [plus]⟩ (by simpa using h)
theorem below_of_plus {w w' : World} (h : ∃ g, w' = plus w g) : Below w.heap.size w w' := by
  obtain ⟨g, rfl⟩ := h
  exact plus_below w g
end
attribute [go_sem] plus_cell plus_frozen
end Go.Proofs.YtpcajmkmmkmekaaDoor
/- The law of Grow within the round of a loop over a function. -/
namespace Go.Proofs.YtpcajmkmmkmekaaDoor
open Go Go.RowKit
variable {P : Program} {n l : Nat}
def noDefer (ops : List Oper) : Bool := ops.all fun o => match o.op with | .defer _ => false | _ => true
theorem wpIn_round {o : Oper} {a : Act} {w : World} {K : Act → World → Prop} {Q : Exit → Act → World → Prop} (hd : ∀ c, o.op ≠ .defer c) (h : o.wpIn Fence.wide n P a w K Q) : o.wpIn (Fence.wide.inRound l) n P a w K Q := by
  unfold Oper.wpIn at *
  refine ⟨h.1, ?_⟩
  have h2 := h.2
  rw [Oper.semAt_eq _ _ _ hd] at h2 ⊢
  generalize (execOp a.eval o).run P w = r at *
  cases r with
  | ok x w' => cases x <;> exact h2
  | halt x w' => cases x <;> exact h2
theorem wpAnyIn_round {md : Region.Mode} {ops : Array Oper} {Q : Exit → Act → World → Prop} (hd : noDefer ops.toList = true) : ∀ (fuel : Nat) (listed : Array Bool) (a : Act) (w : World), wpAnyIn Fence.wide n P md ops Q fuel listed a w → wpAnyIn (Fence.wide.inRound l) n P md ops Q fuel listed a w := by
  intro fuel
  induction fuel with
  | zero => exact fun _ _ _ h => h
  | succ fuel ih =>
    intro listed a w h
    refine ⟨h.1, fun i hi => ?_⟩
    have h2 := h.2 i hi
    unfold wpOpIn at h2 ⊢
    cases ho : ops[i]? with
    | none => rw [ho] at h2; exact ih _ _ _ h2
    | some o =>
      rw [ho] at h2
      dsimp only at h2 ⊢
      have hdo : ∀ c, o.op ≠ .defer c := by
        intro c hc
        have := List.all_eq_true.1 hd o (by rw [Array.mem_toList_iff]; exact Array.mem_of_getElem? ho)
        simp [hc] at this
      split
      · rename_i hw
        rw [if_pos hw] at h2
        exact wpIn_round hdo (Oper.wpIn_mono (fun a w => ih _ a w) h2)
      · rename_i hw
        rw [if_neg hw] at h2
        exact ⟨h2.1, ih _ _ _ h2.2⟩
theorem quietIn_wide {ops : Array Oper} {C : World → Prop} {Q : Act → Prop} : ∀ (l : List Oper) (a : Act), wpQuiet P ops C Q l a → wpQuietIn Fence.wide n P ops C Q l a := by
  intro l
  induction l with
  | nil => exact fun _ h => h
  | cons o rest ih =>
    intro a h
    refine ⟨fun _ _ _ _ => trivial, ?_⟩
    unfold wpQuiet at h
    split
    · rename_i hw
      rw [if_pos hw] at h
      obtain ⟨v, h1, h2⟩ := h
      refine ⟨v, fun w hC => ?_, ih _ h2⟩
      have := h1 w hC
      unfold Oper.quietAt at this
      unfold Oper.quietAtIn
      generalize (execOp a.eval o).run P w = r at *
      cases r with
      | ok x w' =>
        cases x <;> first
          | exact this
          | exact ⟨this.1, fun h => by simp [Fence.wide] at h, callsIn_wide.2 this.2⟩
      | halt x w' => exact this
    · rename_i hw
      rw [if_neg hw] at h
      exact ih _ h
theorem wpIn_region_grow_round {id : Nat} {Q : Exit → Act → World → Prop} {a : Act} {w : World} {ops : List Oper} (hm : P.follows .mixedOrders = true) (hB : Region.lexB .any ops.toArray = true) (hd : noDefer ops = true)
    (h' : wpQuiet P ops.toArray (fun w' => ∃ g, w' = plus w g) (fun a' => ∀ w', (∃ g, w' = plus w g) → Q .normal a' w') ops a) : (Code.region id ops.toArray true).wpIn (Fence.wide.inRound l) n P Q a w := by
  have h := quietIn_wide (n := n) _ _ h'
  simp only [Region.lexB, Bool.and_eq_true] at hB
  refine wpIn_region_any hm (wpAnyIn_round (by simpa using hd) _ _ _ _ (wpAnyIn_of_quiet (C := fun w' => ∃ g, w' = plus w g) (Q := fun a' => ∀ w', (∃ g, w' = plus w g) → Q .normal a' w') rfl (fun _ w' hw' h => h w' hw') _ _ _ _ ⟨⟨[], w.drawn + 1⟩, by simp [plus]⟩ ?_))
  have := wpAnyQIn_lex (F := Fence.wide) (n := n) (C := fun w' => ∃ g, w' = plus w g) (md := .any) hB.1 ops 0 (Array.replicate ops.toArray.size false) a (by simp) (by simpa using hB.2) h
  simpa using this
theorem wpIn_region_grow_wide {id : Nat} {Q : Exit → Act → World → Prop} {a : Act} {w : World} {ops : List Oper} (hm : P.follows .mixedOrders = true) (hB : Region.lexB .any ops.toArray = true)
    (h' : wpQuiet P ops.toArray (fun w' => ∃ g, w' = plus w g) (fun a' => ∀ w', (∃ g, w' = plus w g) → Q .normal a' w') ops a) : (Code.region id ops.toArray true).wpIn Fence.wide n P Q a w :=
  wpIn_region_quiet (C := fun w' => ∃ g, w' = plus w g) rfl hm hB ⟨⟨[], w.drawn + 1⟩, by simp [plus]⟩ (by simpa using quietIn_wide (n := n) _ _ h')
theorem CallsIn.grow_of {f : FuncId} {args : Array Value} {w : World} {g : More} {v : Value}
    (h : Calls P f args (plus w g) fun e w' => e = .returned v ∧ Below (plus w g).heap.size (plus w g) w') : CallsIn Fence.wide n P f args (plus w g) fun e w'' => e = .returned v ∧ ∃ g', w'' = plus w g' :=
  callsIn_wide.2 (Calls.grow_of h)
end Go.Proofs.YtpcajmkmmkmekaaDoor
/- A range over an iterator that itself ranges over an iterator: the invariant abides the turn of whatever lies beyond the call's beginning and is no cells. -/
namespace Go.Proofs.YtpcajmkmmkmekaaDoor
open Go Go.RowKit
variable {F : Fence} {n : Nat} {P : Program}

/-- what an iterator gives whose rounds all go on: J abides the turn of new blocks that are no cells -/
def SeqO {α : Type} (F : Fence) (n : Nat) (P : Program) (g : Nat) (lb : Array Value) (encs : α → Array Value) (Kp : World → World → Prop) (S : List α → Prop) (N : Nat) (w : World) : Prop :=
  ∀ (l : Nat) (J : List α → World → Prop) (W : World), Below w.heap.size w W → OwnFrom W.heap.size J →
    (∀ pre x W1, J pre W1 → pre.length < N → YieldAt F (n - 1) P l (encs x) W1 fun e W' => e = .returned (.bool true) ∧ J (pre ++ [x]) W' ∧ Kp W1 W' ∧ KeepsFrom W.heap.size W1 W') →
    J [] W → CallsIn F n P g (#[.func (.yield l) #[] #[]] ++ lb) W fun e W' => (∃ v, e = .returned v) ∧ ∃ xs, S xs ∧ J xs W'

/-- what stays of a block below the turned ones -/
theorem heap_stays {X Y : World} {row : Option Nat} {B k : Nat} {o : Obj} (hg : X.grownBy Y row) (hr : ∀ r, row = some r → B ≤ r) (hk : X.heap[k]? = some o) (hkB : k < B) : Y.heap[k]? = some o :=
  (hg.block k (Array.getElem?_eq_some_iff.1 hk).1 (fun e => by have := hr k e.symm; omega)).trans hk
theorem keeps_up {B B' : Nat} {X Y : World} (h : KeepsFrom B X Y) (hB : B ≤ B') : KeepsFrom B' X Y := ⟨h.size, fun k o hk => h.same k o (by omega)⟩
theorem keeps_put {B l : Nat} (W : World) (o : Obj) (hl : l < B) : KeepsFrom B W (W.putObj l o) := ⟨by simp, fun k u hk hu _ => (World.putObj_heap_other (by omega)).trans hu⟩
abbrev lrec (fn : FuncId) (tmps : Array Value) (ps : Array Tmp) (assign body : Code) (D : Nat) (st : LoopState) : Loop := { state := st, pending := none, fn, tmps, params := ps, assign, body, defers := D }

/-- the rounds of a loop whose record lies at l -/
theorem calls_turn {α : Type} {ps : Array Tmp} {assign body : Code} {Q : Exit → Act → World → Prop} {t : Array Value} {a' : Act} {W1 : World} {fn : FuncId} {l D : Nat}
    (hfn : F.fn fn) (hl1 : W1.heap[l]? = some (.loop (lrec fn t ps assign body D .ready))) {gf : Nat} {lb : Array Value}
    {encs : α → Array Value} {Kp : World → World → Prop} {S : List α → Prop} {N : Nat} {w0 : World} (hseq : SeqO F (n - 1) P gf lb encs Kp S N w0)
    (hKt : ∀ {A B C : World}, Kp A B → Kp B C → Kp A C) (hKb : ∀ (W : World) (o o' : Obj), W.heap[l]? = some o → o.isCells = false → o.isWalk = false → Kp W (W.putObj l o')) (hb0 : Below w0.heap.size w0 W1) (hps : ∀ x, (encs x).size = ps.size)
    (I : List α → World → Prop) (hI : OwnFrom l I) (h0 : I [] W1) (Ax : α → Act → World → Prop) (hAx : ∀ x b, OwnFrom l (fun (_ : Unit) W => Ax x b W))
    (hassign : ∀ (pre : List α) (x : α) (W : World) (K : Act → World → Prop), I pre W → (∀ b W', KeepsFrom l W W' → Kp W W' → I pre W' → Ax x b W' → K b W') →
      assign.wpIn (F.inRound l) (n - 1 - 1) P (Exit.then K (fun _ _ _ => False)) { tmps := (ps.zip (encs x)).foldl (fun t (p, v) => t.setIfInBounds p v) t, defers := [] } W)
    (hbody : ∀ (pre : List α) (x : α) (b : Act) (W : World), (∃ r, W.heap[l]? = some (.loop r)) → I pre W → Ax x b W → pre.length < N → body.wpIn (F.inRound l) (n - 1 - 1) P (ownPostG l Kp I (fun _ _ _ => False) (pre ++ [x]) W) b W)
    (hdone : ∀ (xs : List α) (W : World), S xs → I xs W → Q .normal a' W) :
    CallsIn F (n - 1) P gf (#[.func (.yield l) #[] #[]] ++ lb) W1 (rangePost F n P l Q a') := by
  have hlW : l < W1.heap.size := (Array.getElem?_eq_some_iff.1 hl1).1
  refine (hseq l (fun pre W => I pre W ∧ W.heap[l]? = some (.loop (lrec fn t ps assign body D .ready))) W1 hb0 ?_ ?_ ⟨h0, hl1⟩).mono ?_
  · intro s A B row hs hg hr
    exact ⟨hI s A B row hs.1 hg (fun r e => ⟨by have := (hr r e).1; omega, (hr r e).2⟩), heap_stays hg (fun r e => (hr r e).1) hs.2 hlW⟩
  · rintro pre x W ⟨hi, hl⟩ hlen
    have hy := run_yield (P := P) (args := encs x) hl (hps x)
    refine ⟨fn, _, assign, body, hy, roundIn_of_wpIn hfn (hassign pre x W _ hi ?_)⟩
    intro b Wa hkf hkp hia hax
    have hla := hkf.same l _ (Nat.le_refl _) hl rfl
    have hlt : l < Wa.heap.size := (Array.getElem?_eq_some_iff.1 hla).1
    refine ⟨_, run_beginRound hla rfl, ?_⟩
    have hl2 : (Wa.putObj l (.loop (lrec fn t ps assign body D .busy))).heap[l]? = some (.loop (lrec fn t ps assign body D .busy)) := World.putObj_heap_same hlt
    refine wpIn_mono (hbody pre x b _ ⟨_, hl2⟩ (hI.putObj _ hia (Nat.le_refl _) hla rfl) ((hAx x b).putObj (s := ()) _ hax (Nat.le_refl _) hla rfl) hlen) ?_
    rintro e a3 W3 hp
    cases e with
    | normal =>
      obtain ⟨hk3, hkp3, hi3⟩ := hp
      have hl3 := hk3.same l _ (Nat.le_refl _) hl2 rfl
      have hr := run_endRound (P := P) none hl3
      exact ⟨_, _, hr, rfl, ⟨hI.putObj _ hi3 (Nat.le_refl _) hl3 rfl, World.putObj_heap_same (Array.getElem?_eq_some_iff.1 hl3).1⟩, hKt hkp (hKt (hKt (hKb _ _ _ hla rfl rfl) hkp3) (hKb _ _ _ hl3 rfl rfl)), ((keeps_up hkf (by omega)).trans (((keeps_put _ _ hlW).trans (keeps_up hk3 (by omega))).trans (keeps_put _ _ hlW)))⟩
    | ret => exact hp.2.elim
    | exit id => exact hp.2.elim
    | goto t => exact hp.2.elim
    | panic ch => exact hp.elim
    | outgrown => exact hp.elim
  · rintro e W2 ⟨⟨v, rfl⟩, xs, hS, hi, hl⟩
    have := run_endLoop (P := P) hl (by simp)
    exact ⟨none, _, this, hdone xs _ hS (hI.putObj _ hi (Nat.le_refl _) hl rfl)⟩

/-- such a loop, outermost: its block for deferred calls lies ahead of its record -/
theorem range_outer {α : Type} {g : Operand} {ps : Array Tmp} {assign body : Code} {Q : Exit → Act → World → Prop} {a : Act} {w : World}
    (hro : F.round = none) (h1 : 1 ≤ n) {gf : Nat} {lb : Array Value} (hg : a.eval g = .func (.func gf) #[] lb) (hFg : F.fn gf) (eg : ∀ args w, (callFunc gf args).run P w = .ok (.enter gf args) w)
    {encs : α → Array Value} {Kp : World → World → Prop} {S : List α → Prop} {N : Nat} {w0 : World} (hseq : SeqO F (n - 1) P gf lb encs Kp S N w0)
    (hKt : ∀ {A B C : World}, Kp A B → Kp B C → Kp A C) (hKb : ∀ (W : World) (l : Nat) (o o' : Obj), w.heap.size ≤ l → W.heap[l]? = some o → o.isCells = false → o.isWalk = false → Kp W (W.putObj l o')) (hb0 : Below w0.heap.size w0 w) (hps : ∀ x, (encs x).size = ps.size)
    (I : List α → World → Prop) (hI : OwnFrom w.heap.size I) (h0 : I [] w) (Ax : α → Act → World → Prop) (hAx : ∀ x b, OwnFrom w.heap.size (fun (_ : Unit) W => Ax x b W))
    (hassign : ∀ (l : Nat) (pre : List α) (x : α) (W : World) (K : Act → World → Prop), I pre W → (∀ b W', KeepsFrom w.heap.size W W' → Kp W W' → I pre W' → Ax x b W' → K b W') →
      assign.wpIn (F.inRound l) (n - 1 - 1) P (Exit.then K (fun _ _ _ => False)) { tmps := (ps.zip (encs x)).foldl (fun t (p, v) => t.setIfInBounds p v) a.tmps, defers := [] } W)
    (hbody : ∀ (l : Nat) (pre : List α) (x : α) (b : Act) (W : World), w.heap.size ≤ l → (∃ r, W.heap[l]? = some (.loop r)) → I pre W → Ax x b W → pre.length < N → body.wpIn (F.inRound l) (n - 1 - 1) P (ownPostG w.heap.size Kp I (fun _ _ _ => False) (pre ++ [x]) W) b W)
    (hdone : ∀ (D : Nat) (xs : List α) (W : World), w.heap.size ≤ D → S xs → I xs W → W.heap[D]? = some (.deferred (some [])) → Q .normal { a with defers := { target := .collected D, args := #[] } :: a.defers } W) :
    (Code.rangeFunc g ps assign body).wpIn F n P Q a w := by
  refine wpIn_rangeFunc fun fn hfn => ?_
  rw [hro]
  obtain ⟨W1, hW1⟩ : ∃ W1, (w.alloc (.deferred (some []))).alloc (.loop (lrec fn a.tmps ps assign body w.heap.size .ready)) = W1 := ⟨_, rfl⟩
  have hl1 : W1.heap[w.heap.size + 1]? = some (.loop (lrec fn a.tmps ps assign body w.heap.size .ready)) := by
    subst hW1
    have := World.alloc_heap_new (w.alloc (.deferred (some []))) (.loop (lrec fn a.tmps ps assign body w.heap.size .ready))
    rwa [World.size_alloc] at this
  have hd1 : W1.heap[w.heap.size]? = some (.deferred (some [])) := by
    subst hW1
    exact (Below.heap_alloc _ _ _ (by simp)).trans (World.alloc_heap_new w _)
  have hI1 : I [] W1 := by subst hW1; exact hI.alloc _ (hI.alloc _ h0)
  have hb1 : Below w0.heap.size w0 W1 := by subst hW1; exact hb0.trans ((((Below.refl _ w).alloc (Nat.le_refl _) _).alloc (by simp) _).mono hb0.size)
  refine ⟨w.heap.size + 1, [{ target := .collected w.heap.size, args := #[] }], W1, { target := .fn (.func gf) lb, args := #[.func (.yield (w.heap.size + 1)) #[] #[]] }, W1, gf, #[.func (.yield (w.heap.size + 1)) #[] #[]] ++ lb, W1, ?_, ?_, ?_, ?_, fun _ => h1, ?_⟩
  · rw [← hW1]; exact run_enterLoop_outer _ _ _ _ _
  · simp only [resolve, hg]
    simp [go_sem]
  · intro f' hf'; simp [Target.leads] at hf'; subst hf'; exact hFg
  · simp [invoke, go_sem, eg]
  · have hup : ∀ {s : Type} {X : s → World → Prop}, OwnFrom w.heap.size X → OwnFrom (w.heap.size + 1) X := fun h s A B row hs hg hr => h s A B row hs hg (fun r e => ⟨by have := (hr r e).1; omega, (hr r e).2⟩)
    refine calls_turn (Q := Q) (a' := { a with defers := [{ target := .collected w.heap.size, args := #[] }] ++ a.defers }) hfn hl1 hseq (fun h k => hKt h k) (fun W o o' => hKb W _ o o' (by omega)) hb1 hps
      (fun pre W => I pre W ∧ W.heap[w.heap.size]? = some (.deferred (some []))) ?_ ⟨hI1, hd1⟩ Ax (fun x b => hup (hAx x b)) ?_ ?_ ?_
    · intro s A B row hs hg hr
      exact ⟨hup hI s A B row hs.1 hg hr, heap_stays hg (fun r e => (hr r e).1) hs.2 (by omega)⟩
    · rintro pre x W K ⟨hi, hd⟩ hK
      refine hassign _ pre x W K hi fun b W' h1 h2 h3 h4 => hK b W' ⟨h1.size, fun k o hk => h1.same k o (by omega)⟩ h2 ⟨h3, h1.same _ _ (Nat.le_refl _) hd rfl⟩ h4
    · rintro pre x b W hr ⟨hi, hd⟩ hax hlen
      refine wpIn_mono (hbody _ pre x b W (by omega) hr hi hax hlen) ?_
      rintro e a3 W3 hp
      cases e with
      | normal => exact ⟨⟨hp.1.size, fun k o hk => hp.1.same k o (by omega)⟩, hp.2.1, hp.2.2, hp.1.same _ _ (Nat.le_refl _) hd rfl⟩
      | ret => exact hp.2.elim
      | exit id => exact hp.2.elim
      | goto t => exact hp.2.elim
      | panic ch => exact hp.elim
      | outgrown => exact hp.elim
    · rintro xs W hS ⟨hi, hd⟩
      exact hdone _ xs W (Nat.le_refl _) hS hi hd

/-- such a loop within a round of another -/
theorem range_inner {α : Type} {g : Operand} {ps : Array Tmp} {assign body : Code} {Q : Exit → Act → World → Prop} {a : Act} {w : World}
    {l₀ : Nat} {r₀ : Loop} (hro : F.round = some l₀) (hl₀ : w.heap[l₀]? = some (.loop r₀)) (h1 : 1 ≤ n) {gf : Nat} {lb : Array Value} (hg : a.eval g = .func (.func gf) #[] lb) (hFg : F.fn gf) (eg : ∀ args w, (callFunc gf args).run P w = .ok (.enter gf args) w)
    {encs : α → Array Value} {Kp : World → World → Prop} {S : List α → Prop} {N : Nat} {w0 : World} (hseq : SeqO F (n - 1) P gf lb encs Kp S N w0)
    (hKt : ∀ {A B C : World}, Kp A B → Kp B C → Kp A C) (hKb : ∀ (W : World) (l : Nat) (o o' : Obj), w.heap.size ≤ l → W.heap[l]? = some o → o.isCells = false → o.isWalk = false → Kp W (W.putObj l o')) (hb0 : Below w0.heap.size w0 w) (hps : ∀ x, (encs x).size = ps.size)
    (I : List α → World → Prop) (hI : OwnFrom w.heap.size I) (h0 : I [] w) (Ax : α → Act → World → Prop) (hAx : ∀ x b, OwnFrom w.heap.size (fun (_ : Unit) W => Ax x b W))
    (hassign : ∀ (l : Nat) (pre : List α) (x : α) (W : World) (K : Act → World → Prop), I pre W → (∀ b W', KeepsFrom w.heap.size W W' → Kp W W' → I pre W' → Ax x b W' → K b W') →
      assign.wpIn (F.inRound l) (n - 1 - 1) P (Exit.then K (fun _ _ _ => False)) { tmps := (ps.zip (encs x)).foldl (fun t (p, v) => t.setIfInBounds p v) a.tmps, defers := [] } W)
    (hbody : ∀ (l : Nat) (pre : List α) (x : α) (b : Act) (W : World), w.heap.size ≤ l → (∃ r, W.heap[l]? = some (.loop r)) → I pre W → Ax x b W → pre.length < N → body.wpIn (F.inRound l) (n - 1 - 1) P (ownPostG w.heap.size Kp I (fun _ _ _ => False) (pre ++ [x]) W) b W)
    (hdone : ∀ (xs : List α) (W : World), S xs → I xs W → Q .normal a W) :
    (Code.rangeFunc g ps assign body).wpIn F n P Q a w := by
  refine wpIn_rangeFunc fun fn hfn => ?_
  rw [hro]
  obtain ⟨W1, hW1⟩ : ∃ W1, w.alloc (.loop (lrec fn a.tmps ps assign body r₀.defers .ready)) = W1 := ⟨_, rfl⟩
  have hl1 : W1.heap[w.heap.size]? = some (.loop (lrec fn a.tmps ps assign body r₀.defers .ready)) := by subst hW1; exact World.alloc_heap_new w _
  have hI1 : I [] W1 := by subst hW1; exact hI.alloc _ h0
  have hb1 : Below w0.heap.size w0 W1 := by subst hW1; exact hb0.trans (((Below.refl _ w).alloc (Nat.le_refl _) _).mono hb0.size)
  refine ⟨w.heap.size, [], W1, { target := .fn (.func gf) lb, args := #[.func (.yield w.heap.size) #[] #[]] }, W1, gf, #[.func (.yield w.heap.size) #[] #[]] ++ lb, W1, ?_, ?_, ?_, ?_, fun _ => h1, ?_⟩
  · rw [← hW1]; exact run_enterLoop_inner hl₀ _ _ _ _ _
  · simp only [resolve, hg]
    simp [go_sem]
  · intro f' hf'; simp [Target.leads] at hf'; subst hf'; exact hFg
  · simp [invoke, go_sem, eg]
  · exact calls_turn (Q := Q) (a' := { a with defers := [] ++ a.defers }) hfn hl1 hseq (fun h k => hKt h k) (fun W o o' => hKb W _ o o' (Nat.le_refl _)) hb1 hps I hI hI1 Ax hAx (fun pre x W K => hassign _ pre x W K) (fun pre x b W => hbody _ pre x b W (Nat.le_refl _)) hdone
end Go.Proofs.YtpcajmkmmkmekaaDoor
