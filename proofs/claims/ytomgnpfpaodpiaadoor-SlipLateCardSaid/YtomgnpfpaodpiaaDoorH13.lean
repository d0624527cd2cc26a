/- A range over an iterator that writes cells of its own: the invariant abides the turn of whatever lies beyond the call's beginning and is no row of one type. -/
import Derived.Test.YtomgnpfpaodpiaaDoorH12
set_option linter.unusedVariables false
set_option linter.unusedSimpArgs false
namespace Go.Proofs.YtomgnpfpaodpiaaDoor
open Go Go.RowKit Go.Shelf
variable {F : Fence} {n : Nat} {P : Program}
def NotRow (te : TypeId) (o : Obj) : Prop := o.isCells = false ∨ ∃ c z, o = .cells c te z
def OwnE {β : Type} (te : TypeId) (B : Nat) (I : β → World → Prop) : Prop :=
  ∀ s W W' row, I s W → W.grownBy W' row → (∀ r, row = some r → B ≤ r ∧ ∃ o : Obj, W.heap[r]? = some o ∧ NotRow te o) → I s W'
theorem OwnE.own {β : Type} {te : TypeId} {B : Nat} {I : β → World → Prop} (h : OwnE te B I) : OwnFrom B I := fun s W W' row hs hg hr =>
  h s W W' row hs hg fun r e => ⟨(hr r e).1, by obtain ⟨_, o, ho, hc⟩ := hr r e; exact ⟨o, ho, .inl hc⟩⟩
theorem OwnE.below {β : Type} {te : TypeId} {B : Nat} {J : β → World → Prop} (h : OwnE te B J) {s : β} {w w' : World} (hs : J s w) (hb : Below w.heap.size w w') : J s w' :=
  h s w w' none hs (grown_of_below hb) (fun r e => by cases e)
theorem grownBy_set (W : World) (b k : Nat) (v : Value) : W.grownBy (W.setCell ⟨b, k, none⟩ v) (some b) :=
  ⟨rfl, rfl, rfl, by simp, fun i _ hn => heap_setCell_other W _ i v (fun e => hn (by rw [e]))⟩
theorem OwnE.set {β : Type} {te : TypeId} {B : Nat} {J : β → World → Prop} (h : OwnE te B J) {s : β} {W : World} {b : Nat} {cs : List Value} (hc : CellsBox W b te cs) (hB : B ≤ b) (k : Nat) (v : Value) (hs : J s W) : J s (W.setCell ⟨b, k, none⟩ v) :=
  h s W _ (some b) hs (grownBy_set W b k v) (fun r e => by cases e; exact ⟨hB, _, hc, .inr ⟨_, _, rfl⟩⟩)
theorem OwnE.and {β : Type} {te : TypeId} {B : Nat} {I J : β → World → Prop} (h : OwnE te B I) (k : OwnE te B J) : OwnE te B (fun s W => I s W ∧ J s W) := fun s W W' row hs hg hr => ⟨h s W W' row hs.1 hg hr, k s W W' row hs.2 hg hr⟩
theorem CellsBox.both {β : Type} {J : β → World → Prop} {W a : World} {b B B2 : Nat} {z : List Int} (hl : z.length = 12) (h : CellsBox W b 102 (z.map vi)) (hB : Below B a W) (hb : B ≤ b) (hJ : OwnE 102 B2 J) (hb2 : B2 ≤ b) (r0 r1 r2 r3 r4 r5 r6 r7 r8 r9 r10 r11 : Int) : CellsBox ((((((((((((W.setCell ⟨b, 0, none⟩ (vi r0)).setCell ⟨b, 1, none⟩ (vi r1)).setCell ⟨b, 2, none⟩ (vi r2)).setCell ⟨b, 3, none⟩ (vi r3)).setCell ⟨b, 4, none⟩ (vi r4)).setCell ⟨b, 5, none⟩ (vi r5)).setCell ⟨b, 6, none⟩ (vi r6)).setCell ⟨b, 7, none⟩ (vi r7)).setCell ⟨b, 8, none⟩ (vi r8)).setCell ⟨b, 9, none⟩ (vi r9)).setCell ⟨b, 10, none⟩ (vi r10)).setCell ⟨b, 11, none⟩ (vi r11)) b 102 ([r0, r1, r2, r3, r4, r5, r6, r7, r8, r9, r10, r11].map vi) ∧ Below B a ((((((((((((W.setCell ⟨b, 0, none⟩ (vi r0)).setCell ⟨b, 1, none⟩ (vi r1)).setCell ⟨b, 2, none⟩ (vi r2)).setCell ⟨b, 3, none⟩ (vi r3)).setCell ⟨b, 4, none⟩ (vi r4)).setCell ⟨b, 5, none⟩ (vi r5)).setCell ⟨b, 6, none⟩ (vi r6)).setCell ⟨b, 7, none⟩ (vi r7)).setCell ⟨b, 8, none⟩ (vi r8)).setCell ⟨b, 9, none⟩ (vi r9)).setCell ⟨b, 10, none⟩ (vi r10)).setCell ⟨b, 11, none⟩ (vi r11)) ∧ ∀ s, J s W → J s ((((((((((((W.setCell ⟨b, 0, none⟩ (vi r0)).setCell ⟨b, 1, none⟩ (vi r1)).setCell ⟨b, 2, none⟩ (vi r2)).setCell ⟨b, 3, none⟩ (vi r3)).setCell ⟨b, 4, none⟩ (vi r4)).setCell ⟨b, 5, none⟩ (vi r5)).setCell ⟨b, 6, none⟩ (vi r6)).setCell ⟨b, 7, none⟩ (vi r7)).setCell ⟨b, 8, none⟩ (vi r8)).setCell ⟨b, 9, none⟩ (vi r9)).setCell ⟨b, 10, none⟩ (vi r10)).setCell ⟨b, 11, none⟩ (vi r11)) := by
  refine ⟨h.setAll hl r0 r1 r2 r3 r4 r5 r6 r7 r8 r9 r10 r11, ((((((((((((hB.setCell hb _).setCell hb _).setCell hb _).setCell hb _).setCell hb _).setCell hb _).setCell hb _).setCell hb _).setCell hb _).setCell hb _).setCell hb _).setCell hb _), fun s hs => ?_⟩
  have k0 := hJ.set (h) hb2 0 (vi r0) hs
  have q0 := (h).store 0 (vi r0)
  have k1 := hJ.set (q0) hb2 1 (vi r1) k0
  have q1 := (q0).store 1 (vi r1)
  have k2 := hJ.set (q1) hb2 2 (vi r2) k1
  have q2 := (q1).store 2 (vi r2)
  have k3 := hJ.set (q2) hb2 3 (vi r3) k2
  have q3 := (q2).store 3 (vi r3)
  have k4 := hJ.set (q3) hb2 4 (vi r4) k3
  have q4 := (q3).store 4 (vi r4)
  have k5 := hJ.set (q4) hb2 5 (vi r5) k4
  have q5 := (q4).store 5 (vi r5)
  have k6 := hJ.set (q5) hb2 6 (vi r6) k5
  have q6 := (q5).store 6 (vi r6)
  have k7 := hJ.set (q6) hb2 7 (vi r7) k6
  have q7 := (q6).store 7 (vi r7)
  have k8 := hJ.set (q7) hb2 8 (vi r8) k7
  have q8 := (q7).store 8 (vi r8)
  have k9 := hJ.set (q8) hb2 9 (vi r9) k8
  have q9 := (q8).store 9 (vi r9)
  have k10 := hJ.set (q9) hb2 10 (vi r10) k9
  have q10 := (q9).store 10 (vi r10)
  have k11 := hJ.set (q10) hb2 11 (vi r11) k10
  have q11 := (q10).store 11 (vi r11)
  exact k11
/-- what an iterator gives whose rounds all go on -/
def SeqE {α : Type} (F : Fence) (n : Nat) (P : Program) (g : Nat) (lb : Array Value) (encs : α → Array Value) (Kp : World → World → Prop) (S : List α → Prop) (N : Nat) (te : TypeId) (w : World) : Prop :=
  ∀ (l : Nat) (J : List α → World → Prop) (W : World), Below w.heap.size w W → OwnE te W.heap.size J →
    (∀ pre x W1, J pre W1 → pre.length < N → YieldAt F (n - 1) P l (encs x) W1 fun e W' => e = .returned (.bool true) ∧ J (pre ++ [x]) W' ∧ Kp W1 W' ∧ KeepsFrom W.heap.size W1 W') →
    J [] W → CallsIn F n P g (#[.func (.yield l) #[] #[]] ++ lb) W fun e W' => (∃ v, e = .returned v) ∧ ∃ xs, S xs ∧ J xs W'

/-- the rounds of a loop whose record lies at l -/
theorem calls_turnE {α : Type} {ps : Array Tmp} {assign body : Code} {Q : Exit → Act → World → Prop} {t : Array Value} {a' : Act} {W1 : World} {fn : FuncId} {l D : Nat}
    (hfn : F.fn fn) (hl1 : W1.heap[l]? = some (.loop (lrec fn t ps assign body D .ready))) {gf : Nat} {lb : Array Value}
    {encs : α → Array Value} {Kp : World → World → Prop} {S : List α → Prop} {N : Nat} {te : TypeId} {w0 : World} (hseq : SeqE F (n - 1) P gf lb encs Kp S N te w0)
    (hKt : ∀ {A B C : World}, Kp A B → Kp B C → Kp A C) (hKb : ∀ (W : World) (o o' : Obj), W.heap[l]? = some o → o.isCells = false → o.isWalk = false → Kp W (W.putObj l o')) (hb0 : Below w0.heap.size w0 W1) (hps : ∀ x, (encs x).size = ps.size)
    (I : List α → World → Prop) (hI : OwnE te l I) (h0 : I [] W1) (Ax : α → Act → World → Prop) (hAx : ∀ x b, OwnFrom l (fun (_ : Unit) W => Ax x b W))
    (hassign : ∀ (pre : List α) (x : α) (W : World) (K : Act → World → Prop), I pre W → (∀ b W', KeepsFrom l W W' → Kp W W' → I pre W' → Ax x b W' → K b W') →
      assign.wpIn (F.inRound l) (n - 1 - 1) P (Exit.then K (fun _ _ _ => False)) { tmps := (ps.zip (encs x)).foldl (fun t (p, v) => t.setIfInBounds p v) t, defers := [] } W)
    (hbody : ∀ (pre : List α) (x : α) (b : Act) (W : World), (∃ r, W.heap[l]? = some (.loop r)) → I pre W → Ax x b W → pre.length < N → body.wpIn (F.inRound l) (n - 1 - 1) P (ownPostG l Kp I (fun _ _ _ => False) (pre ++ [x]) W) b W)
    (hdone : ∀ (xs : List α) (W : World), S xs → I xs W → Q .normal a' W) :
    CallsIn F (n - 1) P gf (#[.func (.yield l) #[] #[]] ++ lb) W1 (rangePost F n P l Q a') := by
  have hlW : l < W1.heap.size := (Array.getElem?_eq_some_iff.1 hl1).1
  refine (hseq l (fun pre W => I pre W ∧ W.heap[l]? = some (.loop (lrec fn t ps assign body D .ready))) W1 hb0 ?_ ?_ ⟨h0, hl1⟩).mono ?_
  · intro s A B row hs hg hr
    exact ⟨hI s A B row hs.1 hg (fun r e => ⟨by have := (hr r e).1; omega, (hr r e).2⟩), heap_stays hg (fun r e => (hr r e).1) hs.2 hlW⟩
  · rintro pre x W ⟨hi, hl⟩ hlen
    have hy := run_yield (P := P) (args := encs x) hl (hps x)
    refine ⟨fn, _, assign, body, hy, roundIn_of_wpIn hfn (hassign pre x W _ hi ?_)⟩
    intro b Wa hkf hkp hia hax
    have hla := hkf.same l _ (Nat.le_refl _) hl rfl
    have hlt : l < Wa.heap.size := (Array.getElem?_eq_some_iff.1 hla).1
    refine ⟨_, run_beginRound hla rfl, ?_⟩
    have hl2 : (Wa.putObj l (.loop (lrec fn t ps assign body D .busy))).heap[l]? = some (.loop (lrec fn t ps assign body D .busy)) := World.putObj_heap_same hlt
    refine wpIn_mono (hbody pre x b _ ⟨_, hl2⟩ (hI.own.putObj _ hia (Nat.le_refl _) hla rfl) ((hAx x b).putObj (s := ()) _ hax (Nat.le_refl _) hla rfl) hlen) ?_
    rintro e a3 W3 hp
    cases e with
    | normal =>
      obtain ⟨hk3, hkp3, hi3⟩ := hp
      have hl3 := hk3.same l _ (Nat.le_refl _) hl2 rfl
      have hr := run_endRound (P := P) none hl3
      exact ⟨_, _, hr, rfl, ⟨hI.own.putObj _ hi3 (Nat.le_refl _) hl3 rfl, World.putObj_heap_same (Array.getElem?_eq_some_iff.1 hl3).1⟩, hKt hkp (hKt (hKt (hKb _ _ _ hla rfl rfl) hkp3) (hKb _ _ _ hl3 rfl rfl)), ((keeps_up hkf (by omega)).trans (((keeps_put _ _ hlW).trans (keeps_up hk3 (by omega))).trans (keeps_put _ _ hlW)))⟩
    | ret => exact hp.2.elim
    | exit id => exact hp.2.elim
    | goto t => exact hp.2.elim
    | panic ch => exact hp.elim
    | outgrown => exact hp.elim
  · rintro e W2 ⟨⟨v, rfl⟩, xs, hS, hi, hl⟩
    have := run_endLoop (P := P) hl (by simp)
    exact ⟨none, _, this, hdone xs _ hS (hI.own.putObj _ hi (Nat.le_refl _) hl rfl)⟩

/-- such a loop, outermost: its block for deferred calls lies ahead of its record -/
theorem range_outerE {α : Type} {g : Operand} {ps : Array Tmp} {assign body : Code} {Q : Exit → Act → World → Prop} {a : Act} {w : World}
    (hro : F.round = none) (h1 : 1 ≤ n) {gf : Nat} {lb : Array Value} (hg : a.eval g = .func (.func gf) #[] lb) (hFg : F.fn gf) (eg : ∀ args w, (callFunc gf args).run P w = .ok (.enter gf args) w)
    {encs : α → Array Value} {Kp : World → World → Prop} {S : List α → Prop} {N : Nat} {te : TypeId} {w0 : World} (hseq : SeqE F (n - 1) P gf lb encs Kp S N te w0)
    (hKt : ∀ {A B C : World}, Kp A B → Kp B C → Kp A C) (hKb : ∀ (W : World) (l : Nat) (o o' : Obj), w.heap.size ≤ l → W.heap[l]? = some o → o.isCells = false → o.isWalk = false → Kp W (W.putObj l o')) (hb0 : Below w0.heap.size w0 w) (hps : ∀ x, (encs x).size = ps.size)
    (I : List α → World → Prop) (hI : OwnE te w.heap.size I) (h0 : I [] w) (Ax : α → Act → World → Prop) (hAx : ∀ x b, OwnFrom w.heap.size (fun (_ : Unit) W => Ax x b W))
    (hassign : ∀ (l : Nat) (pre : List α) (x : α) (W : World) (K : Act → World → Prop), I pre W → (∀ b W', KeepsFrom w.heap.size W W' → Kp W W' → I pre W' → Ax x b W' → K b W') →
      assign.wpIn (F.inRound l) (n - 1 - 1) P (Exit.then K (fun _ _ _ => False)) { tmps := (ps.zip (encs x)).foldl (fun t (p, v) => t.setIfInBounds p v) a.tmps, defers := [] } W)
    (hbody : ∀ (l : Nat) (pre : List α) (x : α) (b : Act) (W : World), w.heap.size ≤ l → (∃ r, W.heap[l]? = some (.loop r)) → I pre W → Ax x b W → pre.length < N → body.wpIn (F.inRound l) (n - 1 - 1) P (ownPostG w.heap.size Kp I (fun _ _ _ => False) (pre ++ [x]) W) b W)
    (hdone : ∀ (D : Nat) (xs : List α) (W : World), w.heap.size ≤ D → S xs → I xs W → W.heap[D]? = some (.deferred (some [])) → Q .normal { a with defers := { target := .collected D, args := #[] } :: a.defers } W) :
    (Code.rangeFunc g ps assign body).wpIn F n P Q a w := by
  refine wpIn_rangeFunc fun fn hfn => ?_
  rw [hro]
  obtain ⟨W1, hW1⟩ : ∃ W1, (w.alloc (.deferred (some []))).alloc (.loop (lrec fn a.tmps ps assign body w.heap.size .ready)) = W1 := ⟨_, rfl⟩
  have hl1 : W1.heap[w.heap.size + 1]? = some (.loop (lrec fn a.tmps ps assign body w.heap.size .ready)) := by
    subst hW1
    have := World.alloc_heap_new (w.alloc (.deferred (some []))) (.loop (lrec fn a.tmps ps assign body w.heap.size .ready))
    rwa [World.size_alloc] at this
  have hd1 : W1.heap[w.heap.size]? = some (.deferred (some [])) := by
    subst hW1
    exact (Below.heap_alloc _ _ _ (by simp)).trans (World.alloc_heap_new w _)
  have hI1 : I [] W1 := by subst hW1; exact hI.own.alloc _ (hI.own.alloc _ h0)
  have hb1 : Below w0.heap.size w0 W1 := by subst hW1; exact hb0.trans ((((Below.refl _ w).alloc (Nat.le_refl _) _).alloc (by simp) _).mono hb0.size)
  refine ⟨w.heap.size + 1, [{ target := .collected w.heap.size, args := #[] }], W1, { target := .fn (.func gf) lb, args := #[.func (.yield (w.heap.size + 1)) #[] #[]] }, W1, gf, #[.func (.yield (w.heap.size + 1)) #[] #[]] ++ lb, W1, ?_, ?_, ?_, ?_, fun _ => h1, ?_⟩
  · rw [← hW1]; exact run_enterLoop_outer _ _ _ _ _
  · simp only [resolve, hg]
    simp [go_sem]
  · intro f' hf'; simp [Target.leads] at hf'; subst hf'; exact hFg
  · simp [invoke, go_sem, eg]
  · have hupE : OwnE te (w.heap.size + 1) I := fun s A B row hs hg hr => hI s A B row hs hg (fun r e => ⟨by have := (hr r e).1; omega, (hr r e).2⟩)
    have hup : ∀ {s : Type} {X : s → World → Prop}, OwnFrom w.heap.size X → OwnFrom (w.heap.size + 1) X := fun h s A B row hs hg hr => h s A B row hs hg (fun r e => ⟨by have := (hr r e).1; omega, (hr r e).2⟩)
    refine calls_turnE (Q := Q) (a' := { a with defers := [{ target := .collected w.heap.size, args := #[] }] ++ a.defers }) hfn hl1 hseq (fun h k => hKt h k) (fun W o o' => hKb W _ o o' (by omega)) hb1 hps
      (fun pre W => I pre W ∧ W.heap[w.heap.size]? = some (.deferred (some []))) ?_ ⟨hI1, hd1⟩ Ax (fun x b => hup (hAx x b)) ?_ ?_ ?_
    · intro s A B row hs hg hr
      exact ⟨hupE s A B row hs.1 hg hr, heap_stays hg (fun r e => (hr r e).1) hs.2 (by omega)⟩
    · rintro pre x W K ⟨hi, hd⟩ hK
      refine hassign _ pre x W K hi fun b W' h1 h2 h3 h4 => hK b W' ⟨h1.size, fun k o hk => h1.same k o (by omega)⟩ h2 ⟨h3, h1.same _ _ (Nat.le_refl _) hd rfl⟩ h4
    · rintro pre x b W hr ⟨hi, hd⟩ hax hlen
      refine wpIn_mono (hbody _ pre x b W (by omega) hr hi hax hlen) ?_
      rintro e a3 W3 hp
      cases e with
      | normal => exact ⟨⟨hp.1.size, fun k o hk => hp.1.same k o (by omega)⟩, hp.2.1, hp.2.2, hp.1.same _ _ (Nat.le_refl _) hd rfl⟩
      | ret => exact hp.2.elim
      | exit id => exact hp.2.elim
      | goto t => exact hp.2.elim
      | panic ch => exact hp.elim
      | outgrown => exact hp.elim
    · rintro xs W hS ⟨hi, hd⟩
      exact hdone _ xs W (Nat.le_refl _) hS hi hd

end Go.Proofs.YtomgnpfpaodpiaaDoor

