/- The choices as a sequence: contracts of choices.Of and of what it returns. -/
import Derived.Test.YtomgnpfpaodpiaaDoorH30
set_option linter.unusedVariables false
set_option linter.unusedSimpArgs false
namespace Go.Proofs.YtomgnpfpaodpiaaDoor
open Go Go.RowKit Go.Shelf
set_option maxHeartbeats 3000000
attribute [local go_sem] Oper.semAt_some
/-- a sequence whose things lie in memory that it made: the rounds are told where (R); a round that goes on keeps all cells, the last one those that the sequence made -/
def SeqM {α : Type} (F : Fence) (n : Nat) (P : Program) (g : Nat) (lb : Array Value) (encs : α → Array Value) (R : α → World → Prop) (S Sp : List α → Prop) (N : Nat) (w : World) : Prop :=
  ∀ (l : Nat) (J Jx : List α → World → Prop) (W : World), Below w.heap.size w W → AbidesFrom W.heap.size J → AbidesFrom W.heap.size Jx →
    (∀ pre x W1, J pre W1 → pre.length < N → R x W1 → YieldAt F (n - 1) P l (encs x) W1 fun e W' => (e = .returned (.bool true) ∧ J (pre ++ [x]) W' ∧ CS W1 W') ∨ (e = .returned (.bool false) ∧ Jx (pre ++ [x]) W' ∧ CF W.heap.size W1 W')) →
    J [] W → CallsIn F n P g (#[.func (.yield l) #[] #[]] ++ lb) W fun e W' => (∃ v, e = .returned v) ∧ ((∃ xs, S xs ∧ J xs W') ∨ (∃ pre, Sp pre ∧ Jx pre W'))
structure OfAt (w : World) (m : Nat) (list : List Int) (A : Option Addr) (cap pM pL : Nat) : Prop where
  many : CellsBox w pM 3 [vi m]
  box : CellsBox w pL 22 [.slice A list.length cap]
  ints : IntsAt w w.heap.size A cap list
theorem OfAt.cs {w w' : World} {m : Nat} {list : List Int} {A : Option Addr} {cap pM pL : Nat} (h : OfAt w m list A cap pM pL) (hc : CS w w') : OfAt w' m list A cap pM pL := ⟨hc.box h.many, hc.box h.box, hc.rows h.ints⟩
abbrev encR (x : SRow) : Array Value := #[x.slice]
def chosenR (m : Nat) (list : List Int) (x : SRow) (w : World) : Prop := x.at w ∧ x.slips.length = m ∧ ∀ y ∈ x.slips, y ∈ list
set_option maxRecDepth 100000 in
theorem of_seq (m : Nat) (hm : m ≤ 1000) (list : List Int) (hl : list.length ≤ 1000) (A : Option Addr) (cap pM pL : Nat) (w : World) (hA : OfAt w m list A cap pM pL) (n : Nat) :
    SeqM Fence.wide n Tryd.prog 106 #[.pointer (some ⟨pM, 0, none⟩), .pointer (some ⟨pL, 0, none⟩)] encR (chosenR m list) (fun xs => xs.map SRow.slips = choF m list []) (fun pre => ∃ (d r : List (List Int)) (xs : List SRow) (x : SRow), pre = xs ++ [x] ∧ choF m list [] = d ++ x.slips :: r ∧ xs.map SRow.slips = d) (choF m list []).length w := by
  intro l J Jx W hW hJ hJx hY' h0
  have hY : ∀ (pre : List SRow) (x : SRow) (W1 : World), J pre W1 → pre.length < (choF m list []).length → x.at W1 → x.slips.length = m → (∀ y ∈ x.slips, y ∈ list) → YieldAt Fence.wide 0 Tryd.prog l #[x.slice] W1 fun e W' => (e = .returned (.bool true) ∧ J (pre ++ [x]) W' ∧ CS W1 W') ∨ (e = .returned (.bool false) ∧ Jx (pre ++ [x]) W' ∧ CF W.heap.size W1 W') :=
    fun pre x W1 hj hl h1 h2 h3 => yield_any (m' := 0) (hY' pre x W1 hj hl ⟨h1, h2, h3⟩)
  have HA := Lib.hid (hA.cs (cs_of_below hW))
  have GV := Lib.hid (fun (pY pC : Nat) (W1 : World) (hB : W.heap.size ≤ pC) hb hg => choose_any (· ∈ list) m hm pM pY pC l (choF m list []).length W.heap.size J Jx hJ hJx hB hY list.length list [] A none cap 0 [] W1 rfl (by simpa using hl) (fun _ h => h) (fun _ h => by simp at h) hg (HA.out.cs (cs_of_below hb)).ints (rows_nil _ _) (abides_below hJ h0 hb) (by simp))
  simp only [List.nil_append, List.length_nil] at GV
  clear hA hY hW h0 hY'
  have f0 := HA.out.box.cell (j := 0) rfl
  have zL := HA.out.box.lt
  refine (callsIn_wide (n := n)).2 ?_
  refine (callsIn_wide (n := 6)).1 ?_
  refine callsIn_of_wp Tryd.func106 rfl trivial ?_ rfl
  simp only [Tryd.ntmps106, List.size_toArray, List.length_cons, List.length_nil, Nat.reduceAdd, Nat.reduceSub, Array.replicate_succ, Array.replicate_zero, List.push_toArray, List.append_toArray, List.nil_append, List.cons_append]
  gi_wp2_with fail
  refine ⟨trivial, ?_⟩
  have X1 := (CellsBox.new W 149 [.func (.yield l) #[] #[]]).alloc (.cells #[chooseV pM W.heap.size (W.heap.size + 1)] 57)
  have X2 := CellsBox.new (W.alloc (.cells #[.func (.yield l) #[] #[]] 149)) 57 [chooseV pM W.heap.size (W.heap.size + 1)]
  rw [World.size_alloc] at X2
  have hb : Below W.heap.size W ((W.alloc (.cells #[.func (.yield l) #[] #[]] 149)).alloc (.cells #[chooseV pM W.heap.size (W.heap.size + 1)] 57)) := by (repeat (first | exact Below.refl _ _ | refine Below.setCell ?_ (by first | omega | (simp; omega) | (simp; done)) _ | refine Below.alloc ?_ (by first | omega | (simp; omega) | (simp; done)) _ | refine Below.drew ?_ | refine below_drewN ?_ _ | refine Below.trans ?_ (Below.mono (by assumption) (by first | omega | (simp; omega) | (simp; done)))))
  have hA2 := HA.out.cs (cs_of_below hb)
  refine (callsIn_wide.2 (GV.out W.heap.size (W.heap.size + 1) _ (by omega) hb ⟨hA2.many, X1, X2⟩)).mono ?_
  rintro e W9 ⟨b, rfl, hT⟩
  have HT := Lib.hid hT
  clear hT X1 X2 hb hA2
  gi_wp2_with fail
  go_end0
  refine ⟨⟨_, rfl⟩, ?_⟩
  rcases HT.out.out with ⟨_, xs, h1, h2, _⟩ | ⟨_, d, r, xs, x, h1, h2, h3, _⟩
  · exact .inl ⟨xs, h1, h2⟩
  · exact .inr ⟨xs ++ [x], ⟨d, r, xs, x, rfl, h1, h2⟩, h3⟩
abbrev ofV (pM pL : Nat) : Value := .func (.func 106) #[] #[.pointer (some ⟨pM, 0, none⟩), .pointer (some ⟨pL, 0, none⟩)]
theorem of_any (m : Nat) (list : List Int) (A : Option Addr) (cap : Nat) (w : World) (h : IntsAt w w.heap.size A cap list) :
    Calls Tryd.prog 75 #[.slice A list.length cap, vi m] w fun e w' => ∃ pM pL, e = .returned (ofV pM pL) ∧ OfAt w' m list A cap pM pL ∧ Below w.heap.size w w' := by
  have HI := Lib.hid h
  clear h
  have X1 := (CellsBox.new w 22 [.slice A list.length cap]).alloc (.cells #[vi m] 3)
  have X2 := CellsBox.new (w.alloc (.cells #[.slice A list.length cap] 22)) 3 [vi m]
  rw [World.size_alloc] at X2
  have HX1 := Lib.hid X1
  have HX2 := Lib.hid X2
  have hb : Below w.heap.size w ((w.alloc (.cells #[.slice A list.length cap] 22)).alloc (.cells #[vi m] 3)) := by (repeat (first | exact Below.refl _ _ | refine Below.setCell ?_ (by first | omega | (simp; omega) | (simp; done)) _ | refine Below.alloc ?_ (by first | omega | (simp; omega) | (simp; done)) _ | refine Below.drew ?_ | refine below_drewN ?_ _ | refine Below.trans ?_ (Below.mono (by assumption) (by first | omega | (simp; omega) | (simp; done)))))
  have HB := Lib.hid hb
  clear X1 X2 hb
  go_enter Tryd.func75, Tryd.ntmps75
  go_wp2_with fail
  go_ret
  exact ⟨_, _, rfl, ⟨HX2.out, HX1.out, HI.out.to HB.out⟩, HB.out⟩
end Go.Proofs.YtomgnpfpaodpiaaDoor

/- A loop over a sequence whose things lie in memory that it made; the body may leave it. -/
namespace Go.Proofs.YtomgnpfpaodpiaaDoor
open Go Go.RowKit
variable {F : Fence} {n : Nat} {P : Program}
theorem CF.lower {B B' : Nat} {a b : World} (h : CF B a b) (hb : B ≤ B') : CF B' a b := ⟨h.size, fun k c t z hk => h.boxes k c t z (by omega)⟩
/-- how the body of a round may be left -/
def postM {α : Type} (B : Nat) (I : List α → World → Prop) (Ix : Code → List α → World → Prop) (xs : List α) (W : World) : Exit → Act → World → Prop
  | .normal, _, W' => KeepsFrom B W W' ∧ CS W W' ∧ I xs W'
  | .ret, _, W' => KeepsFrom B W W' ∧ CF B W W' ∧ Ix .ret xs W'
  | .exit id, _, W' => KeepsFrom B W W' ∧ CF B W W' ∧ Ix (.exit id) xs W'
  | .goto t, _, W' => KeepsFrom B W W' ∧ CF B W W' ∧ Ix (.goto t) xs W'
  | .panic _, _, _ => False
  | .outgrown, _, _ => False
theorem range_outerM {α : Type} {g : Operand} {ps : Array Tmp} {assign body : Code} {Q : Exit → Act → World → Prop} {a : Act} {w : World}
    (hro : F.round = none) (h1 : 1 ≤ n) {gf : Nat} {lb : Array Value} (hg : a.eval g = .func (.func gf) #[] lb) (hFg : F.fn gf) (eg : ∀ args w, (callFunc gf args).run P w = .ok (.enter gf args) w)
    {encs : α → Array Value} {R : α → World → Prop} {S Sp : List α → Prop} {N : Nat} {w0 : World} (hseq : SeqM F (n - 1) P gf lb encs R S Sp N w0)
    (hRk : ∀ x A B, CS A B → R x A → R x B) (hb0 : Below w0.heap.size w0 w) (hps : ∀ x, (encs x).size = ps.size)
    (I : List α → World → Prop) (Ix : Code → List α → World → Prop) (hI : OwnFrom w.heap.size I) (hIx : ∀ c, OwnFrom w.heap.size (Ix c)) (h0 : I [] w) (a₁ : α → Act)
    (hassign : ∀ (l : Nat) (x : α) (W : World) (K : Act → World → Prop), K (a₁ x) W →
      assign.wpIn (F.inRound l) (n - 1 - 1) P (Exit.then K (fun _ _ _ => False)) { tmps := (ps.zip (encs x)).foldl (fun t (p, v) => t.setIfInBounds p v) a.tmps, defers := [] } W)
    (hbody : ∀ (l : Nat) (pre : List α) (x : α) (W : World), w.heap.size ≤ l → I pre W → R x W → pre.length < N → body.wpIn (F.inRound l) (n - 1 - 1) P (postM w.heap.size I Ix (pre ++ [x]) W) (a₁ x) W)
    (hdone : ∀ (D : Nat) (xs : List α) (W : World), w.heap.size ≤ D → S xs → I xs W → W.heap[D]? = some (.deferred (some [])) → Q .normal { a with defers := { target := .collected D, args := #[] } :: a.defers } W)
    (hstop : ∀ (D : Nat) (c : Code) (pre : List α) (W : World), w.heap.size ≤ D → Sp pre → Ix c pre W → W.heap[D]? = some (.deferred (some [])) → c.wpIn F n P Q { a with defers := { target := .collected D, args := #[] } :: a.defers } W) :
    (Code.rangeFunc g ps assign body).wpIn F n P Q a w := by
  refine wpIn_rangeFunc fun fn hfn => ?_
  rw [hro]
  obtain ⟨W1, hW1⟩ : ∃ W1, (w.alloc (.deferred (some []))).alloc (.loop (lrec fn a.tmps ps assign body w.heap.size .ready)) = W1 := ⟨_, rfl⟩
  have hl1 : W1.heap[w.heap.size + 1]? = some (.loop (lrec fn a.tmps ps assign body w.heap.size .ready)) := by
    subst hW1
    have := World.alloc_heap_new (w.alloc (.deferred (some []))) (.loop (lrec fn a.tmps ps assign body w.heap.size .ready))
    rwa [World.size_alloc] at this
  have hd1 : W1.heap[w.heap.size]? = some (.deferred (some [])) := by
    subst hW1
    exact (Below.heap_alloc _ _ _ (by simp)).trans (World.alloc_heap_new w _)
  have hI1 : I [] W1 := by subst hW1; exact hI.alloc _ (hI.alloc _ h0)
  have hb1 : Below w0.heap.size w0 W1 := by subst hW1; exact hb0.trans ((((Below.refl _ w).alloc (Nat.le_refl _) _).alloc (by simp) _).mono hb0.size)
  have hsz1 : w.heap.size + 2 ≤ W1.heap.size := by subst hW1; simp
  have hlt1 : w.heap.size + 1 < W1.heap.size := by omega
  have up : ∀ {A : World} {row : Option Nat}, (∀ r, row = some r → W1.heap.size ≤ r ∧ ∃ o : Obj, A.heap[r]? = some o ∧ o.isWalk = true) → (∀ r, row = some r → w.heap.size ≤ r ∧ ∃ o : Obj, A.heap[r]? = some o ∧ o.isCells = false) :=
    fun hr r e => by obtain ⟨hB, o, ho, hw⟩ := hr r e; exact ⟨by omega, o, ho, Obj.not_cells_of_walk hw⟩
  refine ⟨w.heap.size + 1, [{ target := .collected w.heap.size, args := #[] }], W1, { target := .fn (.func gf) lb, args := #[.func (.yield (w.heap.size + 1)) #[] #[]] }, W1, gf, #[.func (.yield (w.heap.size + 1)) #[] #[]] ++ lb, W1, ?_, ?_, ?_, ?_, fun _ => h1, ?_⟩
  · rw [← hW1]; exact run_enterLoop_outer _ _ _ _ _
  · simp only [resolve, hg]
    simp [go_sem]
  · intro f' hf'; simp [Target.leads] at hf'; subst hf'; exact hFg
  · simp [invoke, go_sem, eg]
  · refine (hseq (w.heap.size + 1)
      (fun pre W => I pre W ∧ W.heap[w.heap.size + 1]? = some (.loop (lrec fn a.tmps ps assign body w.heap.size .ready)) ∧ W.heap[w.heap.size]? = some (.deferred (some [])))
      (fun pre W => ∃ c, Ix c pre W ∧ W.heap[w.heap.size + 1]? = some (.loop { lrec fn a.tmps ps assign body w.heap.size .done with pending := some c }) ∧ W.heap[w.heap.size]? = some (.deferred (some [])))
      W1 hb1 ?_ ?_ ?_ ⟨hI1, hl1, hd1⟩).mono ?_
    · intro s A B row hs hg' hr
      exact ⟨hI s A B row hs.1 hg' (up hr), heap_stays hg' (fun r e => (hr r e).1) hs.2.1 hlt1, heap_stays hg' (fun r e => (hr r e).1) hs.2.2 (by omega)⟩
    · rintro s A B row ⟨c, hc, hl, hk⟩ hg' hr
      exact ⟨c, hIx c s A B row hc hg' (up hr), heap_stays hg' (fun r e => (hr r e).1) hl hlt1, heap_stays hg' (fun r e => (hr r e).1) hk (by omega)⟩
    · rintro pre x W ⟨hi, hl, hk⟩ hlen hx
      have hlt : w.heap.size + 1 < W.heap.size := (Array.getElem?_eq_some_iff.1 hl).1
      have hy := run_yield (P := P) (args := encs x) hl (hps x)
      refine ⟨fn, _, assign, body, hy, roundIn_of_wpIn hfn (hassign _ x W _ ⟨_, run_beginRound hl rfl, ?_⟩)⟩
      have hl2 : (W.putObj (w.heap.size + 1) (.loop (lrec fn a.tmps ps assign body w.heap.size .busy))).heap[w.heap.size + 1]? = some (.loop (lrec fn a.tmps ps assign body w.heap.size .busy)) := World.putObj_heap_same hlt
      have hk2 : (W.putObj (w.heap.size + 1) (.loop (lrec fn a.tmps ps assign body w.heap.size .busy))).heap[w.heap.size]? = some (.deferred (some [])) := (World.putObj_heap_other (by omega)).trans hk
      have hc2 : CS W (W.putObj (w.heap.size + 1) (.loop (lrec fn a.tmps ps assign body w.heap.size .busy))) := CS.turn _ _ _ _ hl rfl
      refine wpIn_mono (hbody _ pre x _ (by omega) (hI.putObj _ hi (by omega) hl rfl) (hRk x _ _ hc2 hx) hlen) ?_
      have stop : ∀ (c : Code) (W3 : World), KeepsFrom w.heap.size (W.putObj (w.heap.size + 1) (.loop (lrec fn a.tmps ps assign body w.heap.size .busy))) W3 → CF w.heap.size (W.putObj (w.heap.size + 1) (.loop (lrec fn a.tmps ps assign body w.heap.size .busy))) W3 → Ix c (pre ++ [x]) W3 →
          ∃ b W4, (Instr.endRound (w.heap.size + 1) (some c)).run P W3 = .ok (.bool b) W4 ∧ ((Ending.returned (Value.bool b) = .returned (.bool true) ∧ (I (pre ++ [x]) W4 ∧ W4.heap[w.heap.size + 1]? = some (.loop (lrec fn a.tmps ps assign body w.heap.size .ready)) ∧ W4.heap[w.heap.size]? = some (.deferred (some []))) ∧ CS W W4) ∨
            (Ending.returned (Value.bool b) = .returned (.bool false) ∧ (∃ c, Ix c (pre ++ [x]) W4 ∧ W4.heap[w.heap.size + 1]? = some (.loop { lrec fn a.tmps ps assign body w.heap.size .done with pending := some c }) ∧ W4.heap[w.heap.size]? = some (.deferred (some []))) ∧ CF W1.heap.size W W4)) := fun c W3 hk3 hf3 hi3 => by
        have hl3 := hk3.same (w.heap.size + 1) _ (by omega) hl2 rfl
        have hr := run_endRound (P := P) (some c) hl3
        refine ⟨_, _, hr, .inr ⟨rfl, ⟨c, (hIx c).putObj _ hi3 (by omega) hl3 rfl, World.putObj_heap_same (Array.getElem?_eq_some_iff.1 hl3).1, (World.putObj_heap_other (by omega)).trans (hk3.same _ _ (Nat.le_refl _) hk2 rfl)⟩, ?_⟩⟩
        exact ((hc2.cf _).trans (hf3.lower (by omega))).trans ((CS.turn _ _ _ _ hl3 rfl).cf _)
      rintro e a3 W3 hp
      cases e with
      | normal =>
        obtain ⟨hk3, hc3, hi3⟩ := hp
        have hl3 := hk3.same (w.heap.size + 1) _ (by omega) hl2 rfl
        have hr := run_endRound (P := P) none hl3
        exact ⟨_, _, hr, .inl ⟨rfl, ⟨hI.putObj _ hi3 (by omega) hl3 rfl, World.putObj_heap_same (Array.getElem?_eq_some_iff.1 hl3).1, (World.putObj_heap_other (by omega)).trans (hk3.same _ _ (Nat.le_refl _) hk2 rfl)⟩, (hc2.trans hc3).trans (CS.turn _ _ _ _ hl3 rfl)⟩⟩
      | ret =>
        obtain ⟨b, W4, g1, g2⟩ := stop .ret W3 hp.1 hp.2.1 hp.2.2
        exact ⟨_, _, g1, g2⟩
      | exit id =>
        obtain ⟨b, W4, g1, g2⟩ := stop (.exit id) W3 hp.1 hp.2.1 hp.2.2
        exact ⟨_, _, g1, g2⟩
      | goto t =>
        obtain ⟨b, W4, g1, g2⟩ := stop (.goto t) W3 hp.1 hp.2.1 hp.2.2
        exact ⟨_, _, g1, g2⟩
      | panic ch => exact hp.elim
      | outgrown => exact hp.elim
    · rintro e W2 ⟨⟨v, rfl⟩, (⟨xs, hS, hi, hl, hk⟩ | ⟨pre, hSp, c, hi, hl, hk⟩)⟩
      · have := run_endLoop (P := P) hl (by simp)
        exact ⟨none, _, this, hdone _ xs _ (Nat.le_refl _) hS (hI.putObj _ hi (by omega) hl rfl) ((World.putObj_heap_other (by omega)).trans hk)⟩
      · have := run_endLoop (P := P) hl (by simp)
        exact ⟨some c, _, this, hstop _ c pre _ (Nat.le_refl _) hSp ((hIx c).putObj _ hi (by omega) hl rfl) ((World.putObj_heap_other (by omega)).trans hk)⟩
end Go.Proofs.YtomgnpfpaodpiaaDoor

/- A function that ends with many collected calls, none of them with anything to run; the plain form of Late. -/
namespace Go.Proofs.YtomgnpfpaodpiaaDoor
open Go Go.RowKit
abbrev marksOf (Ds : List Nat) : List Deferred := Ds.map fun D => { target := .collected D, args := #[] }
def shut (w : World) (Ds : List Nat) : World := Ds.foldl (fun X D => X.putObj D (.deferred none)) w
theorem shut_heap {k : Nat} : ∀ (Ds : List Nat) (w : World), k ∉ Ds → (shut w Ds).heap[k]? = w.heap[k]?
  | [], _, _ => rfl
  | D :: Ds, w, h => by
    have h1 : k ∉ Ds := fun e => h (by simp [e])
    have h2 : k ≠ D := fun e => h (by simp [e])
    exact (shut_heap Ds (w.putObj D (.deferred none)) h1).trans (World.putObj_heap_other h2)
theorem leaves_marks {F : Fence} {n : Nat} {P : Program} {fn : Func} {tmps : Array Value} {R : Ending → World → Prop} : ∀ (Ds : List Nat) (w : World), Ds.Nodup → (∀ D ∈ Ds, w.heap[D]? = some (.deferred (some []))) →
    LeavesInM F n P fn tmps R [] .returning (shut w Ds) → LeavesInM F n P fn tmps R (marksOf Ds) .returning w
  | [], _, _, _, h => h
  | D :: Ds, w, hn, hD, h => by
    obtain ⟨n1, n2⟩ := List.nodup_cons.1 hn
    have hd := hD D (by simp)
    refine ⟨by simp, .inl ⟨_, _, rfl, run_takeDeferred hd, ?_⟩⟩
    exact leaves_marks Ds _ n2 (fun E hE => (World.putObj_heap_other (fun e => by subst e; exact n1 hE)).trans (hD E (by simp [hE]))) h
/-- is there room among so many pickers for all slips but those -/
def canLess (f : Floor) (p : Nat) (l : List Int) : Bool := canF f p (lessF (allF f) (setF (l.map Int.toNat)))
/-- the slips of a floor, as members answers them -/
def slipsF (f : Floor) : List Int := (List.range f.slips.length).map Int.ofNat
/-- the fewest slips that are late -/
def lateF (f : Floor) (p : Nat) : List Int := ((List.range f.slips.length).findSome? fun many => (choF many (slipsF f) []).find? (canLess f p)).getD (slipsF f)
def LateV (f : Floor) (n : Int) : List Int × Int := if checkV f = 0 then (if hasB 1 5 n then (lateF f n.toNat, 0) else ([], 31)) else ([], checkV f)
end Go.Proofs.YtomgnpfpaodpiaaDoor

