/- A region that draws its order, whose operations only read and whose callees may make memory: one walk serves every order; what is kept is that nothing old has changed. -/
import Derived.BigQuiet
import Derived.Below
import Derived.WalkKit
import Derived.Deep.RegionHeld3
set_option linter.unusedVariables false
set_option linter.unusedSimpArgs false
namespace Go.Proofs.YtomgnpfpaodpiaaDoor
open Go Go.RowKit
/-- new blocks, and how many draws there were -/
structure More where
  blocks : List Obj
  drawn : Nat
instance : Nonempty More := ⟨⟨[], 0⟩⟩
def plus (w : World) (g : More) : World := { w with heap := w.heap ++ g.blocks.toArray, drawn := g.drawn }
theorem plus_cell (w : World) (g : More) (b o : Nat) (h : b < w.heap.size) : (plus w g).cell? ⟨b, o, none⟩ = w.cell? ⟨b, o, none⟩ := by
  simp [World.cell?, plus, Array.getElem?_append, h]
theorem plus_frozen (w : World) (g : More) (b o : Nat) (h : b < w.heap.size) : (plus w g).frozen? ⟨b, o, none⟩ = w.frozen? ⟨b, o, none⟩ := by
  simp [World.frozen?, plus, Array.getElem?_append, h]
theorem plus_below (w : World) (g : More) : Below w.heap.size w (plus w g) :=
  ⟨rfl, rfl, rfl, by simp [plus], fun k hk => by simp [plus, Array.getElem?_append, hk]⟩
theorem below_plus {w w' : World} (h : Below w.heap.size w w') : ∃ g, w' = plus w g := by
  refine ⟨⟨w'.heap.toList.drop w.heap.size, w'.drawn⟩, ?_⟩
  obtain ⟨h1, h2, h3, h4, h5⟩ := h
  have hh : w'.heap = w.heap ++ (w'.heap.toList.drop w.heap.size).toArray := by
    apply Array.ext_getElem?
    intro i
    rw [Array.getElem?_append]
    split
    · rename_i hi; exact h5 i hi
    · rename_i hi; simp; congr 1; omega
  cases w; cases w'
  simp only [plus] at *
  subst h1 h2 h3
  congr
theorem plus_plus {w w' : World} {g : More} (h : Below (plus w g).heap.size (plus w g) w') : ∃ g', w' = plus w g' :=
  below_plus ((plus_below w g).trans (h.mono (plus_below w g).size))
section
variable {P : Program}
theorem Calls.grow_of {f : FuncId} {args : Array Value} {w : World} {g : More} {v : Value}
    (h : Calls P f args (plus w g) fun e w' => e = .returned v ∧ Below (plus w g).heap.size (plus w g) w') : Calls P f args (plus w g) fun e w'' => e = .returned v ∧ ∃ g', w'' = plus w g' :=
  h.mono fun _ _ ⟨he, hb⟩ => ⟨he, plus_plus hb⟩
theorem Calls.grow_same {f : FuncId} {args : Array Value} {w : World} {g : More} {v : Value}
    (h : Calls P f args (plus w g) fun e w' => e = .returned v ∧ plus w g = w') : Calls P f args (plus w g) fun e w'' => e = .returned v ∧ ∃ g', w'' = plus w g' :=
  h.mono fun _ _ ⟨he, hb⟩ => ⟨he, g, hb.symm⟩
theorem wp_region_grow_lit {id : Nat} {Q : Exit → Act → World → Prop} {a : Act} {w : World} {l : List Oper} (hm : P.follows .mixedOrders = true) (hB : Region.lexB .any l.toArray = true)
    (h : wpQuiet P l.toArray (fun w' => ∃ g, w' = plus w g) (fun a' => ∀ w', (∃ g, w' = plus w g) → Q .normal a' w') l a) : (Code.region id l.toArray true).wp P Q a w :=
  wp_region_quiet (C := fun w' => ∃ g, w' = plus w g) hm hB ⟨⟨[], w.drawn + 1⟩, by simp [plus]⟩ (by simpa using h)
theorem below_of_plus {w w' : World} (h : ∃ g, w' = plus w g) : Below w.heap.size w w' := by
  obtain ⟨g, rfl⟩ := h
  exact plus_below w g
end
attribute [go_sem] plus_cell plus_frozen
end Go.Proofs.YtomgnpfpaodpiaaDoor

/- A region that draws its order and makes a box: what only reads, or calls what only adds blocks, is taken first, in one order; what is left is done in whatever world has grown meanwhile. -/
namespace Go.Proofs.YtomgnpfpaodpiaaDoor
open Go Go.RowKit
section
variable {P : Program} {ops : Array Oper} {md : Region.Mode} {Q : Exit → Act → World → Prop} {C : World → Prop}
/-- what is so stays so where only blocks are added -/
def Stays (C : World → Prop) : Prop := ∀ w w' : World, C w → Below w.heap.size w w' → C w'
/-- all orders from here on; between two operations the world may have grown -/
def wpUp (P : Program) (md : Region.Mode) (ops : Array Oper) (Q : Exit → Act → World → Prop) (C : World → Prop) : Nat → Array Bool → Act → World → Prop
  | 0, listed, a, w => Region.ready md ops listed = [] ∧ ∀ w', Below w.heap.size w w' → C w' → Q .normal a w'
  | fuel + 1, listed, a, w => ∀ w', Below w.heap.size w w' → C w' →
    (Region.ready md ops listed = [] → Q .normal a w') ∧
    ∀ i ∈ Region.ready md ops listed, wpOp P ops Q i (fun a1 w1 => C w1 ∧ wpUp P md ops Q C fuel (listed.setIfInBounds i true) a1 w1) a w'
theorem gr_trans {w w1 w2 : World} (h : Below w.heap.size w w1) (h' : Below w1.heap.size w1 w2) : Below w.heap.size w w2 := h.trans (h'.mono h.size)
theorem wpUp_up {n : Nat} {l : Array Bool} {a : Act} {w w1 : World} (h : wpUp P md ops Q C n l a w) (hw : Below w.heap.size w w1) : wpUp P md ops Q C n l a w1 := by
  cases n with
  | zero => exact ⟨h.1, fun w' h1 h2 => h.2 w' (gr_trans hw h1) h2⟩
  | succ n => exact fun w' h1 h2 => h w' (gr_trans hw h1) h2
theorem wpUp_any : ∀ (n : Nat) (l : Array Bool) (a : Act) (w : World), C w → wpUp P md ops Q C n l a w → wpAny P md ops Q n l a w
  | 0, _, _, w, hB, h => ⟨h.1, h.2 w (Below.refl _ _) hB⟩
  | n + 1, _, _, w, hB, h => ⟨(h w (Below.refl _ _) hB).1, fun i hi => wpOp_mono (fun a1 w1 h1 => wpUp_any n _ a1 w1 h1.1 h1.2) ((h w (Below.refl _ _) hB).2 i hi)⟩
/-- in every world that has the class the operation yields v and only adds blocks -/
def YieldsUp (P : Program) (ops : Array Oper) (C : World → Prop) (o : Oper) (v : Value) (a : Act) : Prop :=
  (Region.wanted o (yielded ops a.tmps) = true ∧ ∀ w, C w → o.quietAt P a (fun w' => Below w.heap.size w w') w v) ∨
  (Region.wanted o (yielded ops a.tmps) = false ∧ v = undef)
theorem YieldsUp.of_same {o : Oper} {v : Value} {a a' : Act} (hy : YieldsUp P ops C o v a) (he : execOp a'.eval o = execOp a.eval o)
    (hw : Region.wanted o (yielded ops a'.tmps) = Region.wanted o (yielded ops a.tmps)) : YieldsUp P ops C o v a' := by
  unfold YieldsUp Oper.quietAt at *
  rw [he, hw]
  exact hy
theorem YieldsUp.wpOp (hC : Stays C) {i : Nat} {o : Oper} {v : Value} {a : Act} (hi : ops[i]? = some o) (hy : YieldsUp P ops C o v a) {K : Act → World → Prop} {w : World} (hB : C w)
    (h : ∀ w', Below w.heap.size w w' → K (a.put o.dst v) w') : Go.wpOp P ops Q i K a w := by
  unfold Go.wpOp
  simp only [hi]
  rcases hy with ⟨hw, hv⟩ | ⟨hw, rfl⟩
  · simp only [hw, if_true]
    refine .inl (Oper.wp_of_quiet (C := fun w' => Below w.heap.size w w') (K := fun a' => a' = a.put o.dst v) (Below.refl _ _) (fun a' w' hw' ha => ha ▸ h w' hw') ⟨v, fun w1 hw1 => ?_, rfl⟩)
    have h1 := hv w1 (hC _ _ hB hw1)
    unfold Oper.quietAt at h1 ⊢
    generalize (execOp a.eval o).run P w1 = r at *
    cases r with
    | ok n w' =>
      cases n <;> simp only [Oper.quietUpon] at h1 ⊢
      case value u => exact h1
      case skip => exact h1
      case enter f args => exact ⟨h1.1, h1.2.mono fun e w'' h2 => ⟨h2.1, gr_trans hw1 h2.2⟩⟩
    | halt x w' => simp only [Oper.quietUpon] at h1
  · simp only [hw, Bool.false_eq_true, if_false]; exact h w (Below.refl _ _)
/-- an operation that is apart does the same, whether the other's value is there already or not -/
theorem wpOp_apart {j : Nat} {oi oj : Oper} {v : Value} (hj : ops[j]? = some oj) (hap : oi.apart ops oj = true)
    (hsi : ∀ cs b, oi.op ≠ .select cs b) (hsj : ∀ cs b, oj.op ≠ .select cs b)
    (hQ : ∀ c a w, Q (.panic c) (a.put oi.dst v) w → Q (.panic c) a w) {K : Act → World → Prop} {a : Act} {w : World}
    (hy : YieldsUp P ops C oi v a) (h : wpOp P ops Q j K (a.put oi.dst v) w) :
    wpOp P ops Q j (fun a' w' => YieldsUp P ops C oi v a' ∧ K (a'.put oi.dst v) w') a w := by
  obtain ⟨h1, h2, h3⟩ := Oper.apart_spec hap
  have kp : ∀ (b : Act), YieldsUp P ops C oi v b → ∀ u, YieldsUp P ops C oi v (b.put oj.dst u) := fun b hb u =>
    hb.of_same (execOp_put oi hsi b oj.dst u h3) (wanted_put oi b oj.dst u h3)
  have kd : ∀ d, YieldsUp P ops C oi v { a with defers := d :: a.defers } := fun d => hy.of_same rfl rfl
  have pc : ∀ (b : Act) u, (b.put oi.dst v).put oj.dst u = (b.put oj.dst u).put oi.dst v := fun b u => Act.put_comm b v u h2
  unfold wpOp at h ⊢
  simp only [hj] at h ⊢
  rw [wanted_put oj a oi.dst v h1] at h
  by_cases hw : Region.wanted oj (yielded ops a.tmps) = true
  · simp only [hw, if_true] at h ⊢
    rcases h with h | ⟨hasks, hlets⟩
    · left
      unfold Oper.wp at h ⊢
      rw [execOp_put oj hsj a oi.dst v h1] at h
      generalize (execOp a.eval oj).run P w = r at *
      cases r with
      | ok n w' =>
        cases n <;> simp only [Oper.upon] at h ⊢
        case value u => exact ⟨kp a hy u, pc a u ▸ h⟩
        case skip => exact ⟨kp a hy _, pc a undef ▸ h⟩
        case defer d =>
          refine ⟨kp _ (kd d) _, ?_⟩
          rw [← pc, ← Act.put_defers]
          exact h
        case enter f args =>
          refine Calls.mono h fun e w'' he => ?_
          cases e with
          | returned u => exact ⟨kp a hy u, pc a u ▸ he⟩
          | panicked c => exact hQ _ _ _ he
          | outgrown => exact he
        case row row args => exact Rows.mono h fun u w'' he => ⟨kp a hy u, pc a u ▸ he⟩
      | halt x w' =>
        cases x <;> simp only [Oper.upon] at h ⊢
        case panic u => exact hQ _ _ _ h
    · right
      refine ⟨?_, hlets⟩
      unfold Oper.asks at *
      rw [execOp_put oj hsj a oi.dst v h1] at hasks
      exact hasks
  · simp only [hw] at h ⊢
    exact ⟨kp a hy _, pc a undef ▸ h⟩
/-- what only reads may be taken first -/
theorem wpUp_first (hC : Stays C) {i : Nat} {oi : Oper} {v : Value} (hi : ops[i]? = some oi) (hsel : ∀ (j : Nat) (o : Oper) cs b, ops[j]? = some o → o.op ≠ .select cs b)
    (hQ : ∀ c a w, Q (.panic c) (a.put oi.dst v) w → Q (.panic c) a w) :
    ∀ (fuel : Nat) (listed : Array Bool) (a : Act) (w : World),
      (∀ j oj, ops[j]? = some oj → j ≠ i → listed.getD j true = false → (∀ e ∈ oj.after, Region.binds md e = true → e.on ≠ i) → oi.apart ops oj = true) →
      i ∈ Region.ready md ops listed → YieldsUp P ops C oi v a →
      wpUp P md ops Q C fuel (listed.setIfInBounds i true) (a.put oi.dst v) w → wpUp P md ops Q C (fuel + 1) listed a w := by
  intro fuel
  induction fuel with
  | zero =>
    intro listed a w _ hr hy H w' hw hB
    refine ⟨fun h => (by rw [h] at hr; cases hr), fun j hj => ?_⟩
    by_cases hji : j = i
    · subst hji
      exact hy.wpOp hC hi hB fun w1 h1 => ⟨hC _ _ hB h1, wpUp_up H (gr_trans hw h1)⟩
    · have h2 := ready_mono hj hji
      rw [H.1] at h2
      cases h2
  | succ fuel ih =>
    intro listed a w hfree hr hy H w' hw hB
    refine ⟨fun h => (by rw [h] at hr; cases hr), fun j hj => ?_⟩
    by_cases hji : j = i
    · subst hji
      exact hy.wpOp hC hi hB fun w1 h1 => ⟨hC _ _ hB h1, wpUp_up H (gr_trans hw h1)⟩
    · have h1 := (H w' hw hB).2 j (ready_mono hj hji)
      obtain ⟨hjun, oj, hoj, hall⟩ := mem_ready.1 hj
      have hnot : ∀ e ∈ oj.after, Region.binds md e = true → e.on ≠ i := fun e he hb heq => by
        have h1 := hall e he hb
        have h0 := (mem_ready.1 hr).1
        rw [heq] at h1
        rcases Nat.lt_or_ge i listed.size with h' | h'
        · simp [h'] at h0 h1; rw [h0] at h1; cases h1
        · simp [Array.getElem?_eq_none h'] at h1
      have h2 := wpOp_apart hoj (hfree j oj hoj hji hjun hnot) (fun cs b => hsel i oi cs b hi) (fun cs b => hsel j oj cs b hoj) hQ hy h1
      have hfree' : ∀ k ok, ops[k]? = some ok → k ≠ i → (listed.setIfInBounds j true).getD k true = false →
          (∀ e ∈ ok.after, Region.binds md e = true → e.on ≠ i) → oi.apart ops ok = true := fun k ok hk hki hun hno => by
        refine hfree k ok hk hki ?_ hno
        by_cases hjk : j = k
        · subst hjk; exact hjun
        · rw [getD_set_ne true hjk] at hun; exact hun
      refine wpOp_mono (fun a' w1 h3 => ⟨h3.2.1, ih (listed.setIfInBounds j true) a' w1 hfree' (ready_mono hr (Ne.symm hji)) h3.1 ?_⟩) h2
      rw [Array.setIfInBounds_comm _ _ hji]
      exact h3.2.2
/- the quiet operations, in an order that is given -/
def upB (md : Region.Mode) (ops : Array Oper) : List Nat → Array Bool → Bool
  | [], _ => true
  | k :: ks, listed => (Region.ready md ops listed).contains k && (Region.free md ops listed k && (((ops[k]?).bind (·.dst)).isSome && (ks.all (fun j => (ops[j]?).bind (·.dst) != (ops[k]?).bind (·.dst)) && upB md ops ks (listed.setIfInBounds k true))))
def upTo : List Nat → Array Bool → Array Bool
  | [], listed => listed
  | k :: ks, listed => upTo ks (listed.setIfInBounds k true)
def slotsB (n : Nat) (lq : List Oper) : Bool := lq.all fun o => match o.dst with | some d => decide (d < n) | none => true
/-- a slot that nothing writes any more keeps its value -/
theorem quiet_keeps {C : World → Prop} {a' : Act} {d : Tmp} : ∀ (l : List Oper) (a : Act), (∀ o ∈ l, o.dst ≠ some d) → wpQuiet P ops C (fun a'' => a'' = a') l a → a'.tmps[d]? = a.tmps[d]?
  | [], a, _, h => by rw [show a = a' from h]
  | o :: l, a, hd, h => by
    have hp : ∀ v, (a.put o.dst v).tmps[d]? = a.tmps[d]? := fun v => by
      cases ho : o.dst with
      | none => rfl
      | some e =>
        have : e ≠ d := fun he => hd o (by simp) (he ▸ ho)
        simp [Act.put, Array.getElem?_setIfInBounds_ne this]
    unfold wpQuiet at h
    split at h
    · obtain ⟨v, _, h2⟩ := h
      exact (quiet_keeps l _ (fun o ho => hd o (List.mem_cons_of_mem _ ho)) h2).trans (hp v)
    · exact (quiet_keeps l _ (fun o ho => hd o (List.mem_cons_of_mem _ ho)) h).trans (hp undef)
theorem put_size (a : Act) (d : Option Tmp) (v : Value) : (a.put d v).tmps.size = a.tmps.size := by
  cases d <;> simp [Act.put]
theorem wpUp_lex (hC : Stays C) {w9 : World} (h9 : C w9) (hs : Region.noSelect ops = true) (hQ : ∀ c a a1 w, Q (.panic c) a1 w → Q (.panic c) a w) {a' : Act} {n : Nat} {w : World} : ∀ (ks : List Nat) (lq : List Oper) (listed : Array Bool) (a : Act),
    lq.map some = ks.map (ops[·]?) → upB md ops ks listed = true → slotsB a.tmps.size lq = true →
    (∀ w0, C w0 → wpQuiet P ops (fun w' => Below w0.heap.size w0 w') (fun a'' => a'' = a') lq a) →
    wpUp P md ops Q C n (upTo ks listed) a' w → wpUp P md ops Q C (n + ks.length) listed a w
  | [], lq, listed, a, hl, _, _, hq, h => by
    obtain rfl : lq = [] := by simpa using hl
    have := hq w9 h9
    rw [show a = a' from this]
    exact h
  | k :: ks, [], _, _, hl, _, _, _, _ => by simp at hl
  | k :: ks, o :: lq, listed, a, hl, hB, hd, hq, h => by
    simp only [List.map_cons, List.cons.injEq] at hl
    obtain ⟨hk, hl⟩ := hl
    simp only [upB, Bool.and_eq_true] at hB
    obtain ⟨hr, hf, hsome, hall, hB'⟩ := hB
    have hd' : slotsB a.tmps.size lq = true := by
      simp only [slotsB, List.all_cons, Bool.and_eq_true] at hd ⊢
      exact hd.2
    have h0 : ops[k]? = some o := hk.symm
    have fin : ∀ v, YieldsUp P ops C o v a → (∀ w0, C w0 → wpQuiet P ops (fun w' => Below w0.heap.size w0 w') (fun a'' => a'' = a') lq (a.put o.dst v)) → wpUp P md ops Q C (n + (ks.length + 1)) listed a w := fun v hy hq' =>
      wpUp_first hC h0 (Region.noSelect_spec hs) (fun c a w h => hQ c a _ w h) (n + ks.length) listed a w (Region.free_spec h0 hf) (by simpa using hr) hy
        (wpUp_lex hC h9 hs hQ ks lq _ _ hl hB' (by rw [put_size]; exact hd') hq' h)
    by_cases hw : Region.wanted o (yielded ops a.tmps) = true
    · rw [h0] at hsome
      obtain ⟨d, hdst⟩ : ∃ d, o.dst = some d := by
        cases ho : o.dst with
        | none => simp [ho] at hsome
        | some d => exact ⟨d, rfl⟩
      have hlt : d < a.tmps.size := by
        simp only [slotsB, List.all_cons, Bool.and_eq_true, hdst] at hd
        simpa using hd.1
      have hnd : ∀ p ∈ lq, p.dst ≠ some d := fun p hp hpd => by
        have hm : some p ∈ lq.map some := List.mem_map.2 ⟨p, hp, rfl⟩
        rw [hl] at hm
        obtain ⟨j, hj, hjp⟩ := List.mem_map.1 hm
        have := List.all_eq_true.1 hall j hj
        rw [hjp, h0] at this
        simp [hpd, hdst] at this
      have hex : ∀ w0, C w0 → ∃ v, (∀ w1, Below w0.heap.size w0 w1 → o.quietAt P a (fun w' => Below w0.heap.size w0 w') w1 v) ∧
          wpQuiet P ops (fun w' => Below w0.heap.size w0 w') (fun a'' => a'' = a') lq (a.put o.dst v) ∧ a'.tmps[d]? = some v := fun w0 h1 => by
        have h2 := hq w0 h1
        unfold wpQuiet at h2
        rw [if_pos hw] at h2
        obtain ⟨v, h3, h4⟩ := h2
        refine ⟨v, h3, h4, (quiet_keeps lq _ hnd h4).trans ?_⟩
        simp [Act.put, hdst, hlt]
      obtain ⟨v, _, hv2, hv3⟩ := hex w9 h9
      have same : ∀ w0, C w0 → (∀ w1, Below w0.heap.size w0 w1 → o.quietAt P a (fun w' => Below w0.heap.size w0 w') w1 v) ∧
          wpQuiet P ops (fun w' => Below w0.heap.size w0 w') (fun a'' => a'' = a') lq (a.put o.dst v) := fun w0 h1 => by
        obtain ⟨u, h3, h4, h5⟩ := hex w0 h1
        obtain rfl : v = u := Option.some.inj (hv3.symm.trans h5)
        exact ⟨h3, h4⟩
      exact fin v (.inl ⟨hw, fun w1 h1 => (same w1 h1).1 w1 (Below.refl _ _)⟩) fun w0 h1 => (same w0 h1).2
    · refine fin undef (.inr ⟨by simpa using hw, rfl⟩) fun w0 h1 => ?_
      have h2 := hq w0 h1
      unfold wpQuiet at h2
      rwa [if_neg hw] at h2
theorem wpUp_one {n i : Nat} {o : Oper} {listed : Array Bool} {a : Act} {w : World} (hr : Region.ready md ops listed = [i]) (ho : ops[i]? = some o) (hw : Region.wanted o (yielded ops a.tmps) = true)
    (h : ∀ w', Below w.heap.size w w' → C w' → ∀ K : Act → World → Prop, (∀ a1 w1, C w1 → wpUp P md ops Q C n (listed.setIfInBounds i true) a1 w1 → K a1 w1) → o.wp P a w' K Q) :
    wpUp P md ops Q C (n + 1) listed a w := fun w' h1 h2 => by
  refine ⟨fun h0 => (by rw [hr] at h0; cases h0), fun j hj => ?_⟩
  rw [hr, List.mem_singleton] at hj
  subst hj
  unfold wpOp
  simp only [ho, hw, if_true]
  exact .inl (h w' h1 h2 _ fun a1 w1 h3 h4 => ⟨h3, h4⟩)
theorem wpUp_done {n : Nat} {listed : Array Bool} {a : Act} {w : World} (hr : Region.ready md ops listed = []) (h : ∀ w', Below w.heap.size w w' → C w' → Q .normal a w') : wpUp P md ops Q C n listed a w := by
  cases n with
  | zero => exact ⟨hr, h⟩
  | succ n => exact fun w' h1 h2 => ⟨fun _ => h w' h1 h2, fun i hi => by rw [hr] at hi; cases hi⟩
theorem plus_class (w : World) : (fun w' => ∃ g, w' = plus w g) = fun w' => Below w.heap.size w w' := funext fun _ => propext ⟨below_of_plus, below_plus⟩
theorem wp_region_up (hC : Stays C) {id : Nat} {a : Act} {w : World} {l : List Oper} (ks : List Nat) (n : Nat) (lq : List Oper) (a' : Act) (hm : P.follows .mixedOrders = true) (hs : Region.noSelect l.toArray = true) (hn : l.length = n + ks.length)
    (hB : upB .any l.toArray ks (Array.replicate l.length false) = true) (hl : lq.map some = ks.map (l.toArray[·]?)) (hd : slotsB a.tmps.size lq = true) (hQ : ∀ c a a1 w, Q (.panic c) a1 w → Q (.panic c) a w)
    (h0 : C w) (hq : ∀ w0, C w0 → wpQuiet P l.toArray (fun w' => ∃ g, w' = plus w0 g) (fun a'' => a'' = a') lq a)
    (h : wpUp P .any l.toArray Q C n (upTo ks (Array.replicate l.length false)) a' w) : (Code.region id l.toArray true).wp P Q a w := by
  have hb : Below w.heap.size w { w with drawn := w.drawn + 1 } := ⟨rfl, rfl, rfl, Nat.le_refl _, fun _ _ => rfl⟩
  refine wp_region_any hm (wpUp_any (C := C) _ _ _ _ (hC _ _ h0 hb) ?_)
  have hsz : l.toArray.size = n + ks.length := by simpa using hn
  rw [hsz]
  have := wpUp_lex (md := .any) hC h0 hs hQ ks lq (Array.replicate l.length false) a hl hB hd (fun w0 h1 => by have := hq w0 h1; rwa [plus_class] at this) h
  rw [hn] at this
  exact wpUp_up this hb
theorem picks_map {l : List Oper} : ∀ (ks : List Nat), ks.all (fun k => decide (k < l.length)) = true → (ks.map (fun k => l.getD k default)).map some = ks.map (l.toArray[·]?)
  | [], _ => rfl
  | k :: ks, h => by
    simp only [List.all_cons, Bool.and_eq_true, decide_eq_true_eq] at h
    have ih := picks_map ks h.2
    rw [List.map_cons, List.map_cons, List.map_cons, ih]
    congr 1
    simp [List.getElem?_eq_getElem h.1]
/-- the same, told for a walk: ks the quiet ones in an order that may be, n how many are left -/
theorem wp_region_box (C : World → Prop) (hC : Stays C) {id : Nat} {a : Act} {w : World} {l : List Oper} (ks : List Nat) (n N : Nat) {lq : List Oper} {a' : Act} (hm : P.follows .mixedOrders = true) (hs : Region.noSelect l.toArray = true) (hn : l.length = n + ks.length)
    (hB : upB .any l.toArray ks (Array.replicate l.length false) = true) (hk : ks.all (fun k => decide (k < l.length)) = true) (hN : a.tmps.size = N) (hd : slotsB N (ks.map (fun k => l.getD k default)) = true)
    (hl : ks.map (fun k => l.getD k default) = lq) (h0 : C w) (hq : ∀ w0, C w0 → wpQuiet P l.toArray (fun w' => ∃ g, w' = plus w0 g) (fun a'' => a'' = a') lq a)
    (h : wpUp P .any l.toArray (NoPanic Q) C n (upTo ks (Array.replicate l.length false)) a' w) : (Code.region id l.toArray true).wp P Q a w := by
  subst hl hN
  exact wp_region_noPanic (wp_region_up hC ks n _ a' hm hs hn hB (picks_map ks hk) hd (fun _ _ _ _ h => h) h0 hq h)
theorem stays_below (w : World) : Stays (fun w' => Below w.heap.size w w') := fun _ _ h h' => gr_trans h h'
end
theorem cell_lt {W : World} {p : Addr} {v : Value} (h : W.cell? p = some v) : p.block < W.heap.size := by
  apply Classical.byContradiction
  intro hn
  have : W.heap[p.block]? = none := Array.getElem?_eq_none (by omega)
  simp [World.cell?, this] at h
theorem cell_keep {W w' : World} {p : Addr} {v : Value} (hb : Below W.heap.size W w') (h : W.cell? p = some v) : w'.cell? p = some v := (hb.cell (cell_lt h)).trans h
theorem cell_alloc {W : World} {p : Addr} {v : Value} (h : W.cell? p = some v) (o : Obj) : (W.alloc o).cell? p = some v := (((Below.refl _ W).alloc (Nat.le_refl _) o).cell (cell_lt h)).trans h
theorem soft_keep {W w' : World} {p : Addr} (hb : Below W.heap.size W w') (hp : p.block < W.heap.size) (hf : W.frozen? p = false) : w'.frozen? p = false := (hb.frozen hp).trans hf
end Go.Proofs.YtomgnpfpaodpiaaDoor

/- In a region that draws its order: further operations that only read, taken first from the middle on; two that are ready at once. -/
namespace Go.Proofs.YtomgnpfpaodpiaaDoor
open Go Go.RowKit
section
variable {P : Program} {md : Region.Mode} {Q : Exit → Act → World → Prop}
theorem wpUp_more {C : World → Prop} (hC : Stays C) {l : List Oper} (ks : List Nat) (n N : Nat) {m : Nat} {lq : List Oper} {listed : Array Bool} {a a' : Act} {w w9 : World} (hs : Region.noSelect l.toArray = true)
    (hB : upB md l.toArray ks listed = true) (hk : ks.all (fun k => decide (k < l.length)) = true) (hN : a.tmps.size = N) (hd : slotsB N (ks.map (fun k => l.getD k default)) = true) (hm : m = n + ks.length)
    (hl : ks.map (fun k => l.getD k default) = lq) (h0 : C w9) (hq : ∀ w0, C w0 → wpQuiet P l.toArray (fun w' => ∃ g, w' = plus w0 g) (fun a'' => a'' = a') lq a)
    (h : wpUp P md l.toArray (NoPanic Q) C n (upTo ks listed) a' w) : wpUp P md l.toArray (NoPanic Q) C m listed a w := by
  subst hl hN hm
  exact wpUp_lex hC h0 hs (fun _ _ _ _ h => h) ks _ listed a (picks_map ks hk) hB hd (fun w0 h1 => by have := hq w0 h1; rwa [plus_class] at this) h
theorem wpUp_two {ops : Array Oper} {C : World → Prop} {n i j : Nat} {o o' : Oper} {listed : Array Bool} {a : Act} {w : World} (hr : Region.ready md ops listed = [i, j]) (ho : ops[i]? = some o) (hw : Region.wanted o (yielded ops a.tmps) = true) (ho' : ops[j]? = some o') (hw' : Region.wanted o' (yielded ops a.tmps) = true)
    (h : ∀ w', Below w.heap.size w w' → C w' → ∀ K : Act → World → Prop, (∀ a1 w1, C w1 → wpUp P md ops Q C n (listed.setIfInBounds i true) a1 w1 → K a1 w1) → o.wp P a w' K Q)
    (h' : ∀ w', Below w.heap.size w w' → C w' → ∀ K : Act → World → Prop, (∀ a1 w1, C w1 → wpUp P md ops Q C n (listed.setIfInBounds j true) a1 w1 → K a1 w1) → o'.wp P a w' K Q) :
    wpUp P md ops Q C (n + 1) listed a w := fun w' h1 h2 => by
  refine ⟨fun h0 => (by rw [hr] at h0; cases h0), fun k hk => ?_⟩
  rw [hr, List.mem_cons, List.mem_singleton] at hk
  unfold wpOp
  rcases hk with rfl | rfl
  · simp only [ho, hw, if_true]
    exact .inl (h w' h1 h2 _ fun a1 w1 h3 h4 => ⟨h3, h4⟩)
  · simp only [ho', hw', if_true]
    exact .inl (h' w' h1 h2 _ fun a1 w1 h3 h4 => ⟨h3, h4⟩)
end
end Go.Proofs.YtomgnpfpaodpiaaDoor

