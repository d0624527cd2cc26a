/- The law of Up within the round of a loop over a function. -/
import Derived.Test.YtomgnpfpaodpiaaDoorH02
import Derived.Test.YtomgnpfpaodpiaaDoorH12
import Derived.Test.YtomgnpfpaodpiaaDoorH21
import Derived.Test.YtomgnpfpaodpiaaDoorH13
set_option linter.unusedVariables false
set_option linter.unusedSimpArgs false
namespace Go.Proofs.YtomgnpfpaodpiaaDoor
open Go Go.RowKit
variable {P : Program} {n : Nat}
theorem op_in {o : Oper} {a : Act} {w : World} {K : Act → World → Prop} {Q : Exit → Act → World → Prop} (hd : ∀ c, o.op ≠ .defer c) (h : o.wp P a w K Q) : o.wpIn Fence.wide n P a w K Q := by
  unfold Oper.wp at h
  unfold Oper.wpIn
  refine ⟨fun _ _ => trivial, ?_⟩
  rw [Oper.semAt_eq _ _ _ hd]
  generalize (execOp a.eval o).run P w = r at *
  cases r with
  | ok x w' =>
    cases x <;> first
      | exact h
      | exact ⟨fun h => by simp [Fence.wide] at h, callsIn_wide.2 h⟩
      | exact ⟨fun h => by simp [Fence.wide] at h, h⟩
      | exact ⟨fun h => by simp [Fence.wide] at h, fun c cs _ => let ⟨v, w2, r, s⟩ := h c cs; ⟨v, w2, r, stepsIn_wide.2 s⟩⟩
      | exact False.elim h
  | halt x w' => cases x <;> exact h
theorem any_in {md : Region.Mode} {ops : Array Oper} {Q : Exit → Act → World → Prop} (hd : noDefer ops.toList = true) (hno : ∀ a w, ¬ Q .outgrown a w) : ∀ (fuel : Nat) (listed : Array Bool) (a : Act) (w : World), wpAny P md ops Q fuel listed a w → wpAnyIn Fence.wide n P md ops Q fuel listed a w := by
  intro fuel
  induction fuel with
  | zero => exact fun _ _ _ h => h
  | succ fuel ih =>
    intro listed a w h
    refine ⟨h.1, fun i hi => ?_⟩
    have h2 := h.2 i hi
    unfold wpOp at h2
    unfold wpOpIn
    cases ho : ops[i]? with
    | none => rw [ho] at h2; exact ih _ _ _ h2
    | some o =>
      rw [ho] at h2
      dsimp only at h2 ⊢
      have hdo : ∀ c, o.op ≠ .defer c := by
        intro c hc
        have := List.all_eq_true.1 hd o (by rw [Array.mem_toList_iff]; exact Array.mem_of_getElem? ho)
        simp [hc] at this
      split
      · rename_i hw
        rw [if_pos hw] at h2
        rcases h2 with h2 | ⟨_, a1, w1, h3⟩
        · exact op_in hdo (Oper.wp_mono (fun a w => ih _ a w) h2)
        · exact absurd h3 (hno a1 w1)
      · rename_i hw
        rw [if_neg hw] at h2
        exact ⟨fun _ _ => trivial, ih _ _ _ h2⟩
theorem wp_region_box_round {lo : Nat} (C : World → Prop) (hC : Stays C) {id : Nat} {Q : Exit → Act → World → Prop} {a : Act} {w : World} {l : List Oper} (hdf : noDefer l = true) (hno : ∀ a w, ¬ Q .outgrown a w) (ks : List Nat) (m N : Nat) {lq : List Oper} {a' : Act} (hm : P.follows .mixedOrders = true) (hs : Region.noSelect l.toArray = true) (hn : l.length = m + ks.length)
    (hB : upB .any l.toArray ks (Array.replicate l.length false) = true) (hk : ks.all (fun k => decide (k < l.length)) = true) (hN : a.tmps.size = N) (hd : slotsB N (ks.map (fun k => l.getD k default)) = true)
    (hl : ks.map (fun k => l.getD k default) = lq) (h0 : C w) (hq : ∀ w0, C w0 → wpQuiet P l.toArray (fun w' => ∃ g, w' = plus w0 g) (fun a'' => a'' = a') lq a)
    (h : wpUp P .any l.toArray (NoPanic Q) C m (upTo ks (Array.replicate l.length false)) a' w) : (Code.region id l.toArray true).wpIn (Fence.wide.inRound lo) n P Q a w := by
  subst hl hN
  have hb : Below w.heap.size w { w with drawn := w.drawn + 1 } := ⟨rfl, rfl, rfl, Nat.le_refl _, fun _ _ => rfl⟩
  refine wpIn_mono (wpIn_region_any hm (wpAnyIn_round (by simpa using hdf) _ _ _ _ (any_in (Q := NoPanic Q) (by simpa using hdf) (fun a w h => hno a w h) _ _ _ _ (wpUp_any (C := C) _ _ _ _ (hC _ _ h0 hb) ?_)))) NoPanic.imp
  have hsz : l.toArray.size = m + ks.length := by simpa using hn
  rw [hsz]
  have := wpUp_lex (md := .any) hC h0 hs (fun _ _ _ _ h => h) ks _ (Array.replicate l.length false) a (picks_map ks hk) hB hd (fun w0 h1 => by have := hq w0 h1; rwa [plus_class] at this) h
  rw [hn] at this
  have h9 := wpUp_up this hb
  simpa using h9
end Go.Proofs.YtomgnpfpaodpiaaDoor

/- An append to a list that a field of a box holds. -/
namespace Go.Proofs.YtomgnpfpaodpiaaDoor
open Go Go.RowKit
theorem own_other {w7 w8 : World} {base n k : Nat} {v : Value} {xs : List Value} {t : TypeId} {cs : List Value} (h : w7.ownsRow base 3 1 v n xs) (hg : w7.grownBy w8 v.ownBlock) (ht : t ≠ 3) (hk : CellsBox w7 k t cs) : CellsBox w8 k t cs :=
  (hg.block k hk.lt fun e => by
    rcases h.2 with ⟨rfl, _⟩ | ⟨g, cap, cur, rfl, _, h2, _⟩
    · cases e
    · cases e
      unfold CellsBox at hk
      rw [h2] at hk; cases hk; exact ht rfl).trans hk
theorem own_spare {w7 w8 w9 : World} {base n L i : Nat} {v u : Value} {xs : List Value} (h : w7.ownsRow base 3 1 v n xs) (hg : w7.grownBy w8 v.ownBlock) (h9 : Below w8.heap.size w8 w9) (hb : base ≤ w7.heap.size) : Spare base L w7 (w9.setCell ⟨L, i, none⟩ u) := by
  have hsz := hg.size
  refine ⟨h9.os.trans hg.os, h9.tape.trans hg.tape, h9.output.trans hg.output, by have := h9.size; simp; omega, fun k hk hl => ?_⟩
  rw [heap_setCell_other w9 _ k u hl, h9.block k (by omega)]
  refine hg.block k (by omega) fun e => ?_
  have := (h.lt k e.symm).1
  omega
theorem own_set {w8 w9 : World} {base n L i : Nat} {v u : Value} {xs cs : List Value} {t : TypeId} (h : w8.ownsRow base 3 1 v n xs) (h9 : Below w8.heap.size w8 w9) (ht : t ≠ 3) (hL : CellsBox w9 L t cs) : (w9.setCell ⟨L, i, none⟩ u).ownsRow base 3 1 v n xs := by
  have h2 := own_keep h h9
  refine h2.kept (grownBy_set w9 L i u) ?_
  rcases h2.2 with ⟨rfl, _⟩ | ⟨g, cap, cur, rfl, _, h3, _⟩
  · exact .inl rfl
  · right
    intro e
    cases e
    unfold CellsBox at hL
    rw [h3] at hL; cases hL; exact ht rfl
theorem news_i {w : World} {b : Nat} {u : Value} (h : w.cell? ⟨b, 0, none⟩ = some u) : ∀ j x, [u][j]? = some x → w.cell? ((⟨b, 0, none⟩ : Addr).add j) = some x := by
  intro j x hj
  cases j with
  | zero => simp at hj; subst hj; simpa [Addr.add] using h
  | succ j => simp at hj
def secsL (f : Floor) : List Int := f.slips.map fun s => (takesF f s).2
theorem secsL_at {f : Floor} {k : Nat} {s : SSlip} (h : f.slips[k]? = some s) : (secsL f).take (k + 1) = (secsL f).take k ++ [(takesF f s).2] := by
  obtain ⟨hk, rfl⟩ := List.getElem?_eq_some_iff.1 h
  have hk2 : k < (secsL f).length := by simpa [secsL] using hk
  rw [List.take_succ_eq_append_getElem hk2]
  simp [secsL]
end Go.Proofs.YtomgnpfpaodpiaaDoor

