/- In a region that draws its order: further operations that only read, taken first from the middle on; two that are ready at once. -/
import Derived.Test.YtpcajmkmmkmekaaGreatDoorGb
set_option linter.unusedVariables false
set_option linter.unusedSimpArgs false
namespace Go.Proofs.YtpcajmkmmkmekaaGreatDoor
open Go Go.RowKit
section
variable {P : Program} {md : Region.Mode} {Q : Exit → Act → World → Prop}
theorem wpUp_more {C : World → Prop} (hC : Stays C) {l : List Oper} (ks : List Nat) (n N : Nat) {m : Nat} {lq : List Oper} {listed : Array Bool} {a a' : Act} {w w9 : World} (hs : Region.noSelect l.toArray = true)
    (hB : upB md l.toArray ks listed = true) (hk : ks.all (fun k => decide (k < l.length)) = true) (hN : a.tmps.size = N) (hd : slotsB N (ks.map (fun k => l.getD k default)) = true) (hm : m = n + ks.length)
    (hl : ks.map (fun k => l.getD k default) = lq) (h0 : C w9) (hq : ∀ w0, C w0 → wpQuiet P l.toArray (fun w' => ∃ g, w' = plus w0 g) (fun a'' => a'' = a') lq a)
    (h : wpUp P md l.toArray (NoPanic Q) C n (upTo ks listed) a' w) : wpUp P md l.toArray (NoPanic Q) C m listed a w := by
  subst hl hN hm
  exact wpUp_lex hC h0 hs (fun _ _ _ _ h => h) ks _ listed a (picks_map ks hk) hB hd (fun w0 h1 => by have := hq w0 h1; rwa [plus_class] at this) h
theorem wpUp_two {ops : Array Oper} {C : World → Prop} {n i j : Nat} {o o' : Oper} {listed : Array Bool} {a : Act} {w : World} (hr : Region.ready md ops listed = [i, j]) (ho : ops[i]? = some o) (hw : Region.wanted o (yielded ops a.tmps) = true) (ho' : ops[j]? = some o') (hw' : Region.wanted o' (yielded ops a.tmps) = true)
    (h : ∀ w', Below w.heap.size w w' → C w' → ∀ K : Act → World → Prop, (∀ a1 w1, C w1 → wpUp P md ops Q C n (listed.setIfInBounds i true) a1 w1 → K a1 w1) → o.wp P a w' K Q)
    (h' : ∀ w', Below w.heap.size w w' → C w' → ∀ K : Act → World → Prop, (∀ a1 w1, C w1 → wpUp P md ops Q C n (listed.setIfInBounds j true) a1 w1 → K a1 w1) → o'.wp P a w' K Q) :
    wpUp P md ops Q C (n + 1) listed a w := fun w' h1 h2 => by
  refine ⟨fun h0 => (by rw [hr] at h0; cases h0), fun k hk => ?_⟩
  rw [hr, List.mem_cons, List.mem_singleton] at hk
  unfold wpOp
  rcases hk with rfl | rfl
  · simp only [ho, hw, if_true]
    exact .inl (h w' h1 h2 _ fun a1 w1 h3 h4 => ⟨h3, h4⟩)
  · simp only [ho', hw', if_true]
    exact .inl (h' w' h1 h2 _ fun a1 w1 h3 h4 => ⟨h3, h4⟩)
end
end Go.Proofs.YtpcajmkmmkmekaaGreatDoor

