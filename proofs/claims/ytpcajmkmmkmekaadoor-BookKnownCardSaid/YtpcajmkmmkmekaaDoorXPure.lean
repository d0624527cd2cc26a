/- Plain operations (moves, comparisons of numbers, picks, lengths) run as a function: for a region of many operations over a great frame. -/
import Derived.Test.YtpcajmkmmkmekaaDoorGc
import Derived.WalkKit
import Derived.Test.YtpcajmkmmkmekaaDoorGa
set_option linter.unusedVariables false
set_option linter.unusedSimpArgs false
namespace Go.Proofs.YtpcajmkmmkmekaaDoor
open Go Go.RowKit
set_option maxHeartbeats 2000000
/-- what a plain operation yields, as far as it is plain -/
def pv (ρ : Operand → Value) (o : Oper) : Option Value := match o.op with
  | .move x => some (ρ x)
  | .assign x => some (ρ x)
  | .pick c a b => match ρ c with
    | .bool true => some (ρ a)
    | .bool false => some (ρ b)
    | _ => none
  | .binOp .eql t x y _ => if t = 3 ∨ t = 29 then (match ρ x, ρ y with
    | .int .i64 m, .int .i64 n => some (.bool (m == n))
    | _, _ => none) else none
  | .call c => match c.callee, c.args.toList with
    | .builtin .len, [x] => (match ρ x with
      | .slice _ n _ => if c.argTypes = #[28] then some (.int .i64 n) else none
      | _ => none)
    | _, _ => none
  | _ => none
theorem pv_run {ρ : Operand → Value} {o : Oper} {v : Value} (h : pv ρ o = some v) (w : World) : (execOp ρ o).run Tryd.prog w = .ok (.value v) w := by
  unfold pv at h
  split at h
  · rename_i x ho
    simp only [Option.some.injEq] at h
    subst h
    simp [execOp, ho]
  · rename_i x ho
    simp only [Option.some.injEq] at h
    subst h
    simp [execOp, ho]
  · rename_i c a b ho
    split at h
    · rename_i hc
      simp only [Option.some.injEq] at h
      subst h
      simp [execOp, ho, hc, asBool]
    · rename_i hc
      simp only [Option.some.injEq] at h
      subst h
      simp [execOp, ho, hc, asBool]
    · cases h
  · rename_i t x y ti ho
    split at h
    · rename_i ht
      split at h
      · rename_i m n hx hy
        simp only [Option.some.injEq] at h
        subst h
        rcases ht with rfl | rfl
        · simp [execOp, ho, hx, hy, eqGuard, binOp, Op.equal, Op.maxDepth, go_sem]
        · simp [execOp, ho, hx, hy, eqGuard, binOp, Op.equal, Op.maxDepth, go_sem]
      · cases h
    · cases h
  · rename_i c ho
    obtain ⟨callee, args, argTypes⟩ := c
    simp only at h
    split at h
    · rename_i x hx0
      split at h
      · rename_i s n cp hx
        split at h
        · rename_i ht
          have ha : args = #[x] := by rw [← Array.toArray_toList (xs := args), hx0]
          simp only [Option.some.injEq] at h
          subst h ht ha
          simp [execOp, ho, hx, resolve, invoke, builtin, go_sem]
        · cases h
      · cases h
    · cases h
  · cases h
def pureRun (ops : Array Oper) : List Oper → Act → Option Act
  | [], a => some a
  | o :: rest, a => if Region.wanted o (yielded ops a.tmps) then (match pv a.eval o with | some v => pureRun ops rest (a.put o.dst v) | none => none) else pureRun ops rest (a.put o.dst undef)
theorem wpList_pure {ops : Array Oper} {Q : Exit → Act → World → Prop} {w : World} {l2 : List Oper} {a' : Act} : ∀ (l1 : List Oper) (a : Act), pureRun ops l1 a = some a' → wpList Tryd.prog ops Q l2 a' w → wpList Tryd.prog ops Q (l1 ++ l2) a w
  | [], a, h, h2 => by
    simp only [pureRun, Option.some.injEq] at h
    subst h
    exact h2
  | o :: l1, a, h, h2 => by
    unfold pureRun at h
    rw [List.cons_append]
    refine wpList_step fun K hK => ?_
    split at h
    · rename_i hw
      rw [if_pos hw]
      split at h
      · rename_i v hv
        unfold Oper.wp
        rw [pv_run hv]
        exact hK _ _ (wpList_pure l1 _ h h2)
      · cases h
    · rename_i hw
      rw [if_neg hw]
      exact hK _ _ (wpList_pure l1 _ h h2)
theorem wpList_pureN {ops : Array Oper} {Q : Exit → Act → World → Prop} {w : World} {l : List Oper} {a : Act} (k n : Nat) (h : (pureRun ops ((l.drop k).take n) a).isSome = true) (h2 : wpList Tryd.prog ops Q (l.drop (k + n)) ((pureRun ops ((l.drop k).take n) a).get h) w) : wpList Tryd.prog ops Q (l.drop k) a w := by
  have ha : pureRun ops ((l.drop k).take n) a = some ((pureRun ops ((l.drop k).take n) a).get h) := (Option.some_get h).symm
  have := wpList_pure (l2 := l.drop (k + n)) _ _ ha h2
  rwa [← List.drop_drop, List.take_append_drop] at this
theorem drop_cons {l : List Oper} {k : Nat} {o : Oper} (ho : l[k]? = some o) : l.drop k = o :: l.drop (k + 1) := by
  obtain ⟨hk, rfl⟩ := List.getElem?_eq_some_iff.1 ho
  exact List.drop_eq_getElem_cons hk
theorem wpList_runN {ops : Array Oper} {Q : Exit → Act → World → Prop} {w w' : World} {l : List Oper} {a : Act} {k : Nat} {o : Oper} {v : Value} (ho : l[k]? = some o) (hw : Region.wanted o (yielded ops a.tmps) = true)
    (hr : (execOp a.eval o).run Tryd.prog w = .ok (.value v) w') (h : wpList Tryd.prog ops Q (l.drop (k + 1)) (a.put o.dst v) w') : wpList Tryd.prog ops Q (l.drop k) a w := by
  rw [drop_cons ho]
  refine wpList_step fun K hK => ?_
  rw [if_pos hw]
  unfold Oper.wp
  rw [hr]
  exact hK _ _ h
theorem wpList_callN {ops : Array Oper} {Q : Exit → Act → World → Prop} {w : World} {l : List Oper} {a : Act} {k : Nat} {o : Oper} {f : FuncId} {args : Array Value} (ho : l[k]? = some o) (hw : Region.wanted o (yielded ops a.tmps) = true)
    (hr : (execOp a.eval o).run Tryd.prog w = .ok (.enter f args) w) (h : Calls Tryd.prog f args w fun e w' => ∃ v, e = .returned v ∧ wpList Tryd.prog ops Q (l.drop (k + 1)) (a.put o.dst v) w') : wpList Tryd.prog ops Q (l.drop k) a w := by
  rw [drop_cons ho]
  refine wpList_step fun K hK => ?_
  rw [if_pos hw]
  unfold Oper.wp
  rw [hr]
  refine Calls.mono h fun e w' he => ?_
  obtain ⟨v, rfl, hv⟩ := he
  exact hK _ _ hv
theorem wp_region_pure {id : Nat} {Q : Exit → Act → World → Prop} {a : Act} {w : World} {l : List Oper} (h : wpList Tryd.prog l.toArray Q (l.drop 0) a w) : (Code.region id l.toArray false).wp Tryd.prog Q a w := wp_region_lit h
end Go.Proofs.YtpcajmkmmkmekaaDoor
