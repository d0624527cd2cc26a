/- Plain operations run over what is known of a few slots: for a region of many operations over a great frame. The frame itself stays a name. -/
import Derived.Test.YtpcajmkmmkmekaaDoorXPure
set_option linter.unusedVariables false
set_option linter.unusedSimpArgs false
namespace Go.Proofs.YtpcajmkmmkmekaaDoor
open Go Go.RowKit
set_option maxHeartbeats 2000000
abbrev Env := List (Nat × Value)
def look : Env → Nat → Option Value
  | [], _ => none
  | (k, v) :: m, t => bif Nat.beq k t then some v else look m t
def Known (N : Nat) (a : Act) (m : Env) : Prop := (N ≤ a.tmps.size ∧ a.defers = []) ∧ ∀ t v, look m t = some v → a.tmps[t]? = some v
theorem Known.nil {N : Nat} {a : Act} (h : N ≤ a.tmps.size) (hd : a.defers = []) : Known N a [] := ⟨⟨h, hd⟩, fun t v h => by simp [look] at h⟩
theorem Known.cons {N : Nat} {a : Act} {m : Env} {t : Nat} {v : Value} (h : Known N a m) (ht : a.tmps[t]? = some v) : Known N a ((t, v) :: m) :=
  ⟨h.1, fun s u hs => by
    unfold look at hs
    cases hb : Nat.beq t s with
    | true =>
      rw [hb] at hs
      simp only [cond_true, Option.some.injEq] at hs
      have := Nat.eq_of_beq_eq_true hb
      subst this hs
      exact ht
    | false =>
      rw [hb] at hs
      exact h.2 s u hs⟩
theorem Known.less {N : Nat} {a : Act} {m m' : Env} (h : Known N a m) (hs : ∀ p ∈ m', look m p.1 = some p.2) : Known N a m' :=
  ⟨h.1, fun t v hv => by
    have key : ∀ m' : Env, (∀ p ∈ m', look m p.1 = some p.2) → look m' t = some v → look m t = some v := by
      intro m'
      induction m' with
      | nil => intro _ h; simp [look] at h
      | cons p m' ih =>
        intro hp hl
        obtain ⟨k, u⟩ := p
        unfold look at hl
        cases hb : Nat.beq k t with
        | true =>
          rw [hb] at hl
          simp only [cond_true, Option.some.injEq] at hl
          have := Nat.eq_of_beq_eq_true hb
          subst this hl
          exact hp (k, u) (by simp)
        | false =>
          rw [hb] at hl
          exact ih (fun p h => hp p (List.mem_cons_of_mem _ h)) hl
    exact h.2 t v (key m' hs hv)⟩
def ev (m : Env) : Operand → Option Value
  | .tmp t => look m t
  | .const v => some v
  | .global g => some (.pointer (some ⟨g, 0, none⟩))
  | .func f => some (.func (.func f) #[] #[])
theorem ev_is {N : Nat} {a : Act} {m : Env} (h : Known N a m) {x : Operand} {v : Value} (hx : ev m x = some v) : a.eval x = v := by
  cases x with
  | tmp t =>
    have := h.2 t v hx
    simp [Act.eval, Array.getD_eq_getD_getElem?, this]
  | const u => simpa [ev, Act.eval] using hx
  | global g => simpa [ev, Act.eval] using hx
  | func f => simpa [ev, Act.eval] using hx
def pve (m : Env) (o : Oper) : Option Value := match o.op with
  | .move x => ev m x
  | .assign x => ev m x
  | .pick c a b => match ev m c with
    | some (.bool true) => ev m a
    | some (.bool false) => ev m b
    | _ => none
  | .binOp .eql t x y _ => if t = 3 ∨ t = 29 then (match ev m x, ev m y with
    | some (.int .i64 p), some (.int .i64 q) => some (.bool (p == q))
    | _, _ => none) else none
  | .call c => match c.callee, c.args.toList with
    | .builtin .len, [x] => (match ev m x with
      | some (.slice _ n _) => if c.argTypes = #[28] then some (.int .i64 n) else none
      | _ => none)
    | _, _ => none
  | _ => none
theorem pve_is {N : Nat} {a : Act} {m : Env} (h : Known N a m) {o : Oper} {v : Value} (hv : pve m o = some v) : pv a.eval o = some v := by
  unfold pve at hv
  unfold pv
  split at hv
  · rename_i x ho
    simp only [ho, ev_is h hv]
  · rename_i x ho
    simp only [ho, ev_is h hv]
  · rename_i c x y ho
    split at hv
    · rename_i hc
      simp only [ho, ev_is h hc, ev_is h hv]
    · rename_i hc
      simp only [ho, ev_is h hc, ev_is h hv]
    · cases hv
  · rename_i t x y ti ho
    simp only [ho]
    split at hv
    · rename_i ht
      rw [if_pos ht]
      split at hv
      · rename_i p q hx hy
        simp only [ev_is h hx, ev_is h hy]
        exact hv
      · cases hv
    · cases hv
  · rename_i c ho
    simp only [ho]
    split at hv
    · rename_i x hc ha
      simp only [hc, ha]
      split at hv
      · rename_i n k hx
        simp only [ev_is h hx]
        exact hv
      · cases hv
    · cases hv
  · cases hv
def gd (ops : List Oper) (m : Env) (o : Oper) : Option Bool := match o.guard with
  | none => some true
  | some (j, want) => match ops[j]? with
    | some oj => (match oj.dst with
      | some d => (match look m d with
        | some (.bool b) => some (b == want)
        | _ => none)
      | none => none)
    | none => none
theorem gd_is {N : Nat} {a : Act} {m : Env} (h : Known N a m) {ops : List Oper} {o : Oper} {b : Bool} (hg : gd ops m o = some b) : Region.wanted o (yielded ops.toArray a.tmps) = b := by
  unfold gd at hg
  unfold Region.wanted
  split at hg
  · rename_i e
    rw [e]
    simpa using hg
  · rename_i j want e
    rw [e]
    split at hg
    · rename_i oj hj
      split at hg
      · rename_i d hd
        split at hg
        · rename_i b' hb
          have := h.2 d _ hb
          simp only [Option.some.injEq] at hg
          subst hg
          simp [yielded, hj, hd, this]
        · cases hg
      · cases hg
    · cases hg
def putE (N : Nat) (o : Oper) (v : Value) (m : Env) : Option Env := match o.dst with
  | some d => bif Nat.blt d N then some ((d, v) :: m) else none
  | none => some m
theorem look_put {N d : Nat} {a : Act} {m : Env} {v : Value} (h : Known N a m) (hd : d < N) : Known N (a.put (some d) v) ((d, v) :: m) :=
  ⟨by simpa [Act.put] using h.1, fun t u hu => by
    unfold look at hu
    have hs := h.1.1
    cases hb : Nat.beq d t with
    | true =>
      rw [hb] at hu
      simp only [cond_true, Option.some.injEq] at hu
      have := Nat.eq_of_beq_eq_true hb
      subst this hu
      simp only [Act.put]
      rw [Array.getElem?_setIfInBounds]
      simp
      omega
    | false =>
      rw [hb] at hu
      have hne : d ≠ t := Nat.ne_of_beq_eq_false hb
      have := h.2 t u hu
      simp only [Act.put]
      rw [Array.getElem?_setIfInBounds]
      rw [if_neg hne]
      exact this⟩
theorem put_is {N : Nat} {a : Act} {m m' : Env} {o : Oper} {v : Value} (h : Known N a m) (hp : putE N o v m = some m') : Known N (a.put o.dst v) m' := by
  unfold putE at hp
  split at hp
  · rename_i d hd
    cases hb : Nat.blt d N with
    | true =>
      rw [hb] at hp
      simp only [cond_true, Option.some.injEq] at hp
      subst hp
      rw [hd]
      exact look_put h (by simpa [Nat.blt_eq] using hb)
    | false =>
      rw [hb] at hp
      cases hp
  · rename_i hd
    simp only [Option.some.injEq] at hp
    subst hp
    rw [hd]
    exact h
def runE (N : Nat) (ops : List Oper) : List Oper → Env → Option Env
  | [], m => some m
  | o :: l, m => match gd ops m o with
    | some true => (match pve m o with
      | some v => (match putE N o v m with
        | some m' => runE N ops l m'
        | none => none)
      | none => none)
    | some false => (match putE N o undef m with
      | some m' => runE N ops l m'
      | none => none)
    | none => none
theorem wpList_env {N : Nat} {ops : List Oper} {Q : Exit → Act → World → Prop} {w : World} {l2 : List Oper} {m' : Env} : ∀ (l1 : List Oper) (a : Act) (m : Env), Known N a m → runE N ops l1 m = some m' → (∀ a', Known N a' m' → wpList Tryd.prog ops.toArray Q l2 a' w) → wpList Tryd.prog ops.toArray Q (l1 ++ l2) a w
  | [], a, m, h, hr, h2 => by
    simp only [runE, Option.some.injEq] at hr
    subst hr
    exact h2 a h
  | o :: l1, a, m, h, hr, h2 => by
    unfold runE at hr
    rw [List.cons_append]
    refine wpList_step fun K hK => ?_
    split at hr
    · rename_i hg
      rw [if_pos (gd_is h hg)]
      split at hr
      · rename_i v hv
        split at hr
        · rename_i m1 hm1
          unfold Oper.wp
          rw [pv_run (pve_is h hv)]
          exact hK _ _ (wpList_env l1 _ m1 (put_is h hm1) hr h2)
        · cases hr
      · cases hr
    · rename_i hg
      rw [if_neg (by rw [gd_is h hg]; simp)]
      split at hr
      · rename_i m1 hm1
        exact hK _ _ (wpList_env l1 _ m1 (put_is h hm1) hr h2)
      · cases hr
    · cases hr
/-- n operations from the k-th on, and what is kept of what is known -/
def keptE (ks : List Nat) (m : Option Env) : List (Option Value) := match m with | some m => ks.map (look m) | none => []
theorem wpList_envN {N : Nat} {ops : List Oper} {Q : Exit → Act → World → Prop} {w : World} {a : Act} {m : Env} (k n : Nat) (m' : Env) (h : Known N a m) (hr : keptE (m'.map Prod.fst) (runE N ops ((ops.drop k).take n) m) = m'.map fun p => some p.2) (hn : (runE N ops ((ops.drop k).take n) m).isSome = true)
    (h2 : ∀ a', Known N a' m' → wpList Tryd.prog ops.toArray Q (ops.drop (k + n)) a' w) : wpList Tryd.prog ops.toArray Q (ops.drop k) a w := by
  obtain ⟨m1, hm1⟩ := Option.isSome_iff_exists.1 hn
  rw [hm1] at hr
  have hl : ∀ p ∈ m', look m1 p.1 = some p.2 := by
    intro p hp
    obtain ⟨i, hi, rfl⟩ := List.getElem_of_mem hp
    have : (keptE (m'.map Prod.fst) (some m1))[i]? = (m'.map fun p => some p.2)[i]? := by rw [hr]
    simp only [keptE, List.getElem?_map, List.getElem?_eq_getElem hi, Option.map_some] at this
    simpa using this
  have := wpList_env (N := N) (ops := ops) (l2 := ops.drop (k + n)) _ a m h hm1 (fun a' ha => h2 a' (ha.less hl)) (Q := Q) (w := w)
  rwa [← List.drop_drop, List.take_append_drop] at this
def evD (m : Env) (x : Operand) : Value := (ev m x).getD undef
theorem exec_is {N : Nat} {a : Act} {m : Env} (h : Known N a m) {o : Oper} (hs : (match o.op with | .select .. => true | _ => false) = false) (hk : (o.op.operands.toList.all fun x => (ev m x).isSome) = true) : execOp a.eval o = execOp (evD m) o := by
  refine execOp_congr o (fun cs b e => by rw [e] at hs; cases hs) (fun x hx => ?_)
  obtain ⟨v, hv⟩ := Option.isSome_iff_exists.1 (List.all_eq_true.1 hk x (by simpa using hx))
  rw [ev_is h hv, evD, hv]
  rfl
theorem wpList_runE {N : Nat} {ops : List Oper} {Q : Exit → Act → World → Prop} {w : World} {a : Act} {m : Env} (k d : Nat) (v : Value) (w' : World) (o : Oper) (h : Known N a m) (ho : ops[k]? = some o) (hd : o.dst = some d) (hdN : d < N) (hw : gd ops m o = some true)
    (hs : (match o.op with | .select .. => true | _ => false) = false) (hk : (o.op.operands.toList.all fun x => (ev m x).isSome) = true) (hr : (execOp (evD m) o).run Tryd.prog w = .ok (.value v) w') (h2 : ∀ a', Known N a' ((d, v) :: m) → wpList Tryd.prog ops.toArray Q (ops.drop (k + 1)) a' w') : wpList Tryd.prog ops.toArray Q (ops.drop k) a w := by
  rw [drop_cons ho]
  refine wpList_step fun K hK => ?_
  rw [if_pos (gd_is h hw)]
  unfold Oper.wp
  rw [exec_is h hs hk, hr]
  refine hK _ _ (h2 _ ?_)
  rw [hd]
  exact look_put h hdN
theorem wpList_callE {N : Nat} {ops : List Oper} {Q : Exit → Act → World → Prop} {w : World} {a : Act} {m : Env} (k d : Nat) (f : FuncId) (args : Array Value) (o : Oper) (h : Known N a m) (ho : ops[k]? = some o) (hd : o.dst = some d) (hdN : d < N) (hw : gd ops m o = some true)
    (hs : (match o.op with | .select .. => true | _ => false) = false) (hk : (o.op.operands.toList.all fun x => (ev m x).isSome) = true) (hr : (execOp (evD m) o).run Tryd.prog w = .ok (.enter f args) w) (h2 : Calls Tryd.prog f args w fun e w' => ∃ v, e = .returned v ∧ ∀ a', Known N a' ((d, v) :: m) → wpList Tryd.prog ops.toArray Q (ops.drop (k + 1)) a' w') : wpList Tryd.prog ops.toArray Q (ops.drop k) a w := by
  rw [drop_cons ho]
  refine wpList_step fun K hK => ?_
  rw [if_pos (gd_is h hw)]
  unfold Oper.wp
  rw [exec_is h hs hk, hr]
  refine Calls.mono h2 fun e w' he => ?_
  obtain ⟨v, rfl, hv⟩ := he
  refine hK _ _ (hv _ ?_)
  rw [hd]
  exact look_put h hdN
theorem wp_region_env {id : Nat} {Q : Exit → Act → World → Prop} {a : Act} {w : World} {l : List Oper} (h : wpList Tryd.prog l.toArray Q (l.drop 0) a w) : (Code.region id l.toArray false).wp Tryd.prog Q a w := wp_region_lit h
end Go.Proofs.YtpcajmkmmkmekaaDoor
