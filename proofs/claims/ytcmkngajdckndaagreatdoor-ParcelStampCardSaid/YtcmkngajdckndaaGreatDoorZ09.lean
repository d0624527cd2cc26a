/- A machine that the kernel runs: what it answers, the program answers. Conditions: none. -/
import Derived.Test.YtcmkngajdckndaaGreatDoorZ08
import Derived.RangeFuncLeaves
import Derived.Tactics2
import Derived.Laws.Sem
import Derived.Laws.Entries
import Derived.Laws.CopyRow
import Derived.RangeFuncRecord
import Derived.LoopNIn
import Derived.Scope
import Derived.TacticsIn
import Derived.RangeFuncIn
import Derived.RangeFuncNested
import Derived.OrdersIn
import Derived.Below
set_option linter.unusedVariables false
set_option linter.unusedSimpArgs false
noncomputable section
set_option linter.unusedVariables false
set_option linter.unusedSimpArgs false
namespace Go
namespace Vm
variable {P : Program}
theorem VR.undef (R : Ren) : VR R undef undef := .tuple rfl (fun i x x' h => by simp at h)
inductive DR (n0 : Nat) (R : Ren) : List Nat → List Deferred → Prop where
  | nil : DR n0 R [] []
  | cons {d b : Nat} {D : List Nat} {ds : List Deferred} (h : R.blk d = some b) (hn : n0 ≤ d) (t : DR n0 R D ds) : DR n0 R (d :: D) ({ target := .collected b, args := #[] } :: ds)
theorem DR.mono {n0 : Nat} {R S : Ren} (h : R.le S) {D : List Nat} {ds : List Deferred} (k : DR n0 R D ds) : DR n0 S D ds := by
  induction k with
  | nil => exact .nil
  | cons hb hn _ ih => exact .cons (h _ _ hb).1 hn ih
structure Base where
  R : Ren
  h : Hp
  nx : Nat
  w : World
structure Base.Ok (B : Base) : Prop where
  hr : HR B.R B.h B.w
  dom : Dom B.R B.nx
  gl : ∀ g, g < NG → B.R.blk g = some g
def RdOk (R : Ren) (F : Fence) (rd : Option Nat) : Prop := match rd with | none => F.round = none | some l => ∃ b, F.round = some b ∧ R.blk l = some b
theorem RdOk.mono {R S : Ren} (h : R.le S) {F : Fence} {rd : Option Nat} (k : RdOk R F rd) : RdOk S F rd := by
  cases rd with
  | none => exact k
  | some l => obtain ⟨b, h1, h2⟩ := k; exact ⟨b, h1, (h _ _ h2).1⟩
structure St (B : Base) (F : Fence) (nv n : Nat) (R : Ren) (z : Z) (vs : Vs) (ts : Ts) (h : Hp) (nx : Nat) (a : Act) (w : World) : Prop where
  n0 : z.n0 = B.nx
  ext : Ext B.R R B.h h B.nx nx z.log B.w w
  fr : FrOk (fun _ => True) R nv n vs ts a.tmps
  dfr : DR B.nx R z.D a.defers
  rd : RdOk R F z.rd
section
variable {B : Base} {F : Fence} {nv n : Nat}
theorem St.hr (hB : B.Ok) {R z vs ts h nx a w} (s : St B F nv n R z vs ts h nx a w) : HR R h w := s.ext.hr hB.dom hB.hr
theorem St.dom (hB : B.Ok) {R z vs ts h nx a w} (s : St B F nv n R z vs ts h nx a w) : Dom R nx := s.ext.domNew hB.dom
theorem FrOk.mono {S : Nat → Prop} {R R' : Ren} (hle : R.le R') {vs : Vs} {ts : Ts} {tm : Array Value} (h : FrOk S R nv n vs ts tm) : FrOk S R' nv n vs ts tm :=
  ⟨h.size, h.nvle, fun t v a b c => let ⟨v', x, y⟩ := h.var t v a b c; ⟨v', x, y.mono hle⟩, fun t v a b c => let ⟨v', x, y⟩ := h.tmp t v a b c; ⟨v', x, y.mono hle⟩,
    fun g hg => (hle _ _ (h.glob g hg)).1⟩
theorem FrOk.nots {S : Nat → Prop} {R : Ren} {vs : Vs} {ts : Ts} {tm : Array Value} (h : FrOk S R nv n vs ts tm) : FrOk S R nv n vs [] tm :=
  ⟨h.size, h.nvle, h.var, fun t v _ _ c => (by cases c), h.glob⟩
theorem St.nots {R z vs ts h nx a w} (s : St B F nv n R z vs ts h nx a w) : St B F nv n R z vs [] h nx a w := ⟨s.n0, s.ext, s.fr.nots, s.dfr, s.rd⟩
def Good (B : Base) (F : Fence) (nv n : Nat) (Q : Exit → Act → World → Prop) : R → Prop
  | .nor z vs h nx => ∀ R a w, St B F nv n R z vs [] h nx a w → Q .normal a w
  | .exi id z vs h nx => ∀ R a w, St B F nv n R z vs [] h nx a w → Q (.exit id) a w
  | .ret z vs h nx => ∀ R a w, St B F nv n R z vs [] h nx a w → Q .ret a w
  | _ => False
def KS (B : Base) (F : Fence) (nv n : Nat) (ih : Rec) (k : K) (KQ : Act → World → Prop) (Q : Exit → Act → World → Prop) : Prop :=
  ∀ R z vs ts h nx a w, St B F nv n R z vs ts h nx a w → Good B F nv n Q (k ih z vs ts h nx) → KQ a w
theorem ks_nor (ih : Rec) (Q : Exit → Act → World → Prop) : KS B F nv n ih kNor (Q .normal) Q := fun R z vs ts h nx a w s g => g R a w s.nots
theorem dDst_cases {dst : Option Nat} {d : Dst} (h : dDst nv n dst = some d) : (dst = none ∧ d = .no) ∨ ∃ t, dst = some t ∧ t < n ∧ ((nv ≤ t ∧ d = .tmp t) ∨ (t < nv ∧ ∃ s, d = .var s ∧ ∀ v vs, s v vs = Lv.set VD t v vs)) := by
  unfold dDst at h
  cases dst with
  | none => cases h; exact .inl ⟨rfl, rfl⟩
  | some t =>
    simp only [blt_eq] at h
    by_cases h1 : t < n
    · simp only [h1, decide_true] at h
      by_cases h2 : t < nv
      · simp only [h2, decide_true] at h
        obtain ⟨s, hs, hp⟩ := mkSet_eq (α := Value) VD t
        rw [hs] at h
        cases h
        exact .inr ⟨t, rfl, h1, .inr ⟨h2, s, rfl, hp⟩⟩
      · simp only [h2, decide_false] at h
        cases h
        exact .inr ⟨t, rfl, h1, .inl ⟨by omega, rfl⟩⟩
    · simp only [h1, decide_false] at h
      cases h
theorem put_ok {S : Nat → Prop} {dst : Option Nat} {d : Dst} (hd : dDst nv n dst = some d) {R : Ren} {vs : Vs} {ts : Ts} {a : Act} (hF : FrOk S R nv n vs ts a.tmps) {v v' : Value} (hv : VR R v v') :
    (∃ vs' ts', (∀ k ih z h nx, putK d v k ih z vs ts h nx = k ih z vs' ts' h nx) ∧ FrOk S R nv n vs' ts' (a.put dst v').tmps) ∧ (a.put dst v').defers = a.defers := by
  rcases dDst_cases hd with ⟨rfl, rfl⟩ | ⟨t, rfl, ht, ⟨h2, rfl⟩ | ⟨h2, s, rfl, hs⟩⟩
  · exact ⟨⟨vs, ts, fun _ _ _ _ _ => rfl, hF⟩, rfl⟩
  · refine ⟨⟨vs, (t, v) :: ts, fun _ _ _ _ _ => rfl, ⟨by simp [Act.put, hF.size], hF.nvle, fun u x hu hn hx => ?_, fun u x hu hn hx => ?_, hF.glob⟩⟩, rfl⟩
    · obtain ⟨x', h1, h3⟩ := hF.var u x hu hn hx
      exact ⟨x', by simp only [Act.put]; rw [Array.getElem?_setIfInBounds_ne (by omega)]; exact h1, h3⟩
    · rw [find_cons] at hx
      by_cases e : t = u
      · subst e
        simp only [if_true] at hx
        cases hx
        exact ⟨v', by simp [Act.put, hF.size, ht], hv⟩
      · simp only [e, if_false] at hx
        obtain ⟨x', h1, h3⟩ := hF.tmp u x hu hn hx
        exact ⟨x', by simp only [Act.put]; rw [Array.getElem?_setIfInBounds_ne e]; exact h1, h3⟩
  · refine ⟨⟨s v vs, ts, fun _ _ _ _ _ => rfl, ⟨by simp [Act.put, hF.size], hF.nvle, fun u x hu hn hx => ?_, fun u x hu hn hx => ?_, hF.glob⟩⟩, rfl⟩
    · have := hF.nvle
      have hvd : (2 : Nat) ^ VD = 64 := rfl
      rw [hs, Lv.get_set VD t u v vs (by omega) (by omega)] at hx
      by_cases e : u = t
      · subst e
        simp only [if_true] at hx
        cases hx
        exact ⟨v', by simp [Act.put, hF.size, ht], hv⟩
      · simp only [e, if_false] at hx
        obtain ⟨x', h1, h3⟩ := hF.var u x hu hn hx
        exact ⟨x', by simp only [Act.put]; rw [Array.getElem?_setIfInBounds_ne (fun q => e q.symm)]; exact h1, h3⟩
    · obtain ⟨x', h1, h3⟩ := hF.tmp u x hu hn hx
      exact ⟨x', by simp only [Act.put]; rw [Array.getElem?_setIfInBounds_ne (by omega)]; exact h1, h3⟩
theorem St.put {R z vs ts h nx a w} (s : St B F nv n R z vs ts h nx a w) {dst : Option Nat} {d : Dst} (hd : dDst nv n dst = some d) {v v' : Value} (hv : VR R v v') :
    ∃ vs' ts', (∀ k ih z h nx, putK d v k ih z vs ts h nx = k ih z vs' ts' h nx) ∧ St B F nv n R z vs' ts' h nx (a.put dst v') w := by
  obtain ⟨⟨vs', ts', h1, h2⟩, h3⟩ := put_ok hd s.fr hv
  exact ⟨vs', ts', h1, s.n0, s.ext, h2, by rw [h3]; exact s.dfr, s.rd⟩
theorem St.step (hB : B.Ok) {R R' z vs ts h h' nx nx' a w w' M} (s : St B F nv n R z vs ts h nx a w) (e : Ext R R' h h' nx nx' M w w') : St B F nv n R' (logZ z M) vs ts h' nx' a w' :=
  ⟨s.n0, by have := s.ext.trans e hB.dom hB.hr; rw [← s.n0] at this; simpa [logZ, s.n0] using this, s.fr.mono e.le, s.dfr.mono e.le, s.rd.mono e.le⟩
theorem St.step0 (hB : B.Ok) {R R' z vs ts h h' nx nx' a w w'} (s : St B F nv n R z vs ts h nx a w) (e : Ext R R' h h' nx nx' [] w w') : St B F nv n R' z vs ts h' nx' a w' := s.step hB e
theorem KS.put {ih : Rec} {k : K} {KQ Q} (hk : KS B F nv n ih k KQ Q) {R z vs ts h nx a w} (s : St B F nv n R z vs ts h nx a w) {dst : Option Nat} {d : Dst} (hd : dDst nv n dst = some d) {v v' : Value} (hv : VR R v v')
    (g : Good B F nv n Q (putK d v k ih z vs ts h nx)) : KQ (a.put dst v') w := by
  obtain ⟨vs', ts', h1, h2⟩ := s.put hd hv
  rw [h1] at g
  exact hk _ _ _ _ _ _ _ _ h2 g
def GeI (P : Program) (nv : Nat) (o : Oper) (f : OpF) (ih : Rec) : Prop :=
  ∀ {S : Nat → Prop} {R : Ren} {n : Nat} {vs : Vs} {ts : Ts} {a : Act} {h : Hp} {nx : Nat} {w : World} {F : Fence}, FrOk S R nv n vs ts a.tmps → Uses o S → Dom R nx → (∀ r b, R.blk r = some b → b < w.heap.size) → Wd F →
    OutPre R h w (f ih vs ts h nx) → OutGoal P F R h nx w a o (f ih vs ts h nx)
theorem outPre_hr {R : Ren} {h : Hp} {w : World} (hh : HR R h w) (o : Out) : OutPre R h w o := by
  cases o <;> first | trivial | exact hh.at _ | exact hh
def AllGe (P : Program) (ih : Rec) : Prop := ∀ nv o f, dOp P nv o.op = .ge f → GeI P nv o f ih
theorem no_defer {o : Oper} (h : dOp P nv o.op ≠ .bad) : ∀ c, o.op ≠ .defer c := fun c hc => h (by rw [hc]; rfl)
theorem stepW_ok (hB : B.Ok) (hF : Wd F) {ih : Rec} (hge : AllGe P ih) {o : Oper} {d : Dst} (hd : dDst nv n o.dst = some d) {k s : K} (h : stepW d (dOp P nv o.op) k = .mk s) {KQ : Act → World → Prop} {Q Q' : Exit → Act → World → Prop}
    (hk : KS B F nv n ih k KQ Q) : KS B F nv n ih s (fun a w => o.wpIn F 0 P a w KQ Q') Q := by
  intro R z vs ts hp nx a w st g
  have hnd : ∀ c, o.op ≠ .defer c := no_defer (nv := nv) (P := P) (fun e => by rw [e] at h; unfold stepW at h; cases h)
  cases ho : dOp P nv o.op with
  | bad => rw [ho] at h; cases d <;> cases h
  | pv f =>
    rw [ho] at h
    have hpv : PvOk P nv o f := dOp_pv ho
    have fin : ∀ v, f vs ts = some v → Good B F nv n Q (putK d v k ih z vs ts hp nx) → o.wpIn F 0 P a w KQ Q' := fun v hv hg => by
      obtain ⟨v', h1, h2⟩ := hpv (a := a) st.fr (fun _ _ => trivial) hv
      exact wpIn_val hF hnd (h2 w) (hk.put st hd h1 hg)
    cases d with
    | no => cases h
    | var s' =>
      cases h
      unfold vVar at g
      split at g
      · rename_i v hv
        rw [forceLv_eq] at g
        exact fin v hv g
      · exact g.elim
    | tmp t =>
      cases h
      unfold vTmp at g
      split at g
      · rename_i v hv
        exact fin v hv g
      · exact g.elim
  | ld f =>
    rw [ho] at h
    have hpv : LdOk P nv o f := dOp_ld ho
    have fin : ∀ v r, f vs ts hp = .v v r → Good B F nv n Q (putK d v k ih z vs ts hp nx) → o.wpIn F 0 P a w KQ Q' := fun v r hv hg => by
      obtain ⟨v', h1, h2⟩ := hpv (a := a) st.fr (fun _ _ => trivial) hv ((st.hr hB).at r)
      exact wpIn_val hF hnd h2 (hk.put st hd h1 hg)
    cases d with
    | no => cases h
    | var s' =>
      cases h
      unfold lVar at g
      split at g
      · rename_i v r hv
        rw [forceLv_eq] at g
        exact fin v r hv g
      · exact g.elim
    | tmp t =>
      cases h
      unfold lTmp at g
      split at g
      · rename_i v r hv
        exact fin v r hv g
      · exact g.elim
  | ge f =>
    rw [ho] at h
    have hs : s = gAny d f k := by cases d <;> (cases h; rfl)
    subst hs
    have hg := hge nv o f ho (a := a) (F := F) st.fr (fun _ _ => trivial) (st.dom hB) (st.hr hB).bnd hF (outPre_hr (st.hr hB) _)
    unfold gAny at g
    cases hout : f ih vs ts hp nx with
    | bad => rw [hout] at g; exact g.elim
    | pur v => rw [hout] at hg; exact hg.elim
    | rd v r => rw [hout] at hg; exact hg.elim
    | new v h' nx' =>
      rw [hout] at hg g
      simp only [outK, forceLv_eq] at g
      exact hg KQ Q' fun R' v' w' e hv => hk.put (st.step0 hB e) hd hv g
    | wr h' r =>
      rw [hout] at hg g
      simp only [outK, forceLv_eq] at g
      exact hg KQ Q' fun w' e => hk.put (st.step hB e) hd (VR.undef _) g
    | gen v h' nx' M =>
      rw [hout] at hg g
      cases M with
      | nil =>
        simp only [outK] at g
        exact hg KQ Q' fun R' v' w' e hv => hk.put (st.step0 hB e) hd hv g
      | cons r M =>
        simp only [outK, forceLv_eq] at g
        exact hg KQ Q' fun R' v' w' e hv => hk.put (st.step hB e) hd hv g
end
end Vm
end Go
namespace Go
namespace Vm
variable {P : Program}
section
variable {B : Base} {F : Fence} {nv n : Nat}
theorem opAt_eq : ∀ (l : List Oper) (i : Nat), opAt l i = l[i]? := by
  intro l
  induction l with
  | nil => intro i; rfl
  | cons o l ih =>
    intro i
    cases i with
    | zero => rfl
    | succ i => exact (ih i).trans (by simp)
theorem dX_tmp {t : Nat} {x : OpV} (h : dX nv (.tmp t) = .mk x) {R : Ren} {vs : Vs} {ts : Ts} {tm : Array Value} {v : Value} (hF : FrOk (fun _ => True) R nv n vs ts tm) (hv : x vs ts = some v) :
    ∃ v', tm[t]? = some v' ∧ VR R v v' := by
  unfold dX at h
  simp only [blt_eq] at h
  by_cases ht : t < nv
  · simp only [ht, decide_true] at h
    unfold dVar at h
    obtain ⟨g, hg, hp⟩ := mkGet_eq (α := Value) VD t
    rw [hg] at h
    cases h
    exact hF.var t v trivial ht (by rw [← hp]; exact hv)
  · simp only [ht, decide_false] at h
    cases h
    exact hF.tmp t v trivial (Nat.le_of_not_lt ht) hv
theorem withG_ok (hF : Wd F) {ih : Rec} {ops : Array Oper} {o : Oper} {d : Dst} (hd : dDst nv n o.dst = some d) {k s f : K} (h : withG nv ops.toList o d k s = .mk f) {KQ : Act → World → Prop} {Q : Exit → Act → World → Prop} {X : Act → World → Prop}
    (hk : KS B F nv n ih k KQ Q) (hs : KS B F nv n ih s X Q) :
    KS B F nv n ih f (fun a w => if Region.wanted o (yielded ops a.tmps) then X a w else (∀ f, o.about P w a.eval = some f → F.fn f) ∧ KQ (a.put o.dst undef) w) Q := by
  intro R z vs ts hp nx a w st g
  unfold withG at h
  unfold Region.wanted
  cases hg : o.guard with
  | none =>
    rw [hg] at h
    cases h
    simp only [if_true]
    exact hs _ _ _ _ _ _ _ _ st g
  | some jb =>
    obtain ⟨j, b⟩ := jb
    rw [hg] at h
    simp only at h ⊢
    unfold gdX at h
    rw [opAt_eq] at h
    split at h
    · rename_i x hx
      cases h
      split at hx
      · rename_i g' hg'
        split at hx
        · rename_i t ht
          have hx' : dX nv (.tmp t) = .mk x := by injection hx
          have hget : ops[j]? = some g' := by rw [← Array.getElem?_toList]; exact hg'
          unfold gd at g
          have sk : Good B F nv n Q (putK d undef k ih z vs ts hp nx) → yielded ops a.tmps j ≠ some b →
              (if (yielded ops a.tmps j == some b) = true then X a w else (∀ f, o.about P w a.eval = some f → F.fn f) ∧ KQ (a.put o.dst undef) w) := fun hgood hy => by
            rw [if_neg (by simpa using hy)]
            exact ⟨fun f _ => hF.1 f, hk.put st hd (VR.undef R) hgood⟩
          split at g
          · rename_i y hy
            obtain ⟨v', h1, h2⟩ := dX_tmp hx' st.fr hy
            cases h2
            have hyl : yielded ops a.tmps j = some y := by simp [yielded, hget, ht, h1]
            by_cases e : y = b
            · subst e
              rw [if_pos (by rw [hyl]; simp)]
              simp only [beq_self_eq_true] at g
              exact hs _ _ _ _ _ _ _ _ st g
            · have e2 : (y == b) = false := by simpa using e
              rw [e2] at g
              exact sk g (by rw [hyl]; simpa using e)
          · rename_i v hne hv
            obtain ⟨v', h1, h2⟩ := dX_tmp hx' st.fr hv
            refine sk g ?_
            intro hy
            simp only [yielded, hget, Option.bind_some, ht, h1] at hy
            split at hy
            · rename_i hb; cases hb
              cases h2
              exact hne _ rfl
            · cases hy
          · exact g.elim
        · cases hx
      · cases hx
    · cases h
theorem dOps_ok (hB : B.Ok) (hF : Wd F) {ih : Rec} (hge : AllGe P ih) {ops : Array Oper} {k : K} {Q Q' : Exit → Act → World → Prop} (hk : KS B F nv n ih k (Q' .normal) Q) :
    ∀ (l : List Oper) {f : K}, dOps P nv n ops.toList k l = .mk f → KS B F nv n ih f (wpListIn F 0 P ops Q' l) Q := by
  intro l
  induction l with
  | nil => intro f h; cases h; exact hk
  | cons o l ihl =>
    intro f h
    have e : dOps P nv n ops.toList k (o :: l) = match dOps P nv n ops.toList k l, dDst nv n o.dst with
      | .mk k, some d => dOne P nv ops.toList o d k
      | _, _ => .bad := rfl
    rw [e] at h
    split at h
    · rename_i k' d hk' hd
      unfold dOne at h
      split at h
      · rename_i s hs
        exact withG_ok hF hd h (ihl hk') (stepW_ok hB hF hge hd hs (ihl hk'))
      · cases h
    · cases h
theorem ks_reg {ih : Rec} {k : K} {KQ Q} (h : KS B F nv n ih k KQ Q) : KS B F nv n ih (kReg k) KQ Q := fun R z vs ts hp nx a w st g => h _ _ _ _ _ _ _ _ st.nots g
theorem then_then {X Y : Act → World → Prop} {Q : Exit → Act → World → Prop} {e : Exit} {a : Act} {w : World} (h : Exit.then X Q e a w) : Exit.then X (Exit.then Y Q) e a w := by
  cases e <;> exact h
theorem wpIn_scope {c : Code} {Q : Exit → Act → World → Prop} {a : Act} {w : World} (h : c.wpIn F 0 P (Exit.noGoto Q) a w) : (Code.scope c).wpIn F 0 P Q a w := by
  intro b k cs hro hb hr
  have st : step P (lone (b.atR a (.code (.scope c) :: k)) cs w) = .next (lone (b.atR a (.code c :: .inScope c :: k)) cs w) := step_lone_go (by simp [stepG, stepG.exec, Frame.atR])
  have st2 : ∀ a₁ w₁, step P (lone (b.atR a₁ (.inScope c :: k)) cs w₁) = .next (lone (b.atR a₁ k) cs w₁) := fun a₁ w₁ => step_lone_go (by simp [stepG, stepG.exec, Frame.atR])
  have h0 : (lone (b.atR a (.code (.scope c) :: k)) cs w).fenced P F := fenced_calm hb hr rfl
  obtain ⟨e, a₁, w₁, hq, harr⟩ := h b (.inScope c :: k) cs hro hb hr
  cases e with
  | normal => exact ⟨.normal, a₁, w₁, hq, .head h0 st (StepsIn.trans harr (.one (fenced_calm hb hr rfl) (st2 _ _)))⟩
  | exit id =>
    have hx : exitTo id (.inScope c :: k) = exitTo id k := by simp [exitTo]
    exact ⟨.exit id, a₁, w₁, hq, fun k' hk => .head h0 st (harr.1 k' (by rw [hx]; exact hk)), fun hr' hk => let ⟨k₁, h1, h2⟩ := harr.2 hr' (by rw [hx]; exact hk); ⟨k₁, h1, .head h0 st h2⟩⟩
  | goto l => exact hq.elim
  | ret => exact ⟨_, a₁, w₁, hq, .of_steps (.one h0 st) harr⟩
  | panic ch => exact ⟨_, a₁, w₁, hq, .of_steps (.one h0 st) harr⟩
  | outgrown => exact ⟨_, a₁, w₁, hq, .of_steps (.one h0 st) harr⟩
theorem wpIn_ext {c : Code} {Q Q' : Exit → Act → World → Prop} {a : Act} {w : World} (h : c.wpIn F 0 P Q a w) (hq : ∀ e a w, Q e a w → Q' e a w) : c.wpIn F 0 P Q' a w := Code.wpIn_mono hq h
theorem Good.mono {Q Q' : Exit → Act → World → Prop} {r : R} (h : Good B F nv n Q r) (hn : ∀ a w, Q .normal a w → Q' .normal a w) (he : ∀ i a w, Q (.exit i) a w → Q' (.exit i) a w) (hr : ∀ a w, Q .ret a w → Q' .ret a w) : Good B F nv n Q' r := by
  cases r with
  | no => exact h
  | nor z vs hp nx => exact fun R a w s => hn a w (h R a w s)
  | exi id z vs hp nx => exact fun R a w s => he id a w (h R a w s)
  | ret z vs hp nx => exact fun R a w s => hr a w (h R a w s)
  | val v hp nx M => exact h
def CodeOk (P : Program) (B : Base) (F : Fence) (nv n : Nat) (ih : Rec) (c : Code) : Prop :=
  ∀ {k f : K} {KQ : Act → World → Prop} {Q : Exit → Act → World → Prop}, dCode P nv n c k = .mk f → KS B F nv n ih k KQ Q → KS B F nv n ih f (fun a w => c.wpIn F 0 P (Exit.then KQ Q) a w) Q
theorem code_region_plain (hB : B.Ok) (hF : Wd F) {ih : Rec} (hge : AllGe P ih) (id : Nat) (ops : Array Oper) : CodeOk P B F nv n ih (.region id ops false) := by
  intro k f KQ Q h hk
  have e : dCode P nv n (.region id ops false) k = w1 kReg (dOps P nv n ops.toList k ops.toList) := rfl
  rw [e] at h
  unfold w1 at h
  split at h
  · rename_i g hg
    cases h
    intro R z vs ts hp nx a w st gd
    exact wpIn_region_list (ks_reg (dOps_ok (Q' := Exit.then KQ Q) hB hF hge hk ops.toList hg) _ _ _ _ _ _ _ _ st gd)
  · cases h
theorem code_seq {ih : Rec} {x y : Code} (hx : CodeOk P B F nv n ih x) (hy : CodeOk P B F nv n ih y) : CodeOk P B F nv n ih (.seq x y) := by
  intro k f KQ Q h hk
  have e : dCode P nv n (.seq x y) k = bindW (dCode P nv n y k) (dCode P nv n x) := rfl
  rw [e] at h
  unfold bindW at h
  split at h
  · rename_i g hg
    intro R z vs ts hp nx a w st gd
    exact wpIn_seq (wpIn_ext (hx h (hy hg hk) _ _ _ _ _ _ _ _ st gd) fun e a w q => then_then q)
  · cases h
theorem code_cond {ih : Rec} {c : Operand} {x y : Code} (hx : CodeOk P B F nv n ih x) (hy : CodeOk P B F nv n ih y) : CodeOk P B F nv n ih (.cond c x y) := by
  intro k f KQ Q h hk
  obtain ⟨g, hg⟩ := dX_some nv c
  have e : dCode P nv n (.cond c x y) k = match dX nv c with | .mk f => w2 (kCond f) (dCode P nv n x k) (dCode P nv n y k) := rfl
  rw [e, hg] at h
  simp only [w2] at h
  split at h
  · rename_i f1 f2 h1 h2
    cases h
    intro R z vs ts hp nx a w st gd
    unfold kCond at gd
    split at gd
    · rename_i t ht
      have hv := dX_ok (a := a) hg st.fr (fun _ _ => trivial) ht
      have hev : a.eval c = .bool t := by generalize a.eval c = q at hv; cases hv; rfl
      refine wpIn_cond hev ?_
      cases t with
      | true => exact hx h1 hk _ _ _ _ _ _ _ _ st gd
      | false => exact hy h2 hk _ _ _ _ _ _ _ _ st gd
    · exact gd.elim
  · cases h
theorem code_block {ih : Rec} {id : Nat} {x : Code} (hx : CodeOk P B F nv n ih x) : CodeOk P B F nv n ih (.block id x) := by
  intro k f KQ Q h hk
  have e : dCode P nv n (.block id x) k = w1 (fun f => kBlock id f k) (dCode P nv n x kNor) := rfl
  rw [e] at h
  unfold w1 at h
  split at h
  · rename_i g hg
    cases h
    intro R z vs ts hp nx a w st gd
    refine wpIn_block ?_
    have key := hx (Q := Exit.inBlock id (Exit.then KQ Q)) hg (ks_nor ih _) R z vs ts hp nx a w st ?_
    · exact wpIn_ext key fun e a w q => by cases e <;> exact q
    · unfold kBlock at gd
      dsimp only at gd
      cases hr : g ih z vs ts hp nx with
      | no => rw [hr] at gd; exact gd
      | val v h1 n1 M => rw [hr] at gd; exact gd
      | nor z1 vs1 h1 n1 => rw [hr] at gd; exact fun R' a' w' s' => hk _ _ _ _ _ _ _ _ s' gd
      | ret z1 vs1 h1 n1 => rw [hr] at gd; exact gd
      | exi j z1 vs1 h1 n1 =>
        rw [hr] at gd
        intro R' a' w' s'
        by_cases e : j = id
        · subst e
          simp only [Nat.beq_refl] at gd
          simp only [Exit.inBlock, if_true]
          exact hk _ _ _ _ _ _ _ _ s' gd
        · have e2 : Nat.beq j id = false := by cases hq : Nat.beq j id with | false => rfl | true => exact absurd (Nat.eq_of_beq_eq_true hq) e
          simp only [e2] at gd
          simp only [Exit.inBlock, e, if_false]
          exact gd R' a' w' s'
  · cases h
theorem code_loop {ih : Rec} {x : Code} (hx : CodeOk P B F nv n ih x) : CodeOk P B F nv n ih (.loop x) := by
  intro k f KQ Q h hk
  have e : dCode P nv n (.loop x) k = w1 kLoop (dCode P nv n x kNor) := rfl
  rw [e] at h
  unfold w1 at h
  split at h
  · rename_i g hg
    cases h
    have key : ∀ (i m : Nat) (R : Ren) z vs hp nx a w, St B F nv n R z vs [] hp nx a w →
        Good B F nv n (fun e a w => match e with | .normal => Code.roundsIn F 0 P x (Exit.then KQ Q) m a w | e => Exit.then KQ Q e a w) (rounds g i ih z vs hp nx) → Code.roundsIn F 0 P x (Exit.then KQ Q) (m + 2 ^ i) a w := by
      intro i
      induction i with
      | zero =>
        intro m R z vs hp nx a w st gd
        show Code.wpIn F 0 P x _ a w
        refine wpIn_ext (hx hg (ks_nor ih _) R z vs [] hp nx a w st gd) fun e a w q => ?_
        cases e <;> exact q
      | succ i ihi =>
        intro m R z vs hp nx a w st gd
        have e2 : rounds g (i + 1) ih z vs hp nx = match rounds g i ih z vs hp nx with
          | .nor z vs h nx => rounds g i ih z vs h nx
          | r => r := rfl
        rw [e2] at gd
        have e3 : m + 2 ^ (i + 1) = (m + 2 ^ i) + 2 ^ i := by rw [Nat.pow_succ]; omega
        rw [e3]
        refine ihi (m + 2 ^ i) R z vs hp nx a w st ?_
        cases hr : rounds g i ih z vs hp nx with
        | no => rw [hr] at gd; exact gd
        | val v h1 n1 M => rw [hr] at gd; exact gd
        | nor z1 vs1 h1 n1 => rw [hr] at gd; exact fun R' a' w' s' => ihi m _ _ _ _ _ _ _ s' gd
        | ret z1 vs1 h1 n1 => rw [hr] at gd; exact gd
        | exi j z1 vs1 h1 n1 => rw [hr] at gd; exact gd
    intro R z vs ts hp nx a w st gd
    refine wpIn_loop_rounds (0 + 2 ^ 10) (key 10 0 R z vs hp nx a w st.nots ?_)
    unfold kLoop at gd
    cases hr : rounds g 10 ih z vs hp nx with
    | no => rw [hr] at gd; exact gd
    | val v h1 n1 M => rw [hr] at gd; exact gd
    | nor z1 vs1 h1 n1 => rw [hr] at gd; exact gd.elim
    | ret z1 vs1 h1 n1 => rw [hr] at gd; exact gd
    | exi j z1 vs1 h1 n1 => rw [hr] at gd; exact gd
  · cases h
theorem code_exit {ih : Rec} (id : Nat) : CodeOk P B F nv n ih (.exit id) := by
  intro k f KQ Q h hk
  cases h
  intro R z vs ts hp nx a w st gd
  exact wpIn_exit (gd R a w st.nots)
theorem code_ret {ih : Rec} : CodeOk P B F nv n ih .ret := by
  intro k f KQ Q h hk
  cases h
  intro R z vs ts hp nx a w st gd
  exact wpIn_ret (gd R a w st.nots)
theorem code_skip {ih : Rec} : CodeOk P B F nv n ih .skip := by
  intro k f KQ Q h hk
  cases h
  intro R z vs ts hp nx a w st gd
  exact wpIn_skip (hk _ _ _ _ _ _ _ _ st gd)
theorem code_label {ih : Rec} (l : Nat) : CodeOk P B F nv n ih (.label l) := by
  intro k f KQ Q h hk
  cases h
  intro R z vs ts hp nx a w st gd
  exact wpIn_label (hk _ _ _ _ _ _ _ _ st gd)
theorem code_scope {ih : Rec} {x : Code} (hx : CodeOk P B F nv n ih x) : CodeOk P B F nv n ih (.scope x) := by
  intro k f KQ Q h hk R z vs ts hp nx a w st gd
  refine wpIn_scope ?_
  have hk' : KS B F nv n ih k KQ (Exit.noGoto Q) := fun R z vs ts hp nx a w st gd => hk _ _ _ _ _ _ _ _ st (gd.mono (fun _ _ q => q) (fun _ _ _ q => q) fun _ _ q => q)
  refine wpIn_ext (hx (k := k) h hk' R z vs ts hp nx a w st (gd.mono (fun _ _ q => q) (fun _ _ _ q => q) fun _ _ q => q)) fun e a w q => ?_
  cases e <;> exact q
end
end Vm
end Go
namespace Go
namespace Vm
variable {P : Program}
structure RecOk (P : Program) (ih : Rec) : Prop where
  body : ∀ {f : FuncId} {args : List Value} {h : Hp} {nx : Nat} {v : Value} {h' : Hp} {nx' : Nat} {M : List Nat}, ih (.call f args) h nx = .val v h' nx' M → hasBody P f = true
  call : ∀ {f : FuncId} {args : List Value} {h : Hp} {nx : Nat} {v : Value} {h' : Hp} {nx' : Nat} {M : List Nat}, ih (.call f args) h nx = .val v h' nx' M →
    ∀ {R : Ren} {w : World} {F : Fence} {args' : Array Value}, HR R h w → Dom R nx → (∀ g, g < NG → R.blk g = some g) → Wd F → VL R args args'.toList →
      CallsIn F 0 P f args' w (fun e w' => ∃ v' R', e = .returned v' ∧ VR R' v v' ∧ Ext R R' h h' nx nx' M w w')
  code : ∀ {c : Code} {nv n : Nat} {z : Z} {vs : Vs} {h : Hp} {nx : Nat} {B : Base} {F : Fence} {R : Ren} {a : Act} {w : World} {Q : Exit → Act → World → Prop}, B.Ok → Wd F → St B F nv n R z vs [] h nx a w →
    Good B F nv n Q (ih (.code c nv n z vs) h nx) → c.wpIn F 0 P (Exit.then (Q .normal) Q) a w
theorem Ext.drop {R R' : Ren} {h h' : Hp} {nx nx' : Nat} {w w' : World} (e : Ext R R' h h' nx nx' [] w w') (hd : Dom R nx) : Ext R R h h nx nx [] w w' where
  le := .refl R
  nxle := Nat.le_refl _
  top := hd.1
  size := e.size
  os := e.os
  tape := e.tape
  output := e.output
  dom := fun r b hb => .inl hb
  kept := e.kept
  hsame := fun _ _ _ => rfl
  rows := fun r b x hr hb _ _ => by
    rcases hr with hr | hr
    · have := hd.2 r b hb; omega
    · simp at hr
  inj := fun r s b h1 _ h3 _ _ _ => by have := hd.2 r b h3; omega
  mlive := fun m hm => by simp at hm
  mdom := fun m hm => by simp at hm
def CallOut (P : Program) (F : Fence) (R : Ren) (f : FuncId) (args' : Array Value) (h : Hp) (nx : Nat) (w : World) : Out → Prop
  | .gen v h' nx' M => CallsIn F 0 P f args' w (fun e w' => ∃ v' R', e = .returned v' ∧ VR R' v v' ∧ Ext R R' h h' nx nx' M w w')
  | .bad => True
  | _ => False
theorem callF_ok {ih : Rec} (hr : RecOk P ih) {R : Ren} {w : World} {F : Fence} {f : FuncId} {us : List Value} {args' : Array Value} {h : Hp} {nx : Nat} (hh : HR R h w) (hd : Dom R nx) (hg : ∀ g, g < NG → R.blk g = some g) (hF : Wd F) (hv : VL R us args'.toList) :
    CallOut P F R f args' h nx w (callF f us ih h nx) := by
  unfold callF
  cases e : ih (.call f us) h nx with
  | no => trivial
  | nor z vs h1 n1 => trivial
  | exi id z vs h1 n1 => trivial
  | ret z vs h1 n1 => trivial
  | val v h1 n M =>
    have hc := hr.call e hh hd hg hF hv
    cases M with
    | cons r M => exact hc
    | nil =>
      simp only
      cases hgv : ground v with
      | false => exact hc
      | true =>
        exact hc.mono fun e w' q => by
          obtain ⟨v', R', h1, h2, h3⟩ := q
          refine ⟨v', R, h1, ?_, h3.drop hd⟩
          rw [ground_eq hgv h2]
          exact ground_vr hgv R
section
variable {nv : Nat} {o : Oper}
theorem run_callFunc {f : FuncId} (h : hasBody P f = true) (args : Array Value) (w : World) : (callFunc f args).run P w = .ok (.enter f args) w := by
  unfold hasBody at h
  split at h
  · rename_i fn hf
    simp only [Bool.and_eq_true, Bool.not_eq_true'] at h
    have h1 : ¬ fn.name = "runtime.NumGoroutine" := by simpa using h.1
    have h2 : ¬ fn.body = none := fun e => by rw [e] at h; simp at h
    simp [callFunc, go_sem, hf, h1, h2]
  · cases h
theorem VL.app {R : Ren} {l l' m m' : List Value} (h : VL R l l') (k : VL R m m') : VL R (l ++ m) (l' ++ m') := by
  refine ⟨by simp [h.1, k.1], fun i x x' hx hx' => ?_⟩
  by_cases hi : i < l.length
  · rw [List.getElem?_append_left hi] at hx
    rw [List.getElem?_append_left (by rw [← h.1]; exact hi)] at hx'
    exact h.2 i x x' hx hx'
  · rw [List.getElem?_append_right (by omega)] at hx
    rw [List.getElem?_append_right (by rw [← h.1]; omega)] at hx'
    rw [← h.1] at hx'
    exact k.2 _ x x' hx hx'
theorem run_call {c : Call} {x : Operand} {k : FuncId} {xs ys : Array Value} {a : Act} (ho : o.op = .call c) (hc : c.callee = .value x) (hv : a.eval x = .func (.func k) xs ys) (hb : hasBody P k = true) (w : World) :
    (execOp a.eval o).run P w = .ok (.enter k (xs ++ c.args.map a.eval ++ ys)) w := by
  have e : execOp a.eval o = (do let d ← resolve a.eval c o.type; invoke d.target d.args) := by simp only [execOp, ho]
  rw [e]
  simp only [resolve, hc, hv, Deferred.ofValue, invoke, Sem.run_bind, Sem.run_pure, Result.andThen]
  exact run_callFunc hb _ w
theorem enter_ok {F : Fence} (hF : Wd F) {a : Act} {w : World} {k : FuncId} {args' : Array Value} (hnd : ∀ c, o.op ≠ .defer c) (hrun : (execOp a.eval o).run P w = .ok (.enter k args') w) {R : Ren} {h : Hp} {nx : Nat} {out : Out}
    (hout : CallOut P F R k args' h nx w out) : OutGoal P F R h nx w a o out := by
  cases out with
  | bad => trivial
  | pur v => exact hout.elim
  | rd v r => exact hout.elim
  | new v h' nx' => exact hout.elim
  | wr h' r => exact hout.elim
  | gen v h' nx' M =>
    intro K Q hK
    refine ⟨fun f _ => hF.1 f, ?_⟩
    rw [semAt_eq hnd, hrun, Oper.uponIn_enter]
    refine ⟨fun h => (by rw [hF.2] at h; cases h), ?_⟩
    refine CallsIn.mono (n := 0) hout fun e w' q => ?_
    obtain ⟨v', R', h1, h2, h3⟩ := q
    subst h1
    exact hK R' v' w' h3 h2
theorem vl_map {a : Act} {R : Ren} {c : Call} {us : List Value} (h : VL R us (c.args.toList.map a.eval)) : VL R us (c.args.map a.eval).toList := by simpa using h
theorem vl_of_arr {R : Ren} {xs xs' : Array Value} (h : xs.size = xs'.size) (k : ∀ (i : Nat) x x', xs[i]? = some x → xs'[i]? = some x' → VR R x x') : VL R xs.toList xs'.toList :=
  ⟨by simpa using h, fun i x x' hx hx' => k i x x' (by simpa using hx) (by simpa using hx')⟩
def YieldOk (P : Program) (ih : Rec) : Prop := ∀ {R : Ren} {w : World} {F : Fence} {l b : Nat} {us : List Value} {args' : Array Value} {h : Hp} {nx : Nat} {a : Act} {o : Oper}, HR R h w → Dom R nx → (∀ g, g < NG → R.blk g = some g) → Wd F → VL R us args'.toList → R.blk l = some b →
  (∀ c, o.op ≠ .defer c) → (∀ w, (execOp a.eval o).run P w = (Instr.yield b args').run P w) → OutGoal P F R h nx w a o (yieldV l us ih h nx)
theorem callF_form {f : FuncId} {us : List Value} {ih : Rec} {h : Hp} {nx : Nat} : callF f us ih h nx = .bad ∨ ∃ v h' nx' M, callF f us ih h nx = .gen v h' nx' M := by
  unfold callF
  split
  · rename_i v h1 n M _
    cases M with
    | cons r M => exact .inr ⟨_, _, _, _, rfl⟩
    | nil => cases ground v <;> exact .inr ⟨_, _, _, _, rfl⟩
  · exact .inl rfl
theorem yieldV_form {l : Nat} {us : List Value} {ih : Rec} {h : Hp} {nx : Nat} : yieldV l us ih h nx = .bad ∨ ∃ v h' nx' M, yieldV l us ih h nx = .gen v h' nx' M := by
  unfold yieldV
  split
  · split
    · split
      · rename_i log _ _ _ _
        cases nomem l log with
        | false => exact .inl rfl
        | true =>
          simp only
          unfold yieldEnd
          split
          · rename_i log2 _ _ _ _
            cases nomem l log2 with
            | false => exact .inl rfl
            | true => exact .inr ⟨_, _, _, _, rfl⟩
          · rename_i log2 _ _ _ _
            cases nomem l log2 with
            | false => exact .inl rfl
            | true => exact .inr ⟨_, _, _, _, rfl⟩
          · rename_i log2 _ _ _ _
            cases nomem l log2 with
            | false => exact .inl rfl
            | true => exact .inr ⟨_, _, _, _, rfl⟩
          · exact .inl rfl
      · exact .inl rfl
    · exact .inl rfl
  · exact .inl rfl
theorem uses_value {c : Call} {x : Operand} (ho : o.op = .call c) (hb : c.callee = .value x) {S : Nat → Prop} (hU : Uses o S) : (∀ t, Operand.tmp t ∈ c.args.toList → S t) ∧ ∀ t, x = .tmp t → S t := by
  refine ⟨fun t ht => hU t ?_, fun t ht => hU t ?_⟩
  · simp only [ho, Op.operands, Call.operands, hb]
    simp at ht ⊢
    exact .inr ht
  · simp only [ho, Op.operands, Call.operands, hb]
    simp [ht]
theorem call_ge_ok {ih : Rec} (hr : RecOk P ih) (hy : YieldOk P ih) {f : OpF} (h : CallForm P nv o f) : GeI P nv o f ih := by
  intro S R n vs ts a hp nx w F hfr hU hd hbnd hF hpre
  cases h with
  | fn c k l ho hc hl hb hf =>
    subst hf
    have hnd : ∀ c, o.op ≠ .defer c := fun c' hc' => by rw [ho] at hc'; cases hc'
    unfold oCallF at hpre ⊢
    split
    · rename_i us hus
      rw [hus] at hpre
      simp only at hpre
      have hv := vl_map (dXs_ok (a := a) hl hfr (uses_value ho hc hU).1 hus)
      have hrun := run_call (a := a) (k := k) (xs := #[]) (ys := #[]) ho hc rfl hb w
      simp only [Array.empty_append, Array.append_empty] at hrun
      rcases callF_form (f := k) (us := us) (ih := ih) (h := hp) (nx := nx) with e | ⟨v, h', nx', M, e⟩
      · rw [e]; trivial
      · have hh : HR R hp w := by rw [e] at hpre; exact hpre
        exact enter_ok hF hnd hrun (callF_ok hr hh hd hfr.glob hF hv)
    · trivial
  | val c x g l ho hc hg hl hf =>
    subst hf
    have hnd : ∀ c, o.op ≠ .defer c := fun c' hc' => by rw [ho] at hc'; cases hc'
    unfold oCallV at hpre ⊢
    split
    · rename_i k xs ys us hx hus
      rw [hx, hus] at hpre
      simp only at hpre
      have hv := vl_map (dXs_ok (a := a) hl hfr (uses_value ho hc hU).1 hus)
      have hx' := dX_ok (a := a) hg hfr (uses_value ho hc hU).2 hx
      generalize hq : a.eval x = q at hx'
      cases hx' with
      | fn _ h1 h2 h3 h4 =>
        rename_i xs' ys'
        rcases callF_form (f := k) (us := xs.toList ++ us ++ ys.toList) (ih := ih) (h := hp) (nx := nx) with e | ⟨v, h', nx', M, e⟩
        · rw [e]; trivial
        · have hh : HR R hp w := by rw [e] at hpre; exact hpre
          have hb : hasBody P k = true := by
            unfold callF at e
            cases hc2 : ih (.call k (xs.toList ++ us ++ ys.toList)) hp nx with
            | val _ _ _ _ => exact hr.body hc2
            | _ => rw [hc2] at e; cases e
          refine enter_ok hF hnd (run_call ho hc hq hb w) (callF_ok hr hh hd hfr.glob hF ?_)
          simp only [Array.toList_append]
          exact ((vl_of_arr h1 h2).app hv).app (vl_of_arr h3 h4)
    · rename_i l' xs ys us hx hus
      rw [hx, hus] at hpre
      simp only at hpre
      have hv := vl_map (dXs_ok (a := a) hl hfr (uses_value ho hc hU).1 hus)
      have hx' := dX_ok (a := a) hg hfr (uses_value ho hc hU).2 hx
      cases he : (xs.isEmpty && ys.isEmpty) with
      | false => trivial
      | true =>
        rw [he] at hpre
        simp only [cond_true] at hpre ⊢
        generalize hq : a.eval x = q at hx'
        cases hx' with
        | yld hb =>
          rcases yieldV_form (l := l') (us := us) (ih := ih) (h := hp) (nx := nx) with e | ⟨v, h', nx', M, e⟩
          · rw [e]; trivial
          · have hh : HR R hp w := by rw [e] at hpre; exact hpre
            refine hy hh hd hfr.glob hF hv hb hnd fun w => ?_
            have e : execOp a.eval o = (do let d ← resolve a.eval c o.type; invoke d.target d.args) := by simp only [execOp, ho]
            rw [e]
            simp only [resolve, hc, hq, Deferred.ofValue, invoke, Sem.run_bind, Sem.run_pure, Result.andThen, Array.empty_append]
    · trivial
theorem allGe_ok {ih : Rec} (hr : RecOk P ih) (hy : YieldOk P ih) : AllGe P ih := by
  intro nv o f h
  rcases dOp_ge h with hq | hq
  · intro S R n vs ts a hp nx w F hfr hU hd hbnd hF hpre
    exact hq ih hfr hU hd hbnd hF hpre
  · exact call_ge_ok hr hy hq
end
end Vm
end Go
namespace Go
namespace Vm
variable {P : Program}
theorem nomem_eq {l : Nat} : ∀ {log : List Nat}, nomem l log = true → l ∉ log := by
  intro log
  induction log with
  | nil => intro _ h; simp at h
  | cons r log ih =>
    intro h hm
    have e : nomem l (r :: log) = Bool.rec (nomem l log) false (Nat.beq r l) := rfl
    rw [e] at h
    cases hb : Nat.beq r l with
    | true => rw [hb] at h; cases h
    | false =>
      rw [hb] at h
      rcases List.mem_cons.1 hm with q | q
      · subst q; simp at hb
      · exact ih h q
theorem logs_one {n0 l : Nat} {log : List Nat} (h : l < n0) : logs n0 [l] log = l :: log := by
  show (Bool.rec log (l :: log) (Nat.blt l n0) : List Nat) = _
  rw [blt_eq]; simp [h]
theorem logs_none {n0 l : Nat} {log : List Nat} (h : n0 ≤ l) : logs n0 [l] log = log := by
  show (Bool.rec log (l :: log) (Nat.blt l n0) : List Nat) = _
  rw [blt_eq]; simp [Nat.not_lt.2 h]
theorem FrV.set {R : Ren} {nv n : Nat} {vs : Vs} {tm : Array Value} (h : FrV R nv n vs tm) {p : Nat} (hp : p < nv) (hn : p < n) {v v' : Value} (hv : VR R v v') : FrV R nv n (Lv.set VD p v vs) (tm.setIfInBounds p v') := by
  refine ⟨by simp [h.1], h.2.1, fun t x ht hx => ?_⟩
  have := h.2.1
  have hvd : (2 : Nat) ^ VD = 64 := rfl
  rw [Lv.get_set VD p t v vs (by omega) (by omega)] at hx
  by_cases e : t = p
  · subst e
    simp only [if_true] at hx
    cases hx
    exact ⟨v', by simp [h.1, hn], hv⟩
  · simp only [e, if_false] at hx
    obtain ⟨x', h1, h3⟩ := h.2.2 t x ht hx
    exact ⟨x', by rw [Array.getElem?_setIfInBounds_ne (fun q => e q.symm)]; exact h1, h3⟩
theorem putAll_ok {R : Ren} {nv n : Nat} : ∀ {ps : List Nat} {us us' : List Value} {vs0 vs : Vs} {tm : Array Value}, putAll nv n ps us vs0 = some vs → VL R us us' → FrV R nv n vs0 tm →
    FrV R nv n vs ((ps.zip us').foldl (fun tm (t, a) => tm.setIfInBounds t a) tm) ∧ us'.length = ps.length := by
  intro ps
  induction ps with
  | nil =>
    intro us us' vs0 vs tm h hv hf
    cases us with
    | nil =>
      cases h
      have : us' = [] := List.length_eq_zero_iff.1 (by have := hv.1; simpa using this.symm)
      subst this
      exact ⟨hf, rfl⟩
    | cons u us => cases h
  | cons p ps ih =>
    intro us us' vs0 vs tm h hv hf
    cases us with
    | nil => cases h
    | cons u us =>
      cases us' with
      | nil => have := hv.1; simp at this
      | cons u' us' =>
        obtain ⟨h1, h2⟩ := hv.tail
        have e : putAll nv n (p :: ps) (u :: us) vs0 = bif Nat.blt p n && Nat.blt p nv then putAll nv n ps us (Lv.set VD p u vs0) else none := rfl
        rw [e, Bool.cond_eq_ite] at h
        split at h
        · rename_i hc
          simp only [Bool.and_eq_true, blt_eq, decide_eq_true_eq] at hc
          obtain ⟨h3, h4⟩ := ih h h2 (hf.set hc.2 hc.1 h1)
          exact ⟨h3, by simp [h4]⟩
        · cases h
theorem FrV.frOk {R : Ren} {nv n : Nat} {vs : Vs} {tm : Array Value} (h : FrV R nv n vs tm) (hg : ∀ g, g < NG → R.blk g = some g) : FrOk (fun _ => True) R nv n vs [] tm :=
  ⟨h.1, h.2.1, fun t v _ ht hv => h.2.2 t v ht hv, fun t v _ _ hv => (by cases hv), hg⟩
theorem FrOk.frV {R : Ren} {nv n : Nat} {vs : Vs} {ts : Ts} {tm : Array Value} (h : FrOk (fun _ => True) R nv n vs ts tm) : FrV R nv n vs tm :=
  ⟨h.size, h.nvle, fun t v ht hv => h.var t v trivial ht hv⟩
theorem loop_turn {R : Ren} {h : Hp} {nx l b : Nat} {w : World} {lp : Loop} {x y : Row} (hd : Dom R nx) (hb : R.blk l = some b) (hx : hget h l = some x) (hxn : x ≠ .dead) (hob : w.heap[b]? = some (.loop lp)) {lp' : Loop} (hrow : RowO R l y (.loop lp')) :
    Ext R R h (hset h l y) nx nx [l] w (w.putObj b (.loop lp')) :=
  ext_wr hd hb hx hxn hrow World.putObj_size rfl rfl rfl (World.putObj_heap_same (Array.getElem?_eq_some_iff.1 hob).1) fun k hk => World.putObj_heap_other hk
def mkRow (jump : Option Code) (nv n : Nat) (F0 : Vs) (ps : List Nat) (asg body : Code) (d : Nat) : Row := .loop jump.isNone jump nv n F0 ps asg body d
theorem round_end {ih : Rec} {R1 R : Ren} {w w2 : World} {F : Fence} {l b : Nat} {nv n : Nat} {F0 : Vs} {ps : List Nat} {asg body : Code} {d : Nat} {h h1' : Hp} {nx n1 : Nat} {log log2 : List Nat}
    (hh : HR R h w) (hd : Dom R nx) (hb : R.blk l = some b) (hD1 : Dom R1 n1) (hR1 : HR R1 h1' w2) (hb1 : R1.blk l = some b) (hbusy : hget h1' l = some (.loop false none nv n F0 ps asg body d))
    (e2 : Ext R R1 h h1' nx n1 (l :: log) w w2) (hm2 : l ∉ log2)
    {z : Z} {vs : Vs} {h2 : Hp} {n2 : Nat} {R2 : Ren} {a : Act} {w3 : World} (hz : z.log = log2) (st : St ⟨R1, h1', n1, w2⟩ (F.inRound b) nv n R2 z vs [] h2 n2 a w3) (jump : Option Code)
    {X : Ending → World → Prop} (hX : ∀ v' R' w', Ext R R' h (hset h2 l (mkRow jump nv n F0 ps asg body d)) nx n2 (l :: logs nx log2 (l :: log)) w w' → VR R' (.bool jump.isNone) v' → X (.returned v') w') :
    ∃ v w', (Instr.endRound b jump).run P w3 = .ok v w' ∧ X (.returned v) w' := by
  have e3 := st.ext
  rw [hz] at e3
  have hl : l < nx := hd.2 l b hb
  have hl1 : l < n1 := hD1.2 l b hb1
  have hrow2 : hget h2 l = some (.loop false none nv n F0 ps asg body d) := by rw [e3.hsame l hl1 hm2]; exact hbusy
  have hb2 : R2.blk l = some b := (e3.le _ _ hb1).1
  have hD2 := e3.domNew hD1
  obtain ⟨ob, hob, lp, rfl, hst, hpe, hfv, hps, has, hbo, hdf⟩ := (e3.hr hD1 hR1).row l b _ hb2 hrow2 (by simp)
  refine ⟨_, _, run_endRound jump hob, ?_⟩
  have e4 := loop_turn (x := .loop false none nv n F0 ps asg body d) (y := mkRow jump nv n F0 ps asg body d) (lp' := { lp with state := if jump.isNone then .ready else .done, pending := jump }) hD2 hb2 hrow2 (by simp) hob
    ⟨_, rfl, by cases jump <;> rfl, rfl, hfv, hps, has, hbo, hdf⟩
  have := ((e2.trans e3 hd hh).trans e4 hd hh)
  rw [logs_one hl] at this
  exact hX _ R2 _ this (.bool _)
theorem yield_ok {ih : Rec} (hr : RecOk P ih) : YieldOk P ih := by
  intro R w F l b us args' h nx a o hh hd hg hF hv hb hnd hrun
  unfold yieldV
  split
  · rename_i nv n F0 ps asg body d hrow
    obtain ⟨ob, hob, lp, rfl, hst, hpe, hfv, hps, has, hbo, hdf⟩ := hh.row l b _ hb hrow (by simp)
    split
    · rename_i vs hput
      obtain ⟨hfr, hlen⟩ := putAll_ok hput hv hfv
      split
      · rename_i zn zr log vs1 h1 n1 hasg
        cases hm : nomem l log with
        | false => trivial
        | true =>
          have hm1 := nomem_eq hm
          have hsz : args'.size = lp.params.size := by rw [← hps] at hlen; simpa using hlen
          have hfold : (lp.params.zip args').foldl (fun tm (t, a) => tm.setIfInBounds t a) lp.tmps = (ps.zip args'.toList).foldl (fun tm (t, a) => tm.setIfInBounds t a) lp.tmps := by
            rw [← Array.foldl_toList, Array.toList_zip, hps]
          show OutGoal P F R h nx w a o (yieldEnd l nv n F0 ps asg body d nx log (ih (.code body nv n ⟨n1, some l, [], []⟩ vs1) (hset h1 l (.loop false none nv n F0 ps asg body d)) n1))
          have main : ∀ (v : Value) (h' : Hp) (nx' : Nat) (M : List Nat),
              (∀ (X : Ending → World → Prop) (R1 : Ren) (w2 : World) (a1 : Act), Dom R1 n1 → HR R1 (hset h1 l (.loop false none nv n F0 ps asg body d)) w2 → R1.blk l = some b → Ext R R1 h (hset h1 l (.loop false none nv n F0 ps asg body d)) nx n1 (l :: log) w w2 →
                (∀ v' R' w', Ext R R' h h' nx nx' M w w' → VR R' v v' → X (.returned v') w') →
                Good ⟨R1, hset h1 l (.loop false none nv n F0 ps asg body d), n1, w2⟩ (F.inRound b) nv n (roundPost P b X) (ih (.code body nv n ⟨n1, some l, [], []⟩ vs1) (hset h1 l (.loop false none nv n F0 ps asg body d)) n1)) →
              OutGoal P F R h nx w a o (.gen v h' nx' M) := by
            intro v h' nx' M hmain K Q hK
            refine ⟨fun f _ => hF.1 f, ?_⟩
            rw [semAt_eq hnd, hrun, run_yield hob hsz, Oper.uponIn_round]
            refine ⟨fun h => (by rw [hF.2] at h; cases h), ?_⟩
            refine roundIn_of_wpIn (n := 0) (hF.1 _) ?_
            rw [hfold, has, hbo]
            have key := hr.code (c := asg) (B := ⟨R, h, nx, w⟩) (F := F.inRound b) (nv := nv) (n := n) (z := ⟨nx, some l, [], []⟩) (vs := vs) (h := h) (nx := nx) (R := R) (w := w)
              (a := { tmps := (ps.zip args'.toList).foldl (fun tm (t, a) => tm.setIfInBounds t a) lp.tmps, defers := [] })
              (Q := fun e a₁ w₁ => match e with
                | .normal => ∃ w₂, (Instr.beginRound b).run P w₁ = .ok () w₂ ∧ body.wpIn (F.inRound b) 0 P (roundPost P b fun
                    | .returned v, w'' => K (a.put o.dst v) w''
                    | .panicked chain, w'' => Q (.panic chain) a w''
                    | .outgrown, _ => LetsOut Q) a₁ w₂
                | _ => False) ⟨hh, hd, hg⟩ (wd_round hF b) ⟨rfl, Ext.refl _ _ _ _ hd, hfr.frOk hg, .nil, ⟨b, rfl, hb⟩⟩ ?_
            · exact wpIn_ext key fun e a w q => by cases e <;> exact q
            · rw [hasg]
              intro R1 a1 w1 s1
              have e1 := s1.ext
              have hl : l < nx := hd.2 l b hb
              have hD1 : Dom R1 n1 := e1.domNew hd
              have hR1 : HR R1 h1 w1 := e1.hr hd hh
              have hb1 : R1.blk l = some b := (e1.le _ _ hb).1
              have hrow1 : hget h1 l = some (.loop true none nv n F0 ps asg body d) := by rw [e1.hsame l hl hm1]; exact hrow
              obtain ⟨ob1, hob1, lp1, rfl, hst1, hpe1, hfv1, hps1, has1, hbo1, hdf1⟩ := hR1.row l b _ hb1 hrow1 (by simp)
              refine ⟨_, run_beginRound hob1 hst1, ?_⟩
              have e2 := loop_turn (x := .loop true none nv n F0 ps asg body d) (y := .loop false none nv n F0 ps asg body d) (lp' := { lp1 with state := .busy }) hD1 hb1 hrow1 (by simp) hob1
                ⟨_, rfl, rfl, hpe1, hfv1, hps1, has1, hbo1, hdf1⟩
              have hR2 := e2.hr hD1 hR1
              have e12 := e1.trans e2 hd hh
              rw [logs_one hl] at e12
              have gl1 : ∀ g, g < NG → R1.blk g = some g := fun g hg' => (e1.le _ _ (hg g hg')).1
              have hdf0 : a1.defers = [] := by have := s1.dfr; cases hq : a1.defers with | nil => rfl | cons x y => rw [hq] at this; cases this
              refine wpIn_ext (hr.code (B := ⟨R1, hset h1 l (.loop false none nv n F0 ps asg body d), n1, w1.putObj b (.loop { lp1 with state := .busy })⟩) (F := F.inRound b) (nv := nv) (n := n) (z := ⟨n1, some l, [], []⟩) (vs := vs1) (R := R1) (Q := roundPost P b fun
                    | .returned v, w'' => K (a.put o.dst v) w''
                    | .panicked chain, w'' => Q (.panic chain) a w''
                    | .outgrown, _ => LetsOut Q) ⟨hR2, hD1, gl1⟩ (wd_round hF b) ⟨rfl, Ext.refl _ _ _ _ hD1, s1.fr, by rw [hdf0]; exact .nil, ⟨b, rfl, hb1⟩⟩ ?_) fun e a w q => by cases e <;> exact q
              exact hmain _ R1 _ a1 hD1 hR2 hb1 e12 fun v' R' w' e5 hv' => hK R' v' w' e5 hv'
          have hbusy : hget (hset h1 l (.loop false none nv n F0 ps asg body d)) l = some (.loop false none nv n F0 ps asg body d) := by
            have := hd.2 l b hb; have := hd.1
            rw [hget_hset (by omega) (by omega)]; simp
          unfold yieldEnd
          split
          · rename_i z2n z2r log2 vs2 h2 n2 hbody
            cases hn2 : nomem l log2 with
            | false => trivial
            | true =>
              refine main _ _ _ _ fun X R1 w2 a1 hD1 hR1 hb1 e12 hX => ?_
              rw [hbody]
              intro R2 a2 w3 s2
              exact round_end (ih := ih) (jump := none) hh hd hb hD1 hR1 hb1 hbusy e12 (nomem_eq hn2) rfl s2 hX
          · rename_i id z2n z2r log2 vs2 h2 n2 hbody
            cases hn2 : nomem l log2 with
            | false => trivial
            | true =>
              refine main _ _ _ _ fun X R1 w2 a1 hD1 hR1 hb1 e12 hX => ?_
              rw [hbody]
              intro R2 a2 w3 s2
              exact round_end (ih := ih) (jump := some (.exit id)) hh hd hb hD1 hR1 hb1 hbusy e12 (nomem_eq hn2) rfl s2 hX
          · rename_i z2n z2r log2 vs2 h2 n2 hbody
            cases hn2 : nomem l log2 with
            | false => trivial
            | true =>
              refine main _ _ _ _ fun X R1 w2 a1 hD1 hR1 hb1 e12 hX => ?_
              rw [hbody]
              intro R2 a2 w3 s2
              exact round_end (ih := ih) (jump := some .ret) hh hd hb hD1 hR1 hb1 hbusy e12 (nomem_eq hn2) rfl s2 hX
          · trivial
      · trivial
    · trivial
  · trivial
end Vm
end Go
namespace Go
namespace Vm
variable {P : Program}
section
variable {B : Base} {F : Fence} {nv n : Nat}
theorem range_call (hB : B.Ok) (hF : Wd F) {ih : Rec} (hr : RecOk P ih) {k : K} {KQ : Act → World → Prop} {Q : Exit → Act → World → Prop} (hk : KS B F nv n ih k KQ Q)
    {R : Ren} {z : Z} {vs : Vs} {h : Hp} {nx : Nat} {a : Act} {w : World} (st : St B F nv n R z vs [] h nx a w) {l bl : Nat} {ps : List Nat} {asg body : Code} {d : Nat}
    (hb : R.blk l = some bl) (hl : B.nx ≤ l) {f : FuncId} {xs ys xs' ys' : Array Value} (hx : VL R xs.toList xs'.toList) (hy : VL R ys.toList ys'.toList)
    (g : Good B F nv n Q (rangeEnd l (callF f (xs.toList ++ [(.func (.yield l) #[] #[] : Value)] ++ ys.toList) ih h nx) k ih z vs)) :
    hasBody P f = true ∧ CallsIn F 0 P f (xs' ++ #[(.func (.yield bl) #[] #[] : Value)] ++ ys') w (rangePost F 0 P bl (Exit.then KQ Q) a) := by
  have hv : VL R (xs.toList ++ [(.func (.yield l) #[] #[] : Value)] ++ ys.toList) (xs' ++ #[(.func (.yield bl) #[] #[] : Value)] ++ ys').toList := by
    simp only [Array.toList_append]
    exact (hx.app (.cons (.yld hb) (.nil R))).app hy
  have hco := callF_ok (f := f) hr (st.hr hB) (st.dom hB) st.fr.glob hF hv
  cases hcf : callF f (xs.toList ++ [(.func (.yield l) #[] #[] : Value)] ++ ys.toList) ih h nx with
  | bad => rw [hcf] at g; exact g.elim
  | pur v => rw [hcf] at g; exact g.elim
  | rd v r => rw [hcf] at g; exact g.elim
  | new v h2 n2 => rw [hcf] at g; exact g.elim
  | wr h2 r => rw [hcf] at g; exact g.elim
  | gen v h2 n2 M =>
    have hbody : hasBody P f = true := by
      unfold callF at hcf
      split at hcf
      · rename_i e; exact hr.body e
      · cases hcf
    refine ⟨hbody, ?_⟩
    rw [hcf] at hco g
    refine CallsIn.mono (n := 0) hco fun e w2 q => ?_
    obtain ⟨v', R2, h1, h2', h3⟩ := q
    subst h1
    have s2 := st.step hB h3
    have hb2 : R2.blk l = some bl := (h3.le _ _ hb).1
    have hlz : z.n0 ≤ l := by rw [st.n0]; exact hl
    have hlog : ∀ z1 : Z, z1.n0 = z.n0 → logZ z1 [l] = z1 := fun z1 e => by
      unfold logZ; rw [logs_none (by rw [e]; exact hlz)]
    have turn : ∀ (ready : Bool) (pend : Option Code) nv1 n1 F1 ps1 a1 b1 d1, hget h2 l = some (.loop ready pend nv1 n1 F1 ps1 a1 b1 d1) → (ready = false → pend.isSome = true) →
        ∃ w4, (Instr.endLoop bl).run P w2 = .ok pend w4 ∧ St B F nv n R2 (logZ z M) vs [] (hset h2 l .dead) n2 a w4 := by
      intro ready pend nv1 n1 F1 ps1 a1 b1 d1 hrow hp
      obtain ⟨ob, hob, lp, rfl, hst, hpe, hfv, hps, has, hbo, hdf⟩ := (s2.hr hB).row l bl _ hb2 hrow (by simp)
      refine ⟨w2.putObj bl (.loop { lp with state := .exhausted }), ?_, ?_⟩
      · have := run_endLoop (P := P) hob (by
          rw [hst]
          cases ready with
          | true => simp
          | false =>
            have := hp rfl
            cases pend with
            | none => cases this
            | some c => simp)
        exact this.trans (by rw [hpe])
      · have e4 := loop_turn (x := .loop ready pend nv1 n1 F1 ps1 a1 b1 d1) (y := .dead) (lp' := { lp with state := .exhausted }) (s2.dom hB) hb2 hrow (by simp) hob trivial
        have s3 := s2.step hB e4
        rw [hlog (logZ z M) rfl] at s3
        exact s3
    unfold rangeEnd at g
    simp only at g
    split at g
    · rename_i hrow
      obtain ⟨w4, h5, s3⟩ := turn _ _ _ _ _ _ _ _ _ hrow (fun e => by cases e)
      exact ⟨none, w4, h5, hk _ _ _ _ _ _ _ _ s3 g⟩
    · rename_i hrow
      obtain ⟨w4, h5, s3⟩ := turn _ _ _ _ _ _ _ _ _ hrow (fun e => rfl)
      exact ⟨some .ret, w4, h5, wpIn_ret (g _ _ _ s3)⟩
    · rename_i id _ _ _ _ _ _ _ hrow
      obtain ⟨w4, h5, s3⟩ := turn _ _ _ _ _ _ _ _ _ hrow (fun e => rfl)
      exact ⟨some (.exit id), w4, h5, wpIn_exit (g _ _ _ s3)⟩
    · exact g.elim
theorem fn_vr {R : Ren} {f : FuncId} {xs ys : Array Value} {v : Value} (h : VR R (.func (.func f) xs ys) v) : ∃ xs' ys', v = .func (.func f) xs' ys' ∧ VL R xs.toList xs'.toList ∧ VL R ys.toList ys'.toList := by
  cases h with
  | fn _ h1 h2 h3 h4 => exact ⟨_, _, rfl, vl_of_arr h1 h2, vl_of_arr h3 h4⟩
theorem add_blk {R : Ren} {nx b κ : Nat} : (R.add nx b κ).blk nx = some b := by simp [Ren.add]
theorem code_range (hB : B.Ok) (hF : Wd F) {ih : Rec} (hr : RecOk P ih) (g : Operand) (ps : Array Nat) (asg body : Code) : CodeOk P B F nv n ih (.rangeFunc g ps asg body) := by
  intro k f KQ Q h hk
  obtain ⟨fg, hg⟩ := dX_some nv g
  have e : dCode P nv n (.rangeFunc g ps asg body) k = match dX nv g with | .mk f => .mk (kRange nv n f ps.toList asg body k) := rfl
  rw [e, hg] at h
  cases h
  intro R z vs ts hp nx a w st gd
  unfold kRange at gd
  split at gd
  rotate_left
  · exact gd.elim
  rename_i gv hgv
  have hgv' := dX_ok (a := a) hg st.fr (fun _ _ => trivial) hgv
  have hev : ∀ ds, Act.eval { a with defers := ds } = a.eval := fun ds => rfl
  have fin : ∀ (l bl : Nat) (mark : List Deferred) (w1 : World) (z1 : Z) (h1 : Hp) (d : Nat) (R1 : Ren), R.le R1 → (∀ fn, (Instr.enterLoop fn a.tmps ps asg body F.round).run P w = .ok (bl, mark) (w1.alloc (.loop { state := .ready, pending := none, fn, tmps := a.tmps, params := ps, assign := asg, body, defers := (R1.blk d).getD 0 }))) →
      bl = w1.heap.size → B.nx ≤ l → St B F nv n R1 z1 vs [] h1 l { a with defers := mark ++ a.defers } w1 → (∃ bd, R1.blk d = some bd) →
      Good B F nv n Q (rangeGo nv n ps.toList asg body k gv d ih z1 vs h1 l) → (Code.rangeFunc g ps asg body).wpIn F 0 P (Exit.then KQ Q) a w := by
    intro l bl mark w1 z1 h1 d R1 hle hent hbl hl st1 hd hgo
    obtain ⟨bd, hbd⟩ := hd
    rw [hbd] at hent
    simp only [Option.getD_some] at hent
    subst hbl
    unfold rangeGo at hgo
    split at hgo
    · rename_i fid xs ys
      obtain ⟨xs', ys', hq, hx, hy⟩ := fn_vr hgv'
      cases hroom : room l with
      | false => rw [hroom] at hgo; exact hgo.elim
      | true =>
        rw [hroom] at hgo
        have hlt := room_lt hroom
        refine wpIn_rangeFunc fun fn hfn => ?_
        have hD1 := st1.dom hB
        have e2 := ext_new (κ := 0) (h := h1) (x := .loop true none nv n vs ps.toList asg body d) (w := w1) (ob := .loop { state := .ready, pending := none, fn, tmps := a.tmps, params := ps, assign := asg, body, defers := bd }) hD1 hlt
          ⟨_, rfl, rfl, rfl, st1.fr.frV.mono (Ren.le_add hD1 _ _), rfl, rfl, rfl, ((Ren.le_add hD1 w1.heap.size 0) _ _ hbd).1⟩
        have s2 := st1.step0 hB e2
        have hle2 := hle.trans e2.le
        obtain ⟨hbody, hcall⟩ := range_call hB hF hr hk s2 (ps := ps.toList) (asg := asg) (body := body) (d := d) add_blk hl (hx.mono hle2) (hy.mono hle2) hgo
        generalize hW : w1.alloc (.loop { state := .ready, pending := none, fn, tmps := a.tmps, params := ps, assign := asg, body, defers := bd }) = W at e2 s2 hcall
        have hent' := hent fn
        rw [hW] at hent'
        have c1 : (resolve a.eval (rangeCall g w1.heap.size) 0).run P W = .ok { target := .fn (.func fid) ys', args := xs' ++ #[(.func (.yield w1.heap.size) #[] #[] : Value)] } W := by
          simp only [resolve, hq, Deferred.ofValue, Sem.run_pure]
          simp [Act.eval]
        have c2 : (invoke (.fn (.func fid) ys') (xs' ++ #[(.func (.yield w1.heap.size) #[] #[] : Value)])).run P W = .ok (.enter fid (xs' ++ #[(.func (.yield w1.heap.size) #[] #[] : Value)] ++ ys')) W := run_callFunc hbody _ _
        exact ⟨w1.heap.size, mark, W, _, W, fid, _, W, hent', c1, fun f' _ => hF.1 f', c2, fun h => (by rw [hF.2] at h; cases h), hcall⟩
    · exact hgo.elim
  cases hrd : z.rd with
  | none =>
    rw [hrd] at gd
    simp only at gd
    have hro : F.round = none := by have := st.rd; rw [hrd] at this; exact this
    cases hroom : room nx with
    | false => rw [hroom] at gd; exact gd.elim
    | true =>
      rw [hroom] at gd
      have hlt := room_lt hroom
      have hD := st.dom hB
      have e1 := ext_new (κ := 0) (h := hp) (x := .deferred) (w := w) (ob := .deferred (some [])) hD hlt rfl
      have s1 := st.nots.step0 hB e1
      refine fin (Nat.succ nx) (w.heap.size + 1) [{ target := .collected w.heap.size, args := #[] }] (w.alloc (.deferred (some []))) ⟨z.n0, z.rd, nx :: z.D, z.log⟩ (hset hp nx .deferred) nx (R.add nx w.heap.size 0) e1.le ?_ (World.size_alloc _ _).symm
        (by have := st.ext.nxle; omega) ⟨s1.n0, s1.ext, s1.fr, .cons add_blk st.ext.nxle s1.dfr, s1.rd⟩ ⟨_, add_blk⟩ (by rw [hrd]; exact gd)
      intro fn
      rw [hro, add_blk]
      exact run_enterLoop_outer _ _ _ _ _
  | some l0 =>
    rw [hrd] at gd
    simp only at gd
    obtain ⟨b0, hro, hb0⟩ : ∃ b, F.round = some b ∧ R.blk l0 = some b := by have := st.rd; rw [hrd] at this; exact this
    split at gd
    · rename_i d hrow
      obtain ⟨ob, hob, lp, rfl, hst, hpe, hfv, hps, has, hbo, hdf⟩ := (st.hr hB).row l0 b0 _ hb0 hrow (by simp)
      refine fin nx w.heap.size [] w z hp d R (.refl R) ?_ rfl (by have := st.ext.nxle; omega) st.nots ⟨_, hdf⟩ gd
      intro fn
      rw [hro, hdf]
      exact run_enterLoop_inner hob _ _ _ _ _
    · exact gd.elim
end
end Vm
end Go
namespace Go
namespace Vm
variable {P : Program}
def DrawOk (P : Program) : Prop := ∀ {B : Base} {F : Fence} {nv n : Nat} {ih : Rec} (id : Nat) (ops : Array Oper), B.Ok → Wd F → AllGe P ih → CodeOk P B F nv n ih (.region id ops true)
theorem code_bad {B : Base} {F : Fence} {nv n : Nat} {ih : Rec} {c : Code} (h : ∀ k, dCode P nv n c k = .bad) : CodeOk P B F nv n ih c := by
  intro k f KQ Q hk
  rw [h] at hk; cases hk
theorem code_ok (hdr : DrawOk P) {B : Base} {F : Fence} {nv n : Nat} {ih : Rec} (hB : B.Ok) (hF : Wd F) (hr : RecOk P ih) (c : Code) : CodeOk P B F nv n ih c := by
  have hge := allGe_ok hr (yield_ok hr)
  induction c with
  | skip => exact code_skip
  | region id ops draw =>
    cases draw with
    | false => exact @code_region_plain P B F nv n hB hF ih hge id ops
    | true => exact @hdr B F nv n ih id ops hB hF hge
  | seq a b iha ihb => exact code_seq iha ihb
  | cond c a b iha ihb => exact code_cond iha ihb
  | block id a iha => exact code_block iha
  | loop a iha => exact code_loop iha
  | rangeFunc g ps a b _ _ => exact code_range hB hF hr g ps a b
  | exit id => exact code_exit id
  | scope a iha => exact code_scope iha
  | label l => exact code_label l
  | goto l => exact code_bad fun k => rfl
  | ret => exact code_ret
  | refuse s => exact code_bad fun k => rfl
theorem enum_get : ∀ (l : List Value) (i : Nat), i + l.length ≤ 64 → ∀ t v, t < 64 → Lv.get VD t (enum l i) = some v → i ≤ t ∧ l[t - i]? = some v := by
  intro l
  induction l with
  | nil => intro i _ t v _ h; rw [show enum [] i = Lv.nil Value VD from rfl, Lv.get_nil] at h; cases h
  | cons x l ih =>
    intro i hi t v ht h
    have e : enum (x :: l) i = Lv.set VD i x (enum l (i + 1)) := rfl
    simp only [List.length_cons] at hi
    have hvd : (2 : Nat) ^ VD = 64 := rfl
    rw [e, Lv.get_set VD i t x _ (by omega) (by omega)] at h
    by_cases q : t = i
    · subst q
      simp only [if_true] at h
      cases h
      exact ⟨Nat.le_refl _, by simp⟩
    · simp only [q, if_false] at h
      obtain ⟨h1, h2⟩ := ih (i + 1) (by omega) t v ht h
      refine ⟨by omega, ?_⟩
      rw [show t - i = (t - (i + 1)) + 1 by omega]
      exact h2
theorem enum_fr {R : Ren} {nv n : Nat} {args : List Value} {args' : Array Value} (hv : VL R args args'.toList) (h1 : args.length ≤ n) (h2 : args.length ≤ nv) (h3 : nv ≤ 64) (hg : ∀ g, g < NG → R.blk g = some g) :
    FrOk (fun _ => True) R nv n (enum args 0) [] (args' ++ Array.replicate (n - args'.size) undef) := by
  have hs : args'.size = args.length := by have := hv.1; simpa using this.symm
  refine ⟨by simp; omega, h3, fun t v _ ht hx => ?_, fun t v _ _ hx => (by cases hx), hg⟩
  obtain ⟨_, hx⟩ := enum_get args 0 (by omega) t v (by omega) hx
  rw [Nat.sub_zero] at hx
  obtain ⟨x', h4, h5⟩ := hv.get hx
  have hlt : t < args'.size := by have := (List.getElem?_eq_some_iff.1 hx).1; omega
  exact ⟨x', by rw [Array.getElem?_append_left hlt]; simpa using h4, h5⟩
def resGo (tmps : Array Value) : ResultVar → Sem Value
  | .tmp t => pure (tmps.getD t undef)
  | .cell a t => do loadVar t (← asAddr (tmps.getD a undef))
theorem res_run {R : Ren} {nv n : Nat} {vs : Vs} {h : Hp} {w : World} {tm : Array Value} (hh : HR R h w) (hfr : FrOk (fun _ => True) R nv n vs [] tm) : ∀ (l : List ResultVar) {us : List Value},
    resL (l.map (dRes P nv)) vs h = some us → ∃ us', VL R us us' ∧ (l.mapM (resGo tm)).run P w = .ok us' w := by
  intro l
  induction l with
  | nil => intro us hu; cases hu; exact ⟨[], .nil R, rfl⟩
  | cons x l ih =>
    intro us hu
    have e : resL ((x :: l).map (dRes P nv)) vs h = match resOf (dRes P nv x) vs h with
      | some v => (match resL (l.map (dRes P nv)) vs h with | some us => some (v :: us) | none => none) | none => none := rfl
    rw [e] at hu
    split at hu
    · rename_i v hv
      split at hu
      · rename_i us1 hus
        cases hu
        obtain ⟨us', h1, h2⟩ := ih hus
        have one : ∃ v', VR R v v' ∧ (resGo tm x).run P w = .ok v' w := by
          cases x with
          | tmp t =>
            obtain ⟨f, hf⟩ := dX_some nv (.tmp t)
            have e2 : dRes P nv (.tmp t) = .x f := by simp only [dRes, hf]
            rw [e2] at hv
            obtain ⟨v', h3, h4⟩ := dX_tmp hf hfr hv
            refine ⟨v', h4, ?_⟩
            simp only [resGo, Array.getD_eq_getD_getElem?, h3]
            rfl
          | cell a t =>
            obtain ⟨f, hf⟩ := dX_some nv (.tmp a)
            cases hty : ty P t with
            | none => simp only [dRes, hty, hf] at hv; cases hv
            | some i =>
              have e2 : dRes P nv (.cell a t) = .cell f i.agg i.size := by simp only [dRes, hty, hf]
              rw [e2] at hv
              simp only [resOf] at hv
              split at hv
              · rename_i r o hx
                obtain ⟨v', h3, h4⟩ := dX_tmp hf hfr hx
                cases h4 with
                | ptr _ hb =>
                  obtain ⟨v', h5, h6⟩ := loadVar_run hty (hh.at r) hb hv
                  refine ⟨v', h5, ?_⟩
                  simp only [resGo, Array.getD_eq_getD_getElem?, h3, Option.getD_some, asAddr, Sem.run_bind, Sem.run_pure, Result.andThen]
                  exact h6
              · cases hv
        obtain ⟨v', h3, h4⟩ := one
        refine ⟨v' :: us', .cons h3 h1, ?_⟩
        simp only [List.mapM_cons, Sem.run_bind, h4, h2, Result.andThen, Sem.run_pure]
      · cases hu
    · cases hu
theorem results_run {R : Ren} {nv n : Nat} {vs : Vs} {h : Hp} {w : World} {tm : Array Value} (hh : HR R h w) (hfr : FrOk (fun _ => True) R nv n vs [] tm) (fn : Func) {us : List Value}
    (hu : resL (fn.results.toList.map (dRes P nv)) vs h = some us) : ∃ v', VR R (tup us) v' ∧ (results fn tm).run P w = .ok v' w := by
  obtain ⟨us', h1, h2⟩ := res_run hh hfr fn.results.toList hu
  have e : results fn tm = (do
      let vs ← fn.results.mapM (resGo tm)
      pure (if h : vs.size = 1 then vs[0] else .tuple vs)) := by
    unfold results
    congr 1
  have hrun : (fn.results.mapM (resGo tm)).run P w = .ok us'.toArray w := by
    rw [Array.mapM_eq_mapM_toList]
    rw [show (Functor.map List.toArray (fn.results.toList.mapM (resGo tm))) = (fn.results.toList.mapM (resGo tm) >>= fun l => pure l.toArray) from (bind_pure_comp _ _).symm]
    simp only [Sem.run_bind, h2, Result.andThen, Sem.run_pure]
  refine ⟨if h : us'.toArray.size = 1 then us'.toArray[0] else .tuple us'.toArray, ?_, ?_⟩
  · have hlen := h1.1
    by_cases h3 : us.length = 1
    · obtain ⟨x, rfl⟩ := List.length_eq_one_iff.1 h3
      obtain ⟨x', rfl⟩ := List.length_eq_one_iff.1 (hlen.symm.trans h3)
      simp only [tup, List.size_toArray, List.length_cons, List.length_nil, dite_true]
      exact h1.tail.1
    · have h4 : ¬ us'.toArray.size = 1 := by simp; omega
      rw [dif_neg h4]
      have h5 : tup us = .tuple us.toArray := by
        unfold tup
        split
        · exact absurd rfl h3
        · rfl
      rw [h5]
      exact .tuple (by simpa using hlen) fun i x x' hx hx' => h1.2 i x x' (by simpa using hx) (by simpa using hx')
  · rw [e]
    simp only [Sem.run_bind, hrun, Result.andThen, Sem.run_pure]
theorem leaves_ok {F : Fence} {B : Base} (hB : B.Ok) {nv n : Nat} {vs : Vs} {fn : Func} {tm : Array Value} {X : Ending → World → Prop} {log : List Nat} {nx : Nat} : ∀ {D : List Nat} {ds : List Deferred} {h h' : Hp} {R : Ren} {w : World} {us : List Value},
    DR B.nx R D ds → shut D h = some h' → Ext B.R R B.h h B.nx nx log B.w w → FrOk (fun _ => True) R nv n vs [] tm → resL (fn.results.toList.map (dRes P nv)) vs h' = some us →
    (∀ v' w', VR R (tup us) v' → Ext B.R R B.h h' B.nx nx log B.w w' → X (.returned v') w') → LeavesInM F 0 P fn tm X ds .returning w := by
  intro D
  induction D with
  | nil =>
    intro ds h h' R w us hdr hs he hfr hu hX
    cases hdr
    have e : shut [] h = some h := rfl
    rw [e] at hs
    cases hs
    obtain ⟨v', h1, h2⟩ := results_run (he.hr hB.dom hB.hr) hfr fn hu
    exact ⟨v', h2, hX v' w h1 he⟩
  | cons d D ih =>
    intro ds h h' R w us hdr hs he hfr hu hX
    cases hdr with
    | cons hb hn hrest =>
      rename_i b ds
      have e : shut (d :: D) h = match hget h d with | some .deferred => shut D (hset h d .dead) | _ => none := rfl
      rw [e] at hs
      split at hs
      · rename_i hrow
        have hh := he.hr hB.dom hB.hr
        have hD := he.domNew hB.dom
        obtain ⟨ob, hob, hro⟩ := hh.row d b _ hb hrow (by simp)
        have hro' : ob = .deferred (some []) := hro
        subst hro'
        have e2 : Ext R R h (hset h d .dead) nx nx [d] w (w.putObj b (.deferred none)) :=
          ext_wr (ob := .deferred none) hD hb hrow (by simp) trivial World.putObj_size rfl rfl rfl (World.putObj_heap_same (Array.getElem?_eq_some_iff.1 hob).1) fun k hk => World.putObj_heap_other hk
        have e3 := he.trans e2 hB.dom hB.hr
        rw [logs_none hn] at e3
        exact ⟨by simp, .inl ⟨b, _, rfl, run_takeDeferred hob, ih hrest hs e3 hfr hu hX⟩⟩
      · cases hs
variable {nvs : List (Nat × Nat)}
theorem dFn_eq {f : FuncId} {g : K} {rs : List XR} {n nv : Nat} (h : dFn P nvs f = .mk g rs n nv) :
    ∃ fn body, P.funcs[f]? = some fn ∧ fn.body = some body ∧ dCode P nv fn.ntmps body kNor = .mk g ∧ rs = fn.results.toList.map (dRes P nv) ∧ n = fn.ntmps ∧ hasBody P f = true ∧ nv ≤ 64 := by
  unfold dFn at h
  split at h
  · rename_i fn hf
    split at h
    · rename_i body hb
      split at h
      · rename_i g' hg
        cases hq : (and (hasBody P f) (Nat.ble (nvOf nvs f) 64)) with
        | false => rw [hq] at h; cases h
        | true =>
          rw [hq] at h
          simp only at h
          injection h with h1 h2 h3 h4
          simp only [Bool.and_eq_true] at hq
          subst h1 h2 h3 h4
          exact ⟨fn, body, hf, hb, hg, rfl, rfl, hq.1, Nat.le_of_ble_eq_true hq.2⟩
      · cases h
    · cases h
  · cases h
theorem exCall_ok (hdr : DrawOk P) {ih : Rec} (hr : RecOk P ih) {f : FuncId} {args : List Value} {h : Hp} {nx : Nat} {v : Value} {h' : Hp} {nx' : Nat} {M : List Nat} (hex : exCall P nvs f args ih h nx = .val v h' nx' M) :
    hasBody P f = true ∧ ∀ {R : Ren} {w : World} {F : Fence} {args' : Array Value}, HR R h w → Dom R nx → (∀ g, g < NG → R.blk g = some g) → Wd F → VL R args args'.toList →
      CallsIn F 0 P f args' w (fun e w' => ∃ v' R', e = .returned v' ∧ VR R' v v' ∧ Ext R R' h h' nx nx' M w w') := by
  unfold exCall at hex
  split at hex
  rotate_left
  · cases hex
  rename_i g rs n nv hdf
  obtain ⟨fn, body, hf, hb, hg, hrs, hn, hbody, hnv⟩ := dFn_eq hdf
  subst hrs hn
  refine ⟨hbody, ?_⟩
  intro R w F args' hh hd hgl hF hv
  rw [Bool.cond_eq_ite] at hex
  split at hex
  rotate_left
  · cases hex
  rename_i hc
  simp only [Bool.and_eq_true] at hc
  have hle1 := Nat.le_of_ble_eq_true hc.1
  have hle2 := Nat.le_of_ble_eq_true hc.2
  have hB : Base.Ok ⟨R, h, nx, w⟩ := ⟨hh, hd, hgl⟩
  have hF' : Wd F.plain := hF
  have key : CallsIn F.plain 0 P f args' w (fun e w' => ∃ v' R', e = .returned v' ∧ VR R' v v' ∧ Ext R R' h h' nx nx' M w w') := by
    refine callsIn_of_wp_marks hf hb (hF.1 f) ?_ rfl
    have hco := code_ok hdr hB hF' hr body (nv := nv) (n := fn.ntmps) hg (ks_nor ih (bodyPostM F.plain 0 P fn (fun e w' => ∃ v' R', e = .returned v' ∧ VR R' v v' ∧ Ext R R' h h' nx nx' M w w'))) R ⟨nx, none, [], []⟩ (enum args 0) [] h nx
      { tmps := args' ++ Array.replicate (fn.ntmps - args'.size) undef, defers := [] } w ⟨rfl, Ext.refl _ _ _ _ hd, enum_fr hv hle1 hle2 hnv hgl, .nil, rfl⟩ ?_
    · exact wpIn_ext hco fun e a w q => by cases e <;> exact q
    · have lv : ∀ z vs h2 nx2, leave (fn.results.toList.map (dRes P nv)) z vs h2 nx2 = .val v h' nx' M → ∀ R2 a w2, St ⟨R, h, nx, w⟩ F.plain nv fn.ntmps R2 z vs [] h2 nx2 a w2 →
          LeavesInM F.plain 0 P fn a.tmps (fun e w' => ∃ v' R', e = .returned v' ∧ VR R' v v' ∧ Ext R R' h h' nx nx' M w w') a.defers .returning w2 := by
        intro z vs h2 nx2 hl R2 a w2 st
        unfold leave at hl
        split at hl
        · rename_i h3 hsh
          split at hl
          · rename_i us hu
            cases hl
            exact leaves_ok hB st.dfr hsh st.ext st.fr hu fun v' w' h5 h6 => ⟨v', R2, rfl, h5, h6⟩
          · cases hl
        · cases hl
      cases hres : g ih ⟨nx, none, [], []⟩ (enum args 0) [] h nx with
      | no => rw [hres] at hex; cases hex
      | val v2 h2 n2 M2 => rw [hres] at hex; cases hex
      | exi id z vs h2 n2 => rw [hres] at hex; cases hex
      | nor z vs h2 n2 => rw [hres] at hex; exact fun R2 a w2 st => lv z vs h2 n2 hex R2 a w2 st
      | ret z vs h2 n2 => rw [hres] at hex; exact fun R2 a w2 st => lv z vs h2 n2 hex R2 a w2 st
  exact key
end Vm
end Go
namespace Go
namespace Vm
variable {P : Program}
section
variable {nv n : Nat}
theorem dX_tmpS {S : Nat → Prop} {t : Nat} {x : OpV} (h : dX nv (.tmp t) = .mk x) {R : Ren} {vs : Vs} {ts : Ts} {tm : Array Value} {v : Value} (hF : FrOk S R nv n vs ts tm) (hS : S t) (hv : x vs ts = some v) :
    ∃ v', tm[t]? = some v' ∧ VR R v v' := by
  unfold dX at h
  simp only [blt_eq] at h
  by_cases ht : t < nv
  · simp only [ht, decide_true] at h
    unfold dVar at h
    obtain ⟨g, hg, hp⟩ := mkGet_eq (α := Value) VD t
    rw [hg] at h
    cases h
    exact hF.var t v hS ht (by rw [← hp]; exact hv)
  · simp only [ht, decide_false] at h
    cases h
    exact hF.tmp t v hS (Nat.le_of_not_lt ht) hv
def Pre (T : Option (List Nat)) (R : Ren) (h : Hp) (w : World) : Prop := match T with | some l => ∀ r, r ∈ l → RowAt R h w r | none => HR R h w
def GuardT (ops : Array Oper) (o : Oper) (t : Nat) : Prop := ∃ j b g, o.guard = some (j, b) ∧ ops[j]? = some g ∧ g.dst = some t
def StepF (P : Program) (nv n : Nat) (ops : Array Oper) (j : Nat) (o : Oper) (vs : Vs) (ts : Ts) (h : Hp) (nx : Nat) (v : Value) (rc : Rec1) (h' : Hp) (nx' : Nat) : Prop :=
  (∀ (S : Nat → Prop) (R : Ren) (a : Act) (w : World) (F : Fence), FrOk S R nv n vs ts a.tmps → Uses o S → (∀ t, GuardT ops o t → S t) → Dom R nx → (∀ r b, R.blk r = some b → b < w.heap.size) → Wd F → Pre rc.T R h w →
    ∀ (K : Act → World → Prop) (Q : Exit → Act → World → Prop), (∀ R' v' w', Ext R R' h h' nx nx' rc.M w w' → VR R' v v' → K (a.put o.dst v') w') → wpOpIn F 0 P ops Q j K a w) ∧
  (rc.M = [] ∨ rc.T = none ∨ rc.T = some rc.M) ∧
  (∀ h2, rc.A h2 = true → ∃ r, rc.T = some [r] ∧ rc.M = [] ∧ groundRow (hget h2 r) = true ∧ ∀ (S : Nat → Prop) (R : Ren) (a : Act) (w : World) (F : Fence), FrOk S R nv n vs ts a.tmps → Uses o S → (∀ t, GuardT ops o t → S t) → Dom R nx → Wd F → RowAt R h2 w r →
    ∀ (K : Act → World → Prop) (Q : Exit → Act → World → Prop), (∀ R' v' w', Ext R R' h h' nx nx' rc.M w w' → VR R' v v' → K (a.put o.dst v') w') → wpOpIn F 0 P ops Q j K a w) ∧
  (rc.M ≠ [] → rc.H = h')
theorem noG {ops : Array Oper} {j : Nat} {o : Oper} (ho : ops[j]? = some o) (hg : o.guard = none) {F : Fence} {Q K} {a : Act} {w : World} (h : o.wpIn F 0 P a w K Q) : wpOpIn F 0 P ops Q j K a w := by
  unfold wpOpIn
  simp only [ho, Region.wanted, hg, if_true]
  exact h
def OutF (P : Program) (nv n : Nat) (o : Oper) (vs : Vs) (ts : Ts) (h : Hp) (nx : Nat) (v : Value) (rc : Rec1) (h' : Hp) (nx' : Nat) : Prop :=
  (∀ (S : Nat → Prop) (R : Ren) (a : Act) (w : World) (F : Fence), FrOk S R nv n vs ts a.tmps → Uses o S → Dom R nx → (∀ r b, R.blk r = some b → b < w.heap.size) → Wd F → Pre rc.T R h w →
    ∀ (K : Act → World → Prop) (Q : Exit → Act → World → Prop), (∀ R' v' w', Ext R R' h h' nx nx' rc.M w w' → VR R' v v' → K (a.put o.dst v') w') → o.wpIn F 0 P a w K Q) ∧
  (rc.M = [] ∨ rc.T = none ∨ rc.T = some rc.M) ∧
  (∀ h2, rc.A h2 = true → ∃ r, rc.T = some [r] ∧ rc.M = [] ∧ groundRow (hget h2 r) = true ∧ ∀ (S : Nat → Prop) (R : Ren) (a : Act) (w : World) (F : Fence), FrOk S R nv n vs ts a.tmps → Uses o S → Dom R nx → Wd F → RowAt R h2 w r →
    ∀ (K : Act → World → Prop) (Q : Exit → Act → World → Prop), (∀ R' v' w', Ext R R' h h' nx nx' rc.M w w' → VR R' v v' → K (a.put o.dst v') w') → o.wpIn F 0 P a w K Q) ∧
  (rc.M ≠ [] → rc.H = h')
theorem sameV_eq {x y : Value} (h : sameV x y = true) : x = y := by
  unfold sameV at h
  split at h
  · rw [eqI_eq] at h; simp at h; rw [h]
  · rename_i a b; cases a <;> cases b <;> simp_all
  · cases h
theorem againV_eq {x y : LV} {h : Hp} (k : againV x y h = true) : ∃ v r, x = .v v r ∧ y = .v v r ∧ groundRow (hget h r) = true := by
  unfold againV at k
  split at k
  · rename_i u r v s
    simp only [Bool.and_eq_true] at k
    obtain ⟨⟨k1, k2⟩, k3⟩ := k
    have := Nat.eq_of_beq_eq_true k1
    subst this
    have := sameV_eq k2
    subst this
    exact ⟨_, _, rfl, rfl, k3⟩
  · cases k
theorem stepD_ok {ih : Rec} (hge : AllGe P ih) {o : Oper} {d : Dst} {k : KD} {rs : List Rec1} {z : Z} {vs : Vs} {ts : Ts} {h : Hp} {nx : Nat} (hno : stepD d (dOp P nv o.op) k rs ih z vs ts h nx ≠ .no) :
    ∃ v rc h' nx', OutF P nv n o vs ts h nx v rc h' nx' ∧ stepD d (dOp P nv o.op) k rs ih z vs ts h nx = putK d v (k (rc :: rs)) ih (logZ z rc.M) vs ts h' nx' := by
  have hnd : ∀ c, o.op ≠ .defer c := fun c hc => hno (by rw [hc]; rfl)
  have lz : logZ z [] = z := rfl
  unfold stepD at hno ⊢
  cases ho : dOp P nv o.op with
  | bad => rw [ho] at hno; exact absurd rfl hno
  | pv f =>
    rw [ho] at hno
    simp only [runO] at hno ⊢
    have hpv : PvOk P nv o f := dOp_pv ho
    cases hv : f vs ts with
    | none => rw [hv] at hno; exact absurd rfl hno
    | some v =>
      refine ⟨v, ⟨[], some [], never, h⟩, h, nx, ⟨fun S R a w F hfr hU hd hb hF hp K Q hK => ?_, .inl rfl, fun h2 q => (by cases q), fun q => absurd rfl q⟩, rfl⟩
      obtain ⟨v', h1, h2⟩ := hpv (a := a) hfr hU hv
      exact wpIn_val hF hnd (h2 w) (hK R v' w (Ext.refl R h nx w hd) h1)
  | ld f =>
    rw [ho] at hno
    simp only [runO] at hno ⊢
    have hpv : LdOk P nv o f := dOp_ld ho
    cases hv : f vs ts h with
    | no => rw [hv] at hno; exact absurd rfl hno
    | v v r =>
      refine ⟨v, ⟨[], some [r], altO (.ld f) vs ts h, h⟩, h, nx, ⟨fun S R a w F hfr hU hd hb hF hp K Q hK => ?_, .inl rfl, fun h2 q => ?_, fun q => absurd rfl q⟩, rfl⟩
      · obtain ⟨v', h1, h2⟩ := hpv (a := a) hfr hU hv (hp r (by simp))
        exact wpIn_val hF hnd h2 (hK R v' w (Ext.refl R h nx w hd) h1)
      · obtain ⟨v2, r2, q1, q2, q3⟩ := againV_eq (show againV (f vs ts h) (f vs ts h2) h2 = true from q)
        rw [hv] at q1
        cases q1
        refine ⟨r, rfl, rfl, q3, fun S R a w F hfr hU hd hF hp K Q hK => ?_⟩
        obtain ⟨v', h1, h3⟩ := hpv (a := a) hfr hU q2 hp
        exact wpIn_val hF hnd h3 (hK R v' w (Ext.refl R h nx w hd) h1)
  | ge f =>
    rw [ho] at hno
    simp only [runO] at hno ⊢
    have hg := fun S R (a : Act) w F => hge nv o f ho (S := S) (R := R) (n := n) (vs := vs) (ts := ts) (a := a) (h := h) (nx := nx) (w := w) (F := F)
    cases hv : f ih vs ts h nx with
    | bad => rw [hv] at hno; exact absurd rfl hno
    | pur v =>
      refine ⟨v, ⟨[], some [], never, h⟩, h, nx, ⟨fun S R a w F hfr hU hd hb hF hp K Q hK => ?_, .inl rfl, fun h2 q => (by cases q), fun q => absurd rfl q⟩, rfl⟩
      have := hg S R a w F hfr hU hd hb hF (by rw [hv]; trivial)
      rw [hv] at this; exact this.elim
    | rd v r =>
      refine ⟨v, ⟨[], some [r], never, h⟩, h, nx, ⟨fun S R a w F hfr hU hd hb hF hp K Q hK => ?_, .inl rfl, fun h2 q => (by cases q), fun q => absurd rfl q⟩, rfl⟩
      have := hg S R a w F hfr hU hd hb hF (by rw [hv]; trivial)
      rw [hv] at this; exact this.elim
    | new v h' nx' =>
      refine ⟨v, ⟨[], some [], never, h'⟩, h', nx', ⟨fun S R a w F hfr hU hd hb hF hp K Q hK => ?_, .inl rfl, fun h2 q => (by cases q), fun q => absurd rfl q⟩, rfl⟩
      have := hg S R a w F hfr hU hd hb hF (by rw [hv]; trivial)
      rw [hv] at this; exact this K Q hK
    | wr h' r =>
      refine ⟨undef, ⟨[r], some [r], never, h'⟩, h', nx, ⟨fun S R a w F hfr hU hd hb hF hp K Q hK => ?_, .inr (.inr rfl), fun h2 q => (by cases q), fun _ => rfl⟩, rfl⟩
      have := hg S R a w F hfr hU hd hb hF (by rw [hv]; exact hp r (by simp))
      rw [hv] at this; exact this K Q fun w' e => hK R _ w' e (VR.undef R)
    | gen v h' nx' M =>
      refine ⟨v, ⟨M, none, never, h'⟩, h', nx', ⟨fun S R a w F hfr hU hd hb hF hp K Q hK => ?_, .inr (.inl rfl), fun h2 q => (by cases q), fun _ => rfl⟩, rfl⟩
      have := hg S R a w F hfr hU hd hb hF (by rw [hv]; exact hp)
      rw [hv] at this; exact this K Q hK
theorem oneD_ok {ih : Rec} (hge : AllGe P ih) {ops : Array Oper} {j : Nat} {o : Oper} (hoj : ops[j]? = some o) {d : Dst} (hd : dDst nv n o.dst = some d) {k f : KD} (hf : dOneD P nv ops.toList o d k = .mk f)
    {rs : List Rec1} {z : Z} {vs : Vs} {ts : Ts} {h : Hp} {nx : Nat} (hno : f rs ih z vs ts h nx ≠ .no) :
    ∃ v rc h' nx', StepF P nv n ops j o vs ts h nx v rc h' nx' ∧ f rs ih z vs ts h nx = putK d v (k (rc :: rs)) ih (logZ z rc.M) vs ts h' nx' := by
  unfold dOneD at hf
  cases hg : o.guard with
  | none =>
    rw [hg] at hf
    cases hf
    obtain ⟨v, rc, h', nx', ⟨h1, h2, h4, h5⟩, h3⟩ := stepD_ok (n := n) hge hno
    refine ⟨v, rc, h', nx', ⟨fun S R a w F hfr hU _ hdm hb hF hp K Q hK => noG hoj hg (h1 S R a w F hfr hU hdm hb hF hp K Q hK), h2, fun hh q => ?_, h5⟩, h3⟩
    obtain ⟨r, q1, q2, q3, q4⟩ := h4 hh q
    exact ⟨r, q1, q2, q3, fun S R a w F hfr hU _ hdm hF hp K Q hK => noG hoj hg (q4 S R a w F hfr hU hdm hF hp K Q hK)⟩
  | some jb =>
    obtain ⟨i, b⟩ := jb
    rw [hg] at hf
    simp only at hf
    unfold gdX at hf
    rw [opAt_eq] at hf
    split at hf
    · rename_i x hx
      cases hf
      split at hx
      · rename_i g' hg'
        split at hx
        · rename_i t ht
          have hx' : dX nv (.tmp t) = .mk x := by injection hx
          have hget : ops[i]? = some g' := by rw [← Array.getElem?_toList]; exact hg'
          have hGT : GuardT ops o t := ⟨i, b, g', hg, hget, ht⟩
          unfold gdD at hno ⊢
          have sk : (∀ (S : Nat → Prop) (R : Ren) (a : Act), FrOk S R nv n vs ts a.tmps → S t → yielded ops a.tmps i ≠ some b) → StepF P nv n ops j o vs ts h nx undef ⟨[], some [], never, h⟩ h nx := fun hy =>
            ⟨fun S R a w F hfr hU hG hdm hb hF hp K Q hK => by
              unfold wpOpIn
              have := hy S R a hfr (hG t hGT)
              simp only [hoj, Region.wanted, hg]
              rw [if_neg (by simpa using this)]
              exact ⟨fun f _ => hF.1 f, hK R _ w (Ext.refl R h nx w hdm) (VR.undef R)⟩, .inl rfl, fun h2 q => (by cases q), fun q => absurd rfl q⟩
          cases hxv : x vs ts with
          | none => rw [hxv] at hno; exact absurd rfl hno
          | some u =>
            rw [hxv] at hno
            have hu : (∃ y, u = .bool y) ∨ ∀ y, u ≠ .bool y := by cases u <;> first | exact .inl ⟨_, rfl⟩ | exact .inr fun y e => by cases e
            rcases hu with ⟨y, rfl⟩ | hu
            · have hyl : ∀ (S : Nat → Prop) (R : Ren) (a : Act), FrOk S R nv n vs ts a.tmps → S t → yielded ops a.tmps i = some y := fun S R a hfr hS => by
                obtain ⟨v', h1, h2⟩ := dX_tmpS hx' hfr hS hxv
                cases h2
                simp [yielded, hget, ht, h1]
              by_cases e : y = b
              · subst e
                simp only [beq_self_eq_true] at hno ⊢
                obtain ⟨v, rc, h', nx', ⟨h1, h2, h4, h5⟩, h3⟩ := stepD_ok (n := n) hge hno
                refine ⟨v, rc, h', nx', ⟨fun S R a w F hfr hU hG hdm hb hF hp K Q hK => ?_, h2, fun hh q => ?_, h5⟩, h3⟩
                · unfold wpOpIn
                  simp only [hoj, Region.wanted, hg]
                  rw [if_pos (by rw [hyl S R a hfr (hG t hGT)]; simp)]
                  exact h1 S R a w F hfr hU hdm hb hF hp K Q hK
                · obtain ⟨r, q1, q2, q3, q4⟩ := h4 hh q
                  refine ⟨r, q1, q2, q3, fun S R a w F hfr hU hG hdm hF hp K Q hK => ?_⟩
                  unfold wpOpIn
                  simp only [hoj, Region.wanted, hg]
                  rw [if_pos (by rw [hyl S R a hfr (hG t hGT)]; simp)]
                  exact q4 S R a w F hfr hU hdm hF hp K Q hK
              · have e2 : (y == b) = false := by simpa using e
                refine ⟨undef, ⟨[], some [], never, h⟩, h, nx, sk fun S R a hfr hS => by rw [hyl S R a hfr hS]; simpa using e, ?_⟩
                simp only [e2]
                rfl
            · refine ⟨undef, ⟨[], some [], never, h⟩, h, nx, sk fun S R a hfr hS => ?_, ?_⟩
              · obtain ⟨v', h1, h2⟩ := dX_tmpS hx' hfr hS hxv
                intro hy
                simp only [yielded, hget, Option.bind_some, ht, h1] at hy
                split at hy
                · rename_i hb; cases hb
                  cases h2
                  exact hu _ rfl
                · cases hy
              · cases u <;> first | rfl | exact absurd rfl (hu _)
        · cases hx
      · cases hx
    · cases hf
end
end Vm
end Go
namespace Go
namespace Vm
variable {P : Program}
section
variable {nv n : Nat}
def curOf (nv : Nat) (vs : Vs) (ts : Ts) (t : Nat) : Option Value := if t < nv then Lv.get VD t vs else find t ts
theorem FrOk.ofCur {S : Nat → Prop} {R : Ren} {vs : Vs} {ts : Ts} {tm : Array Value} (h1 : tm.size = n) (h2 : nv ≤ 64) (h3 : ∀ t v, S t → curOf nv vs ts t = some v → ∃ v', tm[t]? = some v' ∧ VR R v v') (hg : ∀ g, g < NG → R.blk g = some g) :
    FrOk S R nv n vs ts tm :=
  ⟨h1, h2, fun t v hs ht hv => h3 t v hs (by rw [curOf, if_pos ht]; exact hv), fun t v hs ht hv => h3 t v hs (by rw [curOf, if_neg (by omega)]; exact hv), hg⟩
theorem FrOk.cur {S : Nat → Prop} {R : Ren} {vs : Vs} {ts : Ts} {tm : Array Value} (h : FrOk S R nv n vs ts tm) {t : Nat} {v : Value} (hs : S t) (hc : curOf nv vs ts t = some v) : ∃ v', tm[t]? = some v' ∧ VR R v v' := by
  unfold curOf at hc
  by_cases ht : t < nv
  · rw [if_pos ht] at hc; exact h.var t v hs ht hc
  · rw [if_neg ht] at hc; exact h.tmp t v hs (by omega) hc
theorem put_eq (hnv : nv ≤ 64) {dst : Option Nat} {d : Dst} (hd : dDst nv n dst = some d) (v : Value) (vs : Vs) (ts : Ts) :
    ∃ vs' ts', (∀ k ih z h nx, putK d v k ih z vs ts h nx = k ih z vs' ts' h nx) ∧ (∀ t, curOf nv vs' ts' t = if dst = some t then some v else curOf nv vs ts t) ∧ ∀ t, dst = some t → t < n := by
  have hvd : (2 : Nat) ^ VD = 64 := rfl
  rcases dDst_cases hd with ⟨rfl, rfl⟩ | ⟨t, rfl, ht, ⟨h2, rfl⟩ | ⟨h2, s, rfl, hs⟩⟩
  · exact ⟨vs, ts, fun _ _ _ _ _ => rfl, fun t => by simp, fun t e => by cases e⟩
  · refine ⟨vs, (t, v) :: ts, fun _ _ _ _ _ => rfl, fun u => ?_, fun u e => by cases e; exact ht⟩
    unfold curOf
    rw [find_cons]
    by_cases e : t = u
    · subst e; simp [Nat.not_lt.2 h2]
    · have : ¬ (some t = some u) := fun q => e (by injection q)
      simp only [e, this, if_false]
  · refine ⟨s v vs, ts, fun _ _ _ _ _ => rfl, fun u => ?_, fun u e => by cases e; exact ht⟩
    unfold curOf
    rw [hs]
    by_cases hu : u < nv
    · rw [if_pos hu, if_pos hu, Lv.get_set VD t u v vs (by omega) (by omega)]
      by_cases e : u = t
      · subst e; simp
      · have : ¬ (some t = some u) := fun q => e (by injection q with q; exact q.symm)
        simp only [e, this, if_false]
    · have : ¬ (some t = some u) := fun q => hu (by injection q with q; omega)
      simp only [hu, this, if_false]
structure Fs where
  VS : Nat → Vs
  TS : Nat → Ts
  H : Nat → Hp
  NX : Nat → Nat
  V : Nat → Value
  RC : Nat → Rec1
def Fs.cur (t : Fs) (nv i s : Nat) : Option Value := curOf nv (t.VS i) (t.TS i) s
def TrOk (P : Program) (nv n : Nat) (ops : Array Oper) (t : Fs) (i : Nat) : Prop := ∀ o, ops[i]? = some o →
  StepF P nv n ops i o (t.VS i) (t.TS i) (t.H i) (t.NX i) (t.V i) (t.RC i) (t.H (i + 1)) (t.NX (i + 1)) ∧
  (∀ s, t.cur nv (i + 1) s = if o.dst = some s then some (t.V i) else t.cur nv i s) ∧ ∀ s, o.dst = some s → s < n
theorem trace {ih : Rec} (hge : AllGe P ih) (hnv : nv ≤ 64) {ops : Array Oper} {kend : KD} : ∀ (l : List Oper) (j0 : Nat), (∀ i, ops[j0 + i]? = l[i]?) → ∀ {f : KD}, dOpsD P nv n ops.toList kend l = .mk f →
    ∀ {rs : List Rec1} {z : Z} {vs : Vs} {ts : Ts} {h : Hp} {nx : Nat}, f rs ih z vs ts h nx ≠ .no →
    ∃ t : Fs, t.VS j0 = vs ∧ t.TS j0 = ts ∧ t.H j0 = h ∧ t.NX j0 = nx ∧ (∀ i, j0 ≤ i → i < j0 + l.length → TrOk P nv n ops t i) ∧
      ∃ z' : Z, z'.n0 = z.n0 ∧ z'.rd = z.rd ∧ z'.D = z.D ∧ (∀ m, m ∈ z'.log ↔ m ∈ z.log ∨ ∃ i, j0 ≤ i ∧ i < j0 + l.length ∧ m ∈ (t.RC i).M ∧ m < z.n0) ∧
        f rs ih z vs ts h nx = kend (((List.range' j0 l.length).map t.RC).reverse ++ rs) ih z' (t.VS (j0 + l.length)) (t.TS (j0 + l.length)) (t.H (j0 + l.length)) (t.NX (j0 + l.length)) := by
  intro l
  induction l with
  | nil =>
    intro j0 _ f hf rs z vs ts h nx hno
    cases hf
    exact ⟨⟨fun _ => vs, fun _ => ts, fun _ => h, fun _ => nx, fun _ => undef, fun _ => ⟨[], none, never, h⟩⟩, rfl, rfl, rfl, rfl, fun i a b => by simp at b; omega, z, rfl, rfl, rfl,
      fun m => ⟨.inl, fun q => q.elim id fun ⟨i, a, b, _⟩ => by simp at b; omega⟩, rfl⟩
  | cons o l ihl =>
    intro j0 hops f hf rs z vs ts h nx hno
    have e : dOpsD P nv n ops.toList kend (o :: l) = match dOpsD P nv n ops.toList kend l, dDst nv n o.dst with
      | .mk k, some d => dOneD P nv ops.toList o d k
      | _, _ => .bad := rfl
    rw [e] at hf
    split at hf
    rotate_left
    · cases hf
    rename_i k d hk hd
    have hoj : ops[j0]? = some o := by have := hops 0; simpa using this
    obtain ⟨v, rc, h', nx', hst, heq⟩ := oneD_ok hge hoj hd hf hno
    obtain ⟨vs', ts', hput, hcur, hlt⟩ := put_eq hnv hd v vs ts
    rw [heq, hput] at hno ⊢
    obtain ⟨t, q1, q2, q3, q4, q5, z', z1, z2, z3, z4, z5⟩ := ihl (j0 + 1) (fun i => by have := hops (i + 1); simpa [Nat.add_assoc, Nat.add_comm 1 i] using this) hk hno
    refine ⟨⟨fun i => if i = j0 then vs else t.VS i, fun i => if i = j0 then ts else t.TS i, fun i => if i = j0 then h else t.H i, fun i => if i = j0 then nx else t.NX i, fun i => if i = j0 then v else t.V i, fun i => if i = j0 then rc else t.RC i⟩,
      by simp, by simp, by simp, by simp, fun i hi1 hi2 => ?_, z', z1, z2, z3, fun m => ?_, ?_⟩
    · by_cases hij : i = j0
      · subst hij
        intro o' ho'
        rw [hoj] at ho'; cases ho'
        have hne : ¬ i + 1 = i := by omega
        simp only [if_true, hne, if_false, Fs.cur, q1, q2, q3, q4]
        exact ⟨hst, hcur, hlt⟩
      · have := q5 i (by omega) (by simp only [List.length_cons] at hi2; omega)
        intro o' ho'
        have hne : ¬ i + 1 = j0 := by omega
        simp only [hij, hne, if_false, Fs.cur]
        exact this o' ho'
    · rw [z4]
      simp only [logZ, logs_mem, List.length_cons]
      constructor
      · rintro ((⟨a, b⟩ | a) | ⟨i, a, b, c, d⟩)
        · exact .inr ⟨j0, Nat.le_refl _, by omega, by simpa using a, b⟩
        · exact .inl a
        · exact .inr ⟨i, by omega, by omega, by rw [if_neg (by omega)]; exact c, d⟩
      · rintro (a | ⟨i, a, b, c, d⟩)
        · exact .inl (.inr a)
        · by_cases hij : i = j0
          · subst hij
            simp only [if_true] at c
            exact .inl (.inl ⟨c, d⟩)
          · simp only [hij, if_false] at c
            exact .inr ⟨i, by omega, by omega, c, d⟩
    · rw [z5]
      have e1 : j0 + (l.length + 1) = j0 + 1 + l.length := by omega
      have hne : ¬ j0 + 1 + l.length = j0 := by omega
      simp only [List.length_cons, e1, hne, if_false]
      congr 1
      simp only [List.range'_succ, List.map_cons, if_true, List.reverse_cons, List.append_assoc, List.singleton_append]
      congr 2
      apply List.map_congr_left
      intro x hx
      simp only [List.mem_range'_1] at hx
      rw [if_neg (by omega)]
end
end Vm
end Go
namespace Go
namespace Vm
def Bef (ops : Array Oper) (i j : Nat) : Prop := ((Region.before ops).getD j 0).testBit i = true
def befO (acc : Array Nat) (o : Oper) : Nat := o.after.foldl (fun s e => if Region.binds .any e then s ||| 2 ^ e.on ||| acc.getD e.on 0 else s) 0
theorem befO_bit {acc : Array Nat} {m : Nat} : ∀ (l : List Edge) (s : Nat), (l.foldl (fun s e => if Region.binds .any e then s ||| 2 ^ e.on ||| acc.getD e.on 0 else s) s).testBit m = true →
    s.testBit m = true ∨ ∃ e, e ∈ l ∧ Region.binds .any e = true ∧ (m = e.on ∨ (acc.getD e.on 0).testBit m = true) := by
  intro l
  induction l with
  | nil => intro s h; exact .inl h
  | cons e l ih =>
    intro s h
    simp only [List.foldl_cons] at h
    rcases ih _ h with q | ⟨e', h1, h2, h3⟩
    · by_cases hb : Region.binds .any e = true
      · rw [if_pos hb, Nat.testBit_or, Nat.testBit_or, Nat.testBit_two_pow] at q
        simp only [Bool.or_eq_true, decide_eq_true_eq] at q
        rcases q with (q | q) | q
        · exact .inl q
        · exact .inr ⟨e, by simp, hb, .inl q.symm⟩
        · exact .inr ⟨e, by simp, hb, .inr q⟩
      · rw [if_neg hb] at q; exact .inl q
    · exact .inr ⟨e', List.mem_cons_of_mem _ h1, h2, h3⟩
theorem before_eq (ops : Array Oper) : Region.before ops = ops.toList.foldl (fun acc o => acc.push (befO acc o)) #[] := by
  unfold Region.before
  rw [← Array.foldl_toList]
  rfl
theorem bl_spec : ∀ (l : List Oper) (acc : Array Nat) (pre : List Oper), acc.size = pre.length → (∀ i m, (acc.getD i 0).testBit m = true → ∃ o e, pre[i]? = some o ∧ e ∈ o.after.toList ∧ Region.binds .any e = true ∧ (m = e.on ∨ (acc.getD e.on 0).testBit m = true)) →
    ∀ i m, ((l.foldl (fun acc o => acc.push (befO acc o)) acc).getD i 0).testBit m = true → ∃ o e, (pre ++ l)[i]? = some o ∧ e ∈ o.after.toList ∧ Region.binds .any e = true ∧ (m = e.on ∨ ((l.foldl (fun acc o => acc.push (befO acc o)) acc).getD e.on 0).testBit m = true) := by
  intro l
  induction l with
  | nil => intro acc pre _ h i m hb; simpa using h i m hb
  | cons o l ih =>
    intro acc pre hs h i m hb
    simp only [List.foldl_cons] at hb ⊢
    have hold : ∀ i m, (acc.getD i 0).testBit m = true → ((acc.push (befO acc o)).getD i 0).testBit m = true := fun i m q => by
      have hlt : i < acc.size := by
        rcases Nat.lt_or_ge i acc.size with k | k
        · exact k
        · rw [Array.getD_eq_getD_getElem?, Array.getElem?_eq_none k] at q; simp at q
      rw [Array.getD_eq_getD_getElem?, Array.getElem?_push_lt hlt, ← Array.getElem?_eq_getElem hlt, ← Array.getD_eq_getD_getElem?]
      exact q
    have := ih (acc.push (befO acc o)) (pre ++ [o]) (by simp [hs]) (fun i m q => ?_) i m hb
    · simpa using this
    · rcases Nat.lt_trichotomy i acc.size with k | k | k
      · have q' : (acc.getD i 0).testBit m = true := by
          rw [Array.getD_eq_getD_getElem?, Array.getElem?_push_lt k, ← Array.getElem?_eq_getElem k, ← Array.getD_eq_getD_getElem?] at q
          exact q
        obtain ⟨o', e, h1, h2, h3, h4⟩ := h i m q'
        exact ⟨o', e, by rw [List.getElem?_append_left (by omega)]; exact h1, h2, h3, h4.imp id (hold _ _)⟩
      · subst k
        rw [Array.getD_eq_getD_getElem?, Array.getElem?_push_size] at q
        simp only [Option.getD_some, befO, ← Array.foldl_toList] at q
        rcases befO_bit _ _ q with q | ⟨e, h1, h2, h3⟩
        · simp at q
        · exact ⟨o, e, by rw [hs]; simp, h1, h2, h3.imp id (hold _ _)⟩
      · rw [Array.getD_eq_getD_getElem?, Array.getElem?_eq_none (by simp; omega)] at q
        simp at q
theorem bef_edge {ops : Array Oper} {m i : Nat} (h : Bef ops m i) : ∃ o e, ops[i]? = some o ∧ e ∈ o.after.toList ∧ Region.binds .any e = true ∧ (m = e.on ∨ Bef ops m e.on) := by
  unfold Bef at h ⊢
  rw [before_eq] at h ⊢
  have := bl_spec ops.toList #[] [] rfl (fun i m q => by simp at q) i m h
  simpa using this
theorem edges_lt {ops : Array Oper} (h : edgesOk ops = true) {i : Nat} {o : Oper} {e : Edge} (ho : ops[i]? = some o) (he : e ∈ o.after.toList) (hb : Region.binds .any e = true) : e.on < i := by
  unfold edgesOk at h
  rw [List.all_eq_true] at h
  have := h (o, i) (by rw [List.mem_zipIdx_iff_getElem?]; simpa using ho)
  simp only [List.all_eq_true] at this
  have := this e he
  simp only [hb, Bool.not_true, Bool.false_or, blt_eq, decide_eq_true_eq] at this
  exact this
def Closed (ops : Array Oper) (L : Nat → Prop) (i : Nat) : Prop := ∀ o e, ops[i]? = some o → e ∈ o.after.toList → Region.binds .any e = true → L e.on
theorem bef_listed {ops : Array Oper} (hE : edgesOk ops = true) {L : Nat → Prop} (hL : ∀ i, L i → Closed ops L i) : ∀ i, Closed ops L i → ∀ m, Bef ops m i → L m := by
  intro i
  induction i using Nat.strongRecOn with
  | _ i ih =>
    intro hc m hm
    obtain ⟨o, e, h1, h2, h3, h4⟩ := bef_edge hm
    have hle := hc o e h1 h2 h3
    rcases h4 with rfl | h4
    · exact hle
    · exact ih e.on (edges_lt hE h1 h2 h3) (hL _ hle) m h4
theorem namesOf_mem {ops : List Oper} {o : Oper} {t : Nat} : (o.dst = some t ∨ Operand.tmp t ∈ o.op.operands.toList ∨ ∃ j b g, o.guard = some (j, b) ∧ ops[j]? = some g ∧ g.dst = some t) → t ∈ namesOf ops o := by
  intro h
  obtain ⟨base, hbase⟩ : ∃ base, base = (match o.guard with | none => [] | some (j, _) => (match opAt ops j with | some g => (match g.dst with | some t => [t] | none => []) | none => []) : List Nat) := ⟨_, rfl⟩
  obtain ⟨mid, hmid⟩ : ∃ mid : List Operand → List Nat, mid = fun l => List.rec base (fun x _ ih => match x with | .tmp t => t :: ih | _ => ih) l := ⟨_, rfl⟩
  have e : namesOf ops o = List.rec (mid o.op.operands.toList) (fun t _ ih => t :: ih) o.dst.toList := by rw [hmid, hbase]; rfl
  have hb : ∀ l, t ∈ base → t ∈ mid l := by
    intro l hq
    rw [hmid]
    induction l with
    | nil => exact hq
    | cons x l ih => cases x <;> first | exact List.mem_cons_of_mem _ ih | exact ih
  have hm : ∀ l, Operand.tmp t ∈ l → t ∈ mid l := by
    intro l hq
    rw [hmid]
    induction l with
    | nil => simp at hq
    | cons x l ih =>
      rcases List.mem_cons.1 hq with rfl | hq
      · exact List.mem_cons_self
      · have := ih hq
        cases x <;> first | exact List.mem_cons_of_mem _ this | exact this
  rw [e]
  have up : t ∈ mid o.op.operands.toList → t ∈ (List.rec (mid o.op.operands.toList) (fun t _ ih => t :: ih) o.dst.toList : List Nat) := fun q => by
    cases o.dst with
    | none => exact q
    | some d => exact List.mem_cons_of_mem _ q
  rcases h with h | h | ⟨j, b, g, h1, h2, h3⟩
  · rw [h]; exact List.mem_cons_self
  · exact up (hm _ h)
  · refine up (hb _ ?_)
    rw [hbase, h1]
    simp only [opAt_eq, h2, h3]
    simp
theorem names_bef {ops : Array Oper} (h : namesOk ops = true) {i j : Nat} {o o' : Oper} (ho : ops[j]? = some o) (ho' : ops[i]? = some o') (hij : i ≠ j) {t : Nat} (hd : o'.dst = some t) (ht : t ∈ namesOf ops.toList o) : Bef ops (min i j) (max i j) := by
  unfold namesOk at h
  rw [List.all_eq_true] at h
  have := h (o, j) (by rw [List.mem_zipIdx_iff_getElem?]; simpa using ho)
  simp only [List.all_eq_true] at this
  have := this t ht (o', i) (by rw [List.mem_zipIdx_iff_getElem?]; simpa using ho')
  have hne : Nat.beq i j = false := by cases q : Nat.beq i j with | false => rfl | true => exact absurd (Nat.eq_of_beq_eq_true q) hij
  simp only [hne, hd, Bool.false_or, Nat.beq_refl, Bool.not_true] at this
  exact this
theorem disj_eq {a b : List Nat} (h : disj a b = true) : ∀ x, x ∈ a → x ∉ b := by
  unfold disj at h
  simp only [List.all_eq_true] at h
  intro x hx hb
  have := h x hx x hb
  simp at this
theorem apart_bef {ops : Array Oper} {rs : List Rec1} (h : apartR ops rs = true) {k j : Nat} {rk rj : Rec1} (hk : rs[k]? = some rk) (hj : rs[j]? = some rj) (hjk : j ≠ k) (hM : rk.M ≠ []) :
    Bef ops (min j k) (max j k) ∨ (∃ T, rj.T = some T ∧ ∀ x, x ∈ T → x ∉ rk.M) ∨ (j < k ∧ rj.A rk.H = true) := by
  unfold apartR at h
  rw [List.all_eq_true] at h
  have := h (rk, k) (by rw [List.mem_zipIdx_iff_getElem?]; exact hk)
  have this : apart1 ops rs k rk.M rk.H = true := by
    revert this
    cases hq : rk.M with
    | nil => exact absurd hq hM
    | cons x l => simp only [hq]; exact id
  unfold apart1 at this
  rw [List.all_eq_true] at this
  have := this (rj, j) (by rw [List.mem_zipIdx_iff_getElem?]; exact hj)
  have hne : Nat.beq j k = false := by cases q : Nat.beq j k with | false => rfl | true => exact absurd (Nat.eq_of_beq_eq_true q) hjk
  simp only [hne, Bool.false_or, Bool.or_eq_true] at this
  rcases this with (this | this) | this
  · exact .inl this
  · split at this
    · rename_i T hT
      exact .inr (.inl ⟨T, hT, disj_eq this⟩)
    · cases this
  · simp only [Bool.and_eq_true, blt_eq, decide_eq_true_eq] at this
    exact .inr (.inr this)
theorem mem_ready {ops : Array Oper} {listed : Array Bool} {i : Nat} : i ∈ Region.ready .any ops listed ↔ i < ops.size ∧ listed.getD i true = false ∧ ∃ o, ops[i]? = some o ∧ ∀ e, e ∈ o.after.toList → Region.binds .any e = true → listed.getD e.on false = true := by
  unfold Region.ready
  rw [List.mem_filter, List.mem_range]
  refine and_congr_right fun hi => ?_
  rw [Bool.and_eq_true, Bool.not_eq_true']
  refine and_congr_right fun _ => ?_
  rw [Array.getElem?_eq_getElem hi]
  simp only [Option.map_some, Option.getD_some, Option.some.injEq, exists_eq_left']
  rw [← Array.all_toList, List.all_eq_true]
  constructor
  · intro h e he hb
    have := h e he
    simpa [hb] using this
  · intro h e he
    cases hb : Region.binds .any e with
    | false => rfl
    | true => simpa [hb] using h e he hb
end Vm
end Go
namespace Go
namespace Vm
variable {P : Program}
def Ren.on (R Rc : Ren) : Ren := ⟨fun r => if (Rc.blk r).isSome then R.blk r else none, R.cap⟩
theorem on_some {R Rc : Ren} {r b : Nat} (h : R.blk r = some b) {bc : Nat} (hc : Rc.blk r = some bc) : (R.on Rc).blk r = some b := by simp [Ren.on, hc, h]
theorem on_inv {R Rc : Ren} {r b : Nat} (h : (R.on Rc).blk r = some b) : R.blk r = some b ∧ ∃ bc, Rc.blk r = some bc := by
  simp only [Ren.on] at h
  split at h
  · rename_i q; exact ⟨h, Option.isSome_iff_exists.1 q⟩
  · cases h
theorem arr_get {xs ys : Array Value} (h : xs.size = ys.size) {i : Nat} {x : Value} (hx : xs[i]? = some x) : ∃ y, ys[i]? = some y := by
  have := (Array.getElem?_eq_some_iff.1 hx).1
  exact ⟨ys[i]'(by omega), Array.getElem?_eq_getElem (by omega)⟩
theorem VR.on {R Rc : Ren} {v v' : Value} (h : VR R v v') : ∀ {vc : Value}, VR Rc v vc → VR (R.on Rc) v v' := by
  induction h with
  | bool b => intro _ _; exact .bool b
  | int k n => intro _ _; exact .int k n
  | string s => intro _ _; exact .string s
  | ptr0 => intro _ _; exact .ptr0
  | ptr o hb => intro vc hc; cases hc with | ptr _ hb' => exact .ptr o (on_some hb hb')
  | slice0 n c => intro _ _; exact .slice0 n c
  | slice o n hb hc hn => intro vc k; cases k with | slice _ _ hb' _ _ => exact .slice o n (on_some hb hb') hc hn
  | map0 => intro _ _; exact .map0
  | map hb => intro vc k; cases k with | map hb' => exact .map (on_some hb hb')
  | nilFunc => intro _ _; exact .nilFunc
  | empty a c => intro _ _; exact .empty a c
  | nilIface => intro _ _; exact .nilIface
  | fn f hx _ hy _ ih1 ih2 =>
    intro vc k
    cases k with
    | fn _ kx kxs ky kys =>
      exact .fn f hx (fun i x x' a b => by obtain ⟨y, hy⟩ := arr_get kx a; exact ih1 i x x' a b (kxs i x y a hy)) hy
        (fun i x x' a b => by obtain ⟨y, hy⟩ := arr_get ky a; exact ih2 i x x' a b (kys i x y a hy))
  | yld hb => intro vc k; cases k with | yld hb' => exact .yld (on_some hb hb')
  | agg hx _ h1 ih =>
    intro vc k
    cases k with
    | agg kx kxs _ => exact .agg hx (fun i x x' a b => by obtain ⟨y, hy⟩ := arr_get kx a; exact ih i x x' a b (kxs i x y a hy)) h1
  | tuple hx _ ih =>
    intro vc k
    cases k with
    | tuple kx kxs => exact .tuple hx (fun i x x' a b => by obtain ⟨y, hy⟩ := arr_get kx a; exact ih i x x' a b (kxs i x y a hy))
theorem EsR.on {R Rc : Ren} {es : List (Value × Value)} {l : List MapEntry} (h : EsR R es l) : ∀ {lc : List MapEntry}, EsR Rc es lc → EsR (R.on Rc) es l := by
  induction h with
  | nil => intro _ _; exact .nil
  | cons hk hv _ ih => intro lc k; cases k with | cons _ hv' k' => exact .cons hk (hv.on hv') (ih k')
theorem CelR.on {R Rc : Ren} {c : List Value} {cs csc : Array Value} (h : CelR R c cs) (k : CelR Rc c csc) : CelR (R.on Rc) c cs :=
  ⟨h.1, fun i x hx => ⟨(h.2 i x hx).1, by
    obtain ⟨x', h1, h2⟩ := (h.2 i x hx).2
    obtain ⟨xc, _, k2⟩ := (k.2 i x hx).2
    exact ⟨x', h1, h2.on k2⟩⟩⟩
theorem RowO.on {R Rc : Ren} {r : Nat} {x : Row} {o oc : Obj} (h : RowO R r x o) (k : RowO Rc r x oc) : RowO (R.on Rc) r x o := by
  unfold RowO at h k ⊢
  cases x with
  | cells c loose => obtain ⟨cs, e, h1, h2, h3⟩ := h; obtain ⟨csc, ec, _, k2, _⟩ := k; exact ⟨cs, e, h1, h2.on k2, h3⟩
  | ro c => obtain ⟨cs, e, fz, h1, h2⟩ := h; obtain ⟨csc, ec, fzc, _, k2⟩ := k; exact ⟨cs, e, fz, h1, h2.on k2⟩
  | map es ck => obtain ⟨es', ck', h1, h2, h3⟩ := h; obtain ⟨esc, ckc, _, k2, _⟩ := k; exact ⟨es', ck', h1, h2.on k2, h3⟩
  | loop ready pend nv n vars ps asg body d =>
    obtain ⟨l, h1, h2, h3, h4, h5, h6, h7, h8⟩ := h
    obtain ⟨lc, _, _, _, k4, _, _, _, k8⟩ := k
    refine ⟨l, h1, h2, h3, ⟨h4.1, h4.2.1, fun t v ht hv => ?_⟩, h5, h6, h7, on_some h8 k8⟩
    obtain ⟨v', a, b⟩ := h4.2.2 t v ht hv
    obtain ⟨vc, _, bc⟩ := k4.2.2 t v ht hv
    exact ⟨v', a, b.on bc⟩
  | deferred => exact h
  | dead => trivial
theorem wp_exists {F : Fence} (hF : Wd F) {ops : Array Oper} {j : Nat} {K : Act → World → Prop} {a : Act} {w : World} (h : wpOpIn F 0 P ops (fun _ _ _ => False) j K a w) : ∃ a' w', K a' w' := by
  have room : ∀ m, F.room m := fun m d hd => by rw [hF.2] at hd; cases hd
  unfold wpOpIn at h
  split at h
  · exact ⟨_, _, h⟩
  · split at h
    · obtain ⟨_, h⟩ := h
      generalize (Oper.semAt F.round _ _).run P w = r at h
      cases r with
      | ok x w' =>
        cases x with
        | value v => exact ⟨_, _, h⟩
        | skip => exact ⟨_, _, h⟩
        | defer d => exact ⟨_, _, h⟩
        | enter f args =>
          obtain ⟨_, h⟩ := h
          obtain ⟨e, w2, fr, hR, _⟩ := h.2 [] (room _)
          cases e with
          | returned v => exact ⟨_, _, hR⟩
          | panicked c => exact hR.elim
          | outgrown => obtain ⟨_, _, q⟩ := hR; exact q.elim
        | row row args =>
          obtain ⟨_, h⟩ := h
          obtain ⟨v, w2, hR, _⟩ := h default [] (room _)
          exact ⟨_, _, hR⟩
        | round l f tm as bo =>
          obtain ⟨_, h⟩ := h
          obtain ⟨e, w2, hR, _⟩ := h.2 default [] (room _)
          cases e with
          | returned v => exact ⟨_, _, hR⟩
          | panicked c => exact hR.elim
          | outgrown => obtain ⟨_, _, q⟩ := hR; exact q.elim
        | _ => exact h.elim
      | halt x w' => cases x <;> exact h.elim
    · exact ⟨_, _, h.2⟩
section
variable {nv n : Nat}
structure Can (nv n : Nat) (t : Fs) (R0 : Ren) (w0 : World) (i : Nat) (R : Ren) (a : Act) (w : World) (M : List Nat) : Prop where
  hr : HR R (t.H i) w
  dom : Dom R (t.NX i)
  fr : FrOk (fun _ => True) R nv n (t.VS i) (t.TS i) a.tmps
  ext : Ext R0 R (t.H 0) (t.H i) (t.NX 0) (t.NX i) M w0 w
  mem : ∀ m, m ∈ M ↔ m < t.NX 0 ∧ ∃ k, k < i ∧ m ∈ (t.RC k).M
theorem canon_step {ops : Array Oper} {t : Fs} {F : Fence} (hF : Wd F) {R0 : Ren} {w0 : World} (hd0 : Dom R0 (t.NX 0)) (hh0 : HR R0 (t.H 0) w0) {i : Nat} (hi : i < ops.size) (ht : TrOk P nv n ops t i) {R a w M} (c : Can nv n t R0 w0 i R a w M) :
    ∃ R' a' w' M', Can nv n t R0 w0 (i + 1) R' a' w' M' ∧ Ext R R' (t.H i) (t.H (i + 1)) (t.NX i) (t.NX (i + 1)) (t.RC i).M w w' := by
  obtain ⟨⟨hsem, _⟩, hcur, hlt⟩ := ht ops[i] (Array.getElem?_eq_getElem hi)
  have hp : Pre (t.RC i).T R (t.H i) w := by unfold Pre; split <;> first | exact c.hr | exact fun r _ => c.hr.at r
  obtain ⟨a', w', R', v', e, hv, rfl⟩ := wp_exists hF (hsem (fun _ => True) R a w F c.fr (fun _ _ => trivial) (fun _ _ => trivial) c.dom c.hr.bnd hF hp (fun a' w' => ∃ R' v', Ext R R' (t.H i) (t.H (i + 1)) (t.NX i) (t.NX (i + 1)) (t.RC i).M w w' ∧ VR R' (t.V i) v' ∧ a' = a.put ops[i].dst v') (fun _ _ _ => False)
    fun R' v' w' e hv => ⟨R', v', e, hv, rfl⟩)
  have hext := c.ext.trans e hd0 hh0
  refine ⟨R', a.put ops[i].dst v', w', _, ⟨e.hr c.dom c.hr, e.domNew c.dom, ?_, hext, fun m => ?_⟩, e⟩
  · refine FrOk.ofCur ?_ c.fr.nvle (fun s v _ hc => ?_) fun g hg => (e.le _ _ (c.fr.glob g hg)).1
    · cases hq : ops[i].dst <;> simp [Act.put, c.fr.size]
    · have hcs := hcur s
      unfold Fs.cur at hcs
      rw [hcs] at hc
      by_cases q : ops[i].dst = some s
      · rw [if_pos q] at hc
        cases hc
        exact ⟨v', by rw [q]; simp [Act.put, c.fr.size, hlt s q], hv⟩
      · rw [if_neg q] at hc
        obtain ⟨x', h1, h2⟩ := c.fr.cur trivial hc
        refine ⟨x', ?_, h2.mono e.le⟩
        cases hd : ops[i].dst with
        | none => exact h1
        | some d => simp only [Act.put]; rw [Array.getElem?_setIfInBounds_ne (fun z => q (by rw [hd, z]))]; exact h1
  · rw [logs_mem, c.mem]
    constructor
    · rintro (⟨a, b⟩ | ⟨a, k, b, c⟩)
      · exact ⟨b, i, by omega, a⟩
      · exact ⟨a, k, by omega, c⟩
    · rintro ⟨a, k, b, c1⟩
      by_cases q : k = i
      · subst q; exact .inl ⟨c1, a⟩
      · exact .inr ⟨a, k, by omega, c1⟩
theorem canon {ops : Array Oper} {t : Fs} {F : Fence} (hF : Wd F) {R0 : Ren} {w0 : World} {a0 : Act} (hd0 : Dom R0 (t.NX 0)) (hh0 : HR R0 (t.H 0) w0) (hfr : FrOk (fun _ => True) R0 nv n (t.VS 0) (t.TS 0) a0.tmps) (ht : ∀ i, i < ops.size → TrOk P nv n ops t i) :
    ∀ i, i ≤ ops.size → ∃ R a w M, Can nv n t R0 w0 i R a w M := by
  intro i
  induction i with
  | zero => intro _; exact ⟨R0, a0, w0, [], hh0, hd0, hfr, Ext.refl _ _ _ _ hd0, fun m => by simp⟩
  | succ i ih =>
    intro hi
    obtain ⟨R, a, w, M, c⟩ := ih (by omega)
    obtain ⟨R', a', w', M', c', _⟩ := canon_step hF hd0 hh0 (by omega) (ht i (by omega)) c
    exact ⟨R', a', w', M', c'⟩
end
end Vm
end Go
namespace Go
namespace Vm
variable {P : Program}
def Wr (t : Fs) (k r : Nat) : Prop := r ∈ (t.RC k).M ∨ (t.NX k ≤ r ∧ r < t.NX (k + 1))
structure Fx (P : Program) (nv n : Nat) (ops : Array Oper) (t : Fs) (R0 : Ren) (w0 : World) : Prop where
  hE : edgesOk ops = true
  hN : namesOk ops = true
  tr : ∀ i, i < ops.size → TrOk P nv n ops t i
  ap : ∀ k j, k < ops.size → j < ops.size → j ≠ k → (t.RC k).M ≠ [] → Bef ops (min j k) (max j k) ∨ (∃ T, (t.RC j).T = some T ∧ ∀ x, x ∈ T → x ∉ (t.RC k).M) ∨ (j < k ∧ (t.RC j).A (t.H (k + 1)) = true)
  can : ∀ i, i ≤ ops.size → ∃ R a w M, Can nv n t R0 w0 i R a w M
  up : ∀ i, i < ops.size → t.NX i ≤ t.NX (i + 1)
  same : ∀ i, i < ops.size → ∀ r, r < t.NX i → r ∉ (t.RC i).M → hget (t.H (i + 1)) r = hget (t.H i) r
  live : ∀ i, i < ops.size → ∀ m, m ∈ (t.RC i).M → m < t.NX i ∧ Live (t.H i) m
  hd0 : Dom R0 (t.NX 0)
  gl0 : ∀ g, g < NG → R0.blk g = some g
  hh0 : HR R0 (t.H 0) w0
section
variable {nv n : Nat} {ops : Array Oper} {t : Fs} {R0 : Ren} {w0 : World}
theorem Fx.ap' (X : Fx P nv n ops t R0 w0) {k j : Nat} (hk : k < ops.size) (hj : j < ops.size) (hjk : j ≠ k) (hM : (t.RC k).M ≠ []) (hn : (t.RC j).M ≠ [] ∨ (t.RC j).T = none) :
    Bef ops (min j k) (max j k) ∨ ∃ T, (t.RC j).T = some T ∧ ∀ x, x ∈ T → x ∉ (t.RC k).M := by
  rcases X.ap k j hk hj hjk hM with q | q | ⟨_, q⟩
  · exact .inl q
  · exact .inr q
  · obtain ⟨⟨_, _, h3, _⟩, _⟩ := X.tr j hj ops[j] (Array.getElem?_eq_getElem hj)
    obtain ⟨r, q1, q2, _⟩ := h3 _ q
    rcases hn with hn | hn
    · exact absurd q2 hn
    · rw [q1] at hn; cases hn
theorem exists_last (p : Nat → Prop) (c k : Nat) (hk : k < c) (h : p k) : ∃ m, k ≤ m ∧ m < c ∧ p m ∧ ∀ q, m < q → q < c → ¬ p q := by
  induction c with
  | zero => omega
  | succ c ih =>
    by_cases hc : p c
    · exact ⟨c, by omega, by omega, hc, fun q a b => by omega⟩
    · by_cases e : k = c
      · subst e; exact absurd h hc
      · obtain ⟨m, h1, h2, h3, h4⟩ := ih (by omega)
        exact ⟨m, h1, by omega, h3, fun q a b => by
          by_cases e2 : q = c
          · rw [e2]; exact hc
          · exact h4 q a (by omega)⟩
theorem groundE_all {l : List (Value × Value)} (h : groundE l = true) : ∀ p, p ∈ l → ground p.2 = true := by
  induction l with
  | nil => intro p hp; simp at hp
  | cons x l ih =>
    have e : groundE (x :: l) = Bool.rec false (groundE l) (ground x.2) := rfl
    rw [e] at h
    cases hx : ground x.2 with
    | false => rw [hx] at h; cases h
    | true =>
      rw [hx] at h
      intro p hp
      rcases List.mem_cons.1 hp with rfl | hp
      · exact hx
      · exact ih h p hp
theorem EsR.any {R : Ren} {l : List (Value × Value)} {m : List MapEntry} (h : EsR R l m) (hg : ∀ p, p ∈ l → ground p.2 = true) (S : Ren) : EsR S l m := by
  induction h with
  | nil => exact .nil
  | @cons p e l m hk hv h ih =>
    refine .cons hk ?_ (ih fun q hq => hg q (List.mem_cons_of_mem _ hq))
    have := hg p List.mem_cons_self
    rw [ground_eq this hv]
    exact ground_vr this S
theorem RowO.any {R : Ren} {r : Nat} {x : Row} {ob : Obj} (h : RowO R r x ob) (hg : groundRow (some x) = true) (S : Ren) : RowO S r x ob := by
  unfold groundRow at hg
  split at hg
  · rename_i es ck e
    cases e
    obtain ⟨es', ck', h1, h2, h3⟩ := h
    exact ⟨es', ck', h1, h2.any (groundE_all hg) S, h3⟩
  · cases hg
theorem Fx.mono (X : Fx P nv n ops t R0 w0) {i : Nat} : ∀ d, i + d ≤ ops.size → t.NX i ≤ t.NX (i + d) := by
  intro d
  induction d with
  | zero => intro _; exact Nat.le_refl _
  | succ d ih => intro h; exact Nat.le_trans (ih (by omega)) (X.up (i + d) (by omega))
theorem Fx.le (X : Fx P nv n ops t R0 w0) {i j : Nat} (h : i ≤ j) (hj : j ≤ ops.size) : t.NX i ≤ t.NX j := by
  have := X.mono (i := i) (j - i) (by omega)
  rwa [show i + (j - i) = j by omega] at this
theorem Fx.maker (X : Fx P nv n ops t R0 w0) {i j r : Nat} (hi : i < ops.size) (hj : j < ops.size) (h1 : t.NX i ≤ r) (h2 : r < t.NX (i + 1)) (h3 : t.NX j ≤ r) (h4 : r < t.NX (j + 1)) : i = j := by
  rcases Nat.lt_trichotomy i j with k | k | k
  · have := X.le (i := i + 1) (j := j) k (by omega); omega
  · exact k
  · have := X.le (i := j + 1) (j := i) k (by omega); omega
theorem Fx.fwd (X : Fx P nv n ops t R0 w0) {i r : Nat} : ∀ d, i + d ≤ ops.size → (∀ k, i ≤ k → k < i + d → ¬ Wr t k r) → (t.NX i ≤ r → t.NX (i + d) ≤ r) ∧ (r < t.NX i → hget (t.H (i + d)) r = hget (t.H i) r) := by
  intro d
  induction d with
  | zero => intro _ _; exact ⟨id, fun _ => rfl⟩
  | succ d ih =>
    intro h hn
    obtain ⟨h1, h2⟩ := ih (by omega) fun k a b => hn k a (by omega)
    have hw := hn (i + d) (by omega) (by omega)
    refine ⟨fun hr => ?_, fun hr => ?_⟩
    · have := h1 hr
      rcases Nat.lt_or_ge r (t.NX (i + d + 1)) with k | k
      · exact absurd (.inr ⟨this, k⟩) hw
      · exact k
    · rw [← h2 hr]
      exact X.same (i + d) (by omega) r (by have := X.mono (i := i) d (by omega); omega) fun q => hw (.inl q)
theorem Fx.agree (X : Fx P nv n ops t R0 w0) {i j r : Nat} (hi : i ≤ ops.size) (hj : j ≤ ops.size) (hr : r < t.NX j) (h1 : ∀ k, i ≤ k → k < j → ¬ Wr t k r) (h2 : ∀ k, j ≤ k → k < i → ¬ Wr t k r) : hget (t.H i) r = hget (t.H j) r := by
  rcases Nat.le_total i j with k | k
  · have := X.fwd (i := i) (r := r) (j - i) (by omega) fun q a b => h1 q a (by omega)
    rw [show i + (j - i) = j by omega] at this
    rcases Nat.lt_or_ge r (t.NX i) with q | q
    · exact (this.2 q).symm
    · have := this.1 q; omega
  · have := X.fwd (i := j) (r := r) (i - j) (by omega) fun q a b => h2 q a (by omega)
    rw [show j + (i - j) = i by omega] at this
    exact this.2 hr
theorem Fx.curfwd (X : Fx P nv n ops t R0 w0) {i s : Nat} : ∀ d, i + d ≤ ops.size → (∀ k o, i ≤ k → k < i + d → ops[k]? = some o → o.dst ≠ some s) → t.cur nv (i + d) s = t.cur nv i s := by
  intro d
  induction d with
  | zero => intro _ _; rfl
  | succ d ih =>
    intro h hn
    rw [← ih (by omega) fun k o a b => hn k o a (by omega)]
    have hlt : i + d < ops.size := by omega
    have ho := Array.getElem?_eq_getElem hlt
    have := (X.tr (i + d) hlt _ ho).2.1 s
    rw [if_neg (hn (i + d) _ (by omega) (by omega) ho)] at this
    exact this
theorem Fx.curagree (X : Fx P nv n ops t R0 w0) {i j s : Nat} (hi : i ≤ ops.size) (hj : j ≤ ops.size) (h1 : ∀ k o, i ≤ k → k < j → ops[k]? = some o → o.dst ≠ some s) (h2 : ∀ k o, j ≤ k → k < i → ops[k]? = some o → o.dst ≠ some s) : t.cur nv i s = t.cur nv j s := by
  rcases Nat.le_total i j with k | k
  · have := X.curfwd (i := i) (s := s) (j - i) (by omega) fun q o a b => h1 q o a (by omega)
    rw [show i + (j - i) = j by omega] at this
    exact this.symm
  · have := X.curfwd (i := j) (s := s) (i - j) (by omega) fun q o a b => h2 q o a (by omega)
    rw [show j + (i - j) = i by omega] at this
    exact this
structure Inv (nv n : Nat) (ops : Array Oper) (t : Fs) (R0 : Ren) (w0 : World) (df : List Deferred) (L : Nat → Prop) (R : Ren) (C D : Nat → Nat) (a : Act) (w : World) : Prop where
  lt : ∀ k, L k → k < ops.size
  le : R0.le R
  dom : ∀ r b, R.blk r = some b → r < t.NX 0 ∧ R0.blk r = some b ∨ ∃ j, L j ∧ t.NX j ≤ r ∧ r < t.NX (j + 1)
  size : w0.heap.size ≤ w.heap.size
  os : w.os = w0.os
  tape : w.tape = w0.tape
  output : w.output = w0.output
  fresh : ∀ r b, R.blk r = some b → R0.blk r = some b ∨ w0.heap.size ≤ b ∨ ∃ m k, L k ∧ m ∈ (t.RC k).M ∧ R0.blk m = some b ∧ ¬ Live (t.H (C m)) m
  kept : ∀ b, b < w0.heap.size → (∀ k, L k → ∀ m, m ∈ (t.RC k).M → R0.blk m ≠ some b) → w.heap[b]? = w0.heap[b]?
  rows : ∀ r b x, R.blk r = some b → hget (t.H (C r)) r = some x → x ≠ .dead → ∃ o, w.heap[b]? = some o ∧ RowO R r x o
  inj : ∀ r s b, R.blk r = some b → R.blk s = some b → Live (t.H (C r)) r → Live (t.H (C s)) s → r = s
  bnd : ∀ r b, R.blk r = some b → b < w.heap.size
  cle : ∀ r, C r ≤ ops.size
  cut : ∀ r b, R.blk r = some b → ∀ k, k < ops.size → Wr t k r → (L k ↔ k < C r)
  mdom : ∀ k, L k → ∀ m, m ∈ (t.RC k).M → ∃ b, R.blk m = some b
  dle : ∀ s, D s ≤ ops.size
  slots : ∀ s v, t.cur nv (D s) s = some v → ∃ v', a.tmps[s]? = some v' ∧ VR R v v'
  scut : ∀ s k o, ops[k]? = some o → o.dst = some s → (L k ↔ k < D s)
  tsize : a.tmps.size = n
  dfr : a.defers = df
theorem Inv.start (X : Fx P nv n ops t R0 w0) {a : Act} {w : World} (hw : w.heap = w0.heap) (h1 : w.os = w0.os) (h2 : w.tape = w0.tape) (h3 : w.output = w0.output) (hfr : FrOk (fun _ => True) R0 nv n (t.VS 0) (t.TS 0) a.tmps) :
    Inv nv n ops t R0 w0 a.defers (fun _ => False) R0 (fun _ => 0) (fun _ => 0) a w where
  lt := fun _ h => h.elim
  le := .refl R0
  dom := fun r b h => .inl ⟨X.hd0.2 r b h, h⟩
  size := by rw [hw]; exact Nat.le_refl _
  os := h1
  tape := h2
  output := h3
  fresh := fun r b h => .inl h
  kept := fun b _ _ => by rw [hw]
  rows := fun r b x h1 h2 h3 => by rw [hw]; exact X.hh0.row r b x h1 h2 h3
  inj := X.hh0.inj
  bnd := fun r b h => by rw [hw]; exact X.hh0.bnd r b h
  cle := fun _ => Nat.zero_le _
  cut := fun r b _ k _ _ => by simp
  mdom := fun _ h => h.elim
  dle := fun _ => Nat.zero_le _
  slots := fun s v hc => hfr.cur trivial hc
  scut := fun s k o _ _ => by simp
  tsize := hfr.size
  dfr := rfl
end
end Vm
end Go
namespace Go
namespace Vm
variable {P : Program}
section
variable {nv n : Nat} {ops : Array Oper} {t : Fs} {R0 : Ren} {w0 : World}
open Classical in
theorem Inv.step (X : Fx P nv n ops t R0 w0) {F : Fence} (hF : Wd F) {df : List Deferred} {L : Nat → Prop} {R : Ren} {C D : Nat → Nat} {a : Act} {w : World} (I : Inv nv n ops t R0 w0 df L R C D a w)
    (hcl : ∀ i, L i → ∀ m, Bef ops m i → L m) {j : Nat} {o : Oper} (hj : ops[j]? = some o) (hnj : ¬ L j) (hbj : ∀ m, Bef ops m j → L m) {K : Act → World → Prop} {Q : Exit → Act → World → Prop}
    (hK : ∀ R' C' D' a' w', Inv nv n ops t R0 w0 df (fun i => L i ∨ i = j) R' C' D' a' w' → K a' w') : wpOpIn F 0 P ops Q j K a w := by
  have hjl : j < ops.size := (Array.getElem?_eq_some_iff.1 hj).1
  obtain ⟨⟨hsem, hmt, halt, _⟩, hcur, hlt⟩ := X.tr j hjl o hj
  obtain ⟨Rc, ac, wc, Mc, c⟩ := X.can j (Nat.le_of_lt hjl)
  have hord : ∀ k, Bef ops (min k j) (max k j) → k ≠ j → (L k ↔ k < j) := fun k hb hne => by
    rcases Nat.lt_or_ge k j with q | q
    · rw [Nat.min_eq_left (by omega), Nat.max_eq_right (by omega)] at hb
      exact ⟨fun _ => q, fun _ => hbj k hb⟩
    · rw [Nat.min_eq_right q, Nat.max_eq_left q] at hb
      exact ⟨fun h => absurd (hcl k h j hb) hnj, fun h => by omega⟩
  have hDj : Dom (R.on Rc) (t.NX j) := ⟨c.dom.1, fun r b h => by obtain ⟨_, bc, hc⟩ := on_inv h; exact c.dom.2 r bc hc⟩
  have hmk : ∀ r b, R.blk r = some b → r < t.NX j → ∀ k, k < ops.size → t.NX k ≤ r → r < t.NX (k + 1) → L k ∧ k < j := fun r b hb hr k hk h1 h2 => by
    refine ⟨?_, ?_⟩
    · rcases I.dom r b hb with ⟨q, _⟩ | ⟨i, q1, q2, q3⟩
      · have := X.le (i := 0) (j := k) (Nat.zero_le _) (by omega); omega
      · rw [X.maker hk (I.lt i q1) h1 h2 q2 q3]; exact q1
    · rcases Nat.lt_or_ge k j with q | q
      · exact q
      · have := X.le q (by omega : k ≤ ops.size); omega
  have agree : ∀ r b, R.blk r = some b → r < t.NX j → (∀ k, k < ops.size → k ≠ j → r ∈ (t.RC k).M → (L k ↔ k < j)) → hget (t.H (C r)) r = hget (t.H j) r := fun r b hb hr HO => by
    have all : ∀ k, k < ops.size → k ≠ j → Wr t k r → (L k ↔ k < j) := fun k hk hne hw => by
      rcases hw with q | ⟨q1, q2⟩
      · exact HO k hk hne q
      · have := hmk r b hb hr k hk q1 q2
        exact ⟨fun _ => this.2, fun _ => this.1⟩
    refine X.agree (I.cle r) (Nat.le_of_lt hjl) hr (fun k h1 h2 hw => ?_) (fun k h1 h2 hw => ?_)
    · have k1 := I.cut r b hb k (by omega) hw
      have k2 := all k (by omega) (by omega) hw
      have := k1.1 (k2.2 h2); omega
    · have hks : k < ops.size := by have := I.cle r; omega
      have k1 := I.cut r b hb k hks hw
      have hLk := k1.2 h2
      by_cases q : k = j
      · subst q; exact hnj hLk
      · have := (all k hks q hw).1 hLk; omega
  have hbndj : ∀ r b, (R.on Rc).blk r = some b → b < w.heap.size := fun r b h => I.bnd r b (on_inv h).1
  have rowj : ∀ r b x, (R.on Rc).blk r = some b → (∀ k, k < ops.size → k ≠ j → r ∈ (t.RC k).M → (L k ↔ k < j)) → hget (t.H j) r = some x → x ≠ .dead → ∃ o, w.heap[b]? = some o ∧ RowO (R.on Rc) r x o := fun r b x hb HO hx hn => by
    obtain ⟨hbR, bc, hbc⟩ := on_inv hb
    have hag := agree r b hbR (hDj.2 r b hb) HO
    obtain ⟨o', h1, h2⟩ := I.rows r b x hbR (hag.trans hx) hn
    obtain ⟨oc, _, h4⟩ := c.hr.row r bc x hbc hx hn
    exact ⟨o', h1, h2.on h4⟩
  have hpre : (∀ k, k < ops.size → k ≠ j → ∀ r, r ∈ (t.RC k).M → (∃ T, (t.RC j).T = some T ∧ r ∈ T) → (L k ↔ k < j)) → Pre (t.RC j).T (R.on Rc) (t.H j) w := by
    intro hO
    cases hT : (t.RC j).T with
    | some l =>
      intro r hr b x hb hx hn
      exact rowj r b x hb (fun k hk hne hm => hO k hk hne r hm ⟨l, hT, hr⟩) hx hn
    | none =>
      have HO : ∀ r k, k < ops.size → k ≠ j → r ∈ (t.RC k).M → (L k ↔ k < j) := fun r k hk hne hm => by
        rcases X.ap' hk hjl (Ne.symm hne) (fun e => by rw [e] at hm; simp at hm) (.inr hT) with q | ⟨T, q1, q2⟩
        · exact hord k (by rw [Nat.min_comm, Nat.max_comm]; exact q) hne
        · rw [hT] at q1; cases q1
      refine ⟨fun r b x hb hx hn => rowj r b x hb (HO r) hx hn, fun r s b hr hs lr ls => ?_, hbndj⟩
      have h1 := agree r b (on_inv hr).1 (hDj.2 r b hr) (HO r)
      have h2 := agree s b (on_inv hs).1 (hDj.2 s b hs) (HO s)
      exact I.inj r s b (on_inv hr).1 (on_inv hs).1 (by unfold Live; rw [h1]; exact lr) (by unfold Live; rw [h2]; exact ls)
  have hglR : ∀ g, g < NG → (R.on Rc).blk g = some g := fun g hg => on_some (I.le _ _ (X.gl0 g hg)).1 (c.fr.glob g hg)
  have hfrj : FrOk (fun s => s ∈ namesOf ops.toList o) (R.on Rc) nv n (t.VS j) (t.TS j) a.tmps := by
    refine FrOk.ofCur I.tsize c.fr.nvle (fun s v hs hc => ?_) hglR
    have wr : ∀ k o', ops[k]? = some o' → o'.dst = some s → k ≠ j → (L k ↔ k < j) := fun k o' hk hd hne => hord k (names_bef X.hN hj hk hne hd hs) hne
    have hag : t.cur nv (D s) s = t.cur nv j s := by
      refine X.curagree (I.dle s) (Nat.le_of_lt hjl) (fun k o' h1 h2 hk hd => ?_) (fun k o' h1 h2 hk hd => ?_)
      · have k1 := I.scut s k o' hk hd
        have k2 := wr k o' hk hd (by omega)
        have := k1.1 (k2.2 h2); omega
      · have hLk := (I.scut s k o' hk hd).2 h2
        by_cases q : k = j
        · subst q; exact hnj hLk
        · have := (wr k o' hk hd q).1 hLk; omega
    obtain ⟨v', h1, h2⟩ := I.slots s v (hag.trans hc)
    obtain ⟨vc, _, h4⟩ := c.fr.cur trivial hc
    exact ⟨v', h1, h2.on h4⟩
  have hsem' : ∀ (K : Act → World → Prop) (Q : Exit → Act → World → Prop), (∀ R' v' w', Ext (R.on Rc) R' (t.H j) (t.H (j + 1)) (t.NX j) (t.NX (j + 1)) (t.RC j).M w w' → VR R' (t.V j) v' → K (a.put o.dst v') w') → wpOpIn F 0 P ops Q j K a w := by
    by_cases hO : ∀ k, k < ops.size → k ≠ j → ∀ r, r ∈ (t.RC k).M → (∃ T, (t.RC j).T = some T ∧ r ∈ T) → (L k ↔ k < j)
    · exact hsem (fun s => s ∈ namesOf ops.toList o) (R.on Rc) a w F hfrj (fun s hs => namesOf_mem (.inr (.inl hs)))
        (fun s ⟨i, b, g, h1, h2, h3⟩ => namesOf_mem (.inr (.inr ⟨i, b, g, h1, by simpa using h2, h3⟩))) hDj hbndj hF (hpre hO)
    ·
      have : ∃ k, k < ops.size ∧ k ≠ j ∧ ∃ r, r ∈ (t.RC k).M ∧ (∃ T, (t.RC j).T = some T ∧ r ∈ T) ∧ ¬ (L k ↔ k < j) := by
        refine Classical.byContradiction fun hc => hO fun k hk hne r hr hT => Classical.byContradiction fun hq => hc ⟨k, hk, hne, r, hr, hT, hq⟩
      obtain ⟨k, hk, hne, r, hr, ⟨T, hT, hrT⟩, hq⟩ := this
      have alt : ∀ k, k < ops.size → k ≠ j → r ∈ (t.RC k).M → ¬ (L k ↔ k < j) → j < k ∧ (t.RC j).A (t.H (k + 1)) = true := fun k hk hne hr hq => by
        rcases X.ap k j hk hjl (Ne.symm hne) (fun e => by rw [e] at hr; simp at hr) with z | ⟨T', z1, z2⟩ | z
        · exact absurd (hord k (by rw [Nat.min_comm, Nat.max_comm]; exact z) hne) hq
        · rw [hT] at z1; cases z1; exact absurd hr (z2 r hrT)
        · exact z
      obtain ⟨hjk, hA⟩ := alt k hk hne hr hq
      have hLk : L k := Classical.byContradiction fun z => hq ⟨fun y => absurd y z, fun y => by omega⟩
      obtain ⟨r1, hT1, _, _, _⟩ := halt _ hA
      rw [hT] at hT1; cases hT1
      have hrr : r = r1 := by simpa using hrT
      subst hrr
      by_cases hbk : ∃ b, R.blk r = some b
      · obtain ⟨b0, hb0⟩ := hbk
        have hkC : k < C r := (I.cut r b0 hb0 k hk (.inl hr)).1 hLk
        obtain ⟨m, m1, m2, m3, m4⟩ := exists_last (fun q => Wr t q r) (C r) k hkC (.inl hr)
        have hms : m < ops.size := by have := I.cle r; omega
        have hrj : r < t.NX k := (X.live k hk r hr).1
        have hmM : r ∈ (t.RC m).M := m3.elim id fun z => by have := X.le m1 (Nat.le_of_lt hms); omega
        have hLm : L m := (I.cut r b0 hb0 m hms m3).2 m2
        obtain ⟨_, hAm⟩ := alt m hms (by omega) hmM (fun z => by have := z.1 hLm; omega)
        obtain ⟨r2, hT2, _, hg2, hs2⟩ := halt _ hAm
        rw [hT] at hT2; cases hT2
        refine hs2 (fun s => s ∈ namesOf ops.toList o) (R.on Rc) a w F hfrj (fun s hs => namesOf_mem (.inr (.inl hs)))
          (fun s ⟨i, b, g, h1, h2, h3⟩ => namesOf_mem (.inr (.inr ⟨i, b, g, h1, by simpa using h2, h3⟩))) hDj hF fun b x hb hx hn => ?_
        have hbR := (on_inv hb).1
        have hrm : r < t.NX (m + 1) := by have := X.le m1 (Nat.le_of_lt hms); have := X.up m hms; omega
        have hag : hget (t.H (C r)) r = hget (t.H (m + 1)) r := by
          have := (X.fwd (i := m + 1) (r := r) (C r - (m + 1)) (by have := I.cle r; omega) fun q a b => m4 q (by omega) (by omega)).2 hrm
          rwa [show m + 1 + (C r - (m + 1)) = C r by omega] at this
        obtain ⟨o', h1, h2⟩ := I.rows r b x hbR (hag.trans hx) hn
        exact ⟨o', h1, h2.any (by rw [← hx]; exact hg2) _⟩
      · obtain ⟨r2, hT2, _, hg2, hs2⟩ := halt _ hA
        rw [hT] at hT2; cases hT2
        exact hs2 (fun s => s ∈ namesOf ops.toList o) (R.on Rc) a w F hfrj (fun s hs => namesOf_mem (.inr (.inl hs)))
          (fun s ⟨i, b, g, h1, h2, h3⟩ => namesOf_mem (.inr (.inr ⟨i, b, g, h1, by simpa using h2, h3⟩))) hDj hF fun b x hb hx hn => absurd ⟨b, (on_inv hb).1⟩ hbk
  refine hsem' K Q fun R' v' w' e hv => ?_
  let rng : Nat → Prop := fun r => t.NX j ≤ r ∧ r < t.NX (j + 1)
  let Rn : Ren := ⟨fun r => if rng r then R'.blk r else R.blk r, fun r => if rng r then R'.cap r else R.cap r⟩
  have h0j : t.NX 0 ≤ t.NX j := X.le (Nat.zero_le _) (Nat.le_of_lt hjl)
  have hnew : ∀ r b, rng r → R.blk r ≠ some b := fun r b hr hb => by
    rcases I.dom r b hb with ⟨q, _⟩ | ⟨i, q1, q2, q3⟩
    · have := hr.1; omega
    · rw [X.maker (I.lt i q1) hjl q2 q3 hr.1 hr.2] at q1; exact hnj q1
  have rin : ∀ r, rng r → Rn.blk r = R'.blk r := fun r h => if_pos h
  have rout : ∀ r, ¬ rng r → Rn.blk r = R.blk r := fun r h => if_neg h
  have le1 : R.le Rn := fun r b h => by
    have : ¬ rng r := fun q => hnew r b q h
    exact ⟨by rw [rout r this]; exact h, if_neg this⟩
  have le2 : R'.le Rn := fun r b h => by
    by_cases q : rng r
    · exact ⟨by rw [rin r q]; exact h, if_pos q⟩
    · rcases e.dom r b h with k | ⟨k1, k2, _⟩
      · refine ⟨by rw [rout r q]; exact (on_inv k).1, ?_⟩
        have := (e.le r b k).2
        rw [show Rn.cap r = R.cap r from if_neg q]
        exact this.symm
      · exact absurd ⟨k1, k2⟩ q
  have hMb : ∀ r, r ∈ (t.RC j).M → ∃ b, R.blk r = some b ∧ (R.on Rc).blk r = some b ∧ R'.blk r = some b ∧ r < t.NX j ∧ ¬ rng r ∧ hget (t.H (C r)) r = hget (t.H j) r ∧ Live (t.H j) r := fun r hr => by
    obtain ⟨b, hb⟩ := e.mdom r hr
    obtain ⟨hlt', hlv⟩ := X.live j hjl r hr
    refine ⟨b, (on_inv hb).1, hb, (e.le r b hb).1, hlt', fun q => by have := q.1; omega, ?_, hlv⟩
    refine agree r b (on_inv hb).1 hlt' fun k hk hne hm => ?_
    rcases X.ap' hk hjl (Ne.symm hne) (fun e => by rw [e] at hm; simp at hm) (.inl (fun e => by rw [e] at hr; simp at hr)) with q | ⟨T, q1, q2⟩
    · exact hord k (by rw [Nat.min_comm, Nat.max_comm]; exact q) hne
    · rcases hmt with z | z | z
      · rw [z] at hr; simp at hr
      · rw [z] at q1; cases q1
      · rw [z] at q1; cases q1; exact absurd hm (q2 r hr)
  have liveC : ∀ r, r ∈ (t.RC j).M → Live (t.H (C r)) r := fun r hr => by
    obtain ⟨b, _, _, _, _, _, h1, h2⟩ := hMb r hr
    unfold Live; rw [h1]; exact h2
  let C' : Nat → Nat := fun r => if Wr t j r then j + 1 else C r
  have cin : ∀ r, Wr t j r → C' r = j + 1 := fun r h => if_pos h
  have cout : ∀ r, ¬ Wr t j r → C' r = C r := fun r h => if_neg h
  let D' : Nat → Nat := fun s => if o.dst = some s then j + 1 else D s
  have hup := X.up j hjl
  have freshN : ∀ r b, Rn.blk r = some b → R0.blk r = some b ∨ w0.heap.size ≤ b ∨ ∃ m k, (L k ∨ k = j) ∧ m ∈ (t.RC k).M ∧ R0.blk m = some b ∧ ¬ Live (t.H (C' m)) m := by
    have carry : ∀ m k b, L k → m ∈ (t.RC k).M → R0.blk m = some b → ¬ Live (t.H (C m)) m → ∃ m k, (L k ∨ k = j) ∧ m ∈ (t.RC k).M ∧ R0.blk m = some b ∧ ¬ Live (t.H (C' m)) m := fun m k b h1 h2 h3 h4 => by
      have hnw : ¬ Wr t j m := fun q => by
        rcases q with q | q
        · exact h4 (liveC m q)
        · have := X.hd0.2 m b h3; have := q.1; omega
      exact ⟨m, k, .inl h1, h2, h3, by rw [cout m hnw]; exact h4⟩
    intro r b hb
    by_cases q : rng r
    · rw [rin r q] at hb
      rcases e.dom r b hb with k | ⟨k1, k2, k3, k4⟩
      · exact absurd (on_inv k).1 (hnew r b q)
      · rcases k4 with k4 | ⟨m, m1, m2, m3⟩
        · exact .inr (.inl (Nat.le_trans I.size k4))
        · rcases I.fresh m b (on_inv m2).1 with z | z | ⟨m', k, z1, z2, z3, z4⟩
          · exact .inr (.inr ⟨m, j, .inr rfl, m1, z, by rw [cin m (.inl m1)]; exact m3⟩)
          · exact .inr (.inl z)
          · exact .inr (.inr (carry m' k b z1 z2 z3 z4))
    · rw [rout r q] at hb
      rcases I.fresh r b hb with z | z | ⟨m', k, z1, z2, z3, z4⟩
      · exact .inl z
      · exact .inr (.inl z)
      · exact .inr (.inr (carry m' k b z1 z2 z3 z4))
  have liveOld : ∀ r b, ¬ Wr t j r → Rn.blk r = some b → R.blk r = some b := fun r b hw hb => by
    rw [rout r fun q => hw (.inr q)] at hb; exact hb
  refine hK Rn C' D' (a.put o.dst v') w' ⟨fun k hk => ?_, I.le.trans le1, fun r b hb => ?_, Nat.le_trans I.size e.size, e.os.trans I.os, e.tape.trans I.tape, e.output.trans I.output, freshN, fun b hb hm => ?_, fun r b x hb hx hn => ?_, fun r s b hr hs lr ls => ?_, fun r b hb => ?_,
    fun r => ?_, fun r b hb k hk hw => ?_, fun k hk m hm => ?_, fun s => ?_, fun s v hc => ?_, fun s k o' hk hd => ?_, ?_, ?_⟩
  · rcases hk with h | h
    · exact I.lt k h
    · omega
  · by_cases q : rng r
    · exact .inr ⟨j, .inr rfl, q⟩
    · rw [rout r q] at hb
      rcases I.dom r b hb with z | ⟨i, z1, z2⟩
      · exact .inl z
      · exact .inr ⟨i, .inl z1, z2⟩
  · rw [e.kept b (by have := I.size; omega) fun m hmm hmb => ?_]
    · exact I.kept b hb fun k hk => hm k (.inl hk)
    · rcases I.fresh m b (on_inv hmb).1 with z | z | ⟨m', k, z1, z2, z3, _⟩
      · exact hm j (.inr rfl) m hmm z
      · omega
      · exact hm k (.inl z1) m' z2 z3
  · by_cases hw : Wr t j r
    · rw [cin r hw] at hx
      have hbR' : R'.blk r = some b := by
        rcases hw with q | q
        · obtain ⟨b', h1, _, h3, _, h5, _⟩ := hMb r q
          rw [rout r h5, h1] at hb; cases hb; exact h3
        · rw [rin r q] at hb; exact hb
      obtain ⟨ob, h1, h2⟩ := e.rows r b x (hw.elim .inr fun q => .inl q.1) hbR' hx hn
      exact ⟨ob, h1, h2.mono le2 hbR'⟩
    · rw [cout r hw] at hx
      have hbR := liveOld r b hw hb
      obtain ⟨ob, h1, h2⟩ := I.rows r b x hbR hx hn
      refine ⟨ob, ?_, h2.mono le1 hbR⟩
      rw [e.kept b (I.bnd r b hbR) fun m hmm hmb => ?_]
      · exact h1
      · have := I.inj m r b (on_inv hmb).1 hbR (liveC m hmm) ⟨x, hx, hn⟩
        exact hw (.inl (this ▸ hmm))
  ·
    have one : ∀ r s, Rn.blk r = some b → Rn.blk s = some b → Live (t.H (C' r)) r → Live (t.H (C' s)) s → rng r → ¬ rng s → r = s := fun r s hr hs lr ls qr qs => by
      rw [rin r qr] at hr
      rw [rout s qs] at hs
      rcases e.dom r b hr with k | ⟨k1, k2, k3, k4⟩
      · exact absurd (on_inv k).1 (hnew r b qr)
      · rcases k4 with k4 | ⟨m, m1, m2, m3⟩
        · have := I.bnd s b hs; omega
        · have hls : Live (t.H (C s)) s := by
            by_cases hw : Wr t j s
            · rcases hw with q | q
              · exact liveC s q
              · exact absurd q qs
            · rw [cout s hw] at ls; exact ls
          have := I.inj m s b (on_inv m2).1 hs (liveC m m1) hls
          subst this
          rw [cin m (.inl m1)] at ls
          exact absurd ls m3
    by_cases qr : rng r <;> by_cases qs : rng s
    · have h1 := hr; have h2 := hs
      rw [rin r qr] at h1; rw [rin s qs] at h2
      rw [cin r (.inr qr)] at lr; rw [cin s (.inr qs)] at ls
      exact e.inj r s b qr.1 qs.1 h1 h2 lr ls
    · exact one r s hr hs lr ls qr qs
    · exact (one s r hs hr ls lr qs qr).symm
    · have h1 := hr; have h2 := hs
      rw [rout r qr] at h1; rw [rout s qs] at h2
      have old : ∀ r, ¬ rng r → Live (t.H (C' r)) r → Live (t.H (C r)) r := fun r q l => by
        by_cases hw : Wr t j r
        · rcases hw with z | z
          · exact liveC r z
          · exact absurd z q
        · rw [cout r hw] at l; exact l
      exact I.inj r s b h1 h2 (old r qr lr) (old s qs ls)
  · by_cases q : rng r
    · rw [rin r q] at hb
      rcases e.dom r b hb with k | ⟨_, _, k3, _⟩
      · exact absurd (on_inv k).1 (hnew r b q)
      · exact k3
    · rw [rout r q] at hb
      have := I.bnd r b hb; have := e.size; omega
  · by_cases hw : Wr t j r
    · rw [cin r hw]; exact hjl
    · rw [cout r hw]; exact I.cle r
  · by_cases hwj : Wr t j r
    · rw [cin r hwj]
      by_cases q : k = j
      · subst q; exact ⟨fun _ => Nat.lt_succ_self _, fun _ => .inr rfl⟩
      · have key : L k ↔ k < j := by
          by_cases qr : rng r
          ·
            rcases hw with z | ⟨z1, z2⟩
            · have hz := X.live k hk r z
              have hgt : ¬ k < j := fun z3 => by have := X.le (Nat.le_of_lt z3) (Nat.le_of_lt hjl); have := qr.1; omega
              refine ⟨fun hL => ?_, fun h => absurd h hgt⟩
              obtain ⟨b', hb'⟩ := I.mdom k hL r z
              exact absurd hb' (hnew r b' qr)
            · exact absurd (X.maker hk hjl z1 z2 qr.1 qr.2) q
          · have hr : r ∈ (t.RC j).M := hwj.elim id fun z => absurd z qr
            obtain ⟨b', h1, _, _, h4, _, _, _⟩ := hMb r hr
            rcases hw with z | ⟨z1, z2⟩
            · rcases X.ap' hk hjl (Ne.symm q) (fun e => by rw [e] at z; simp at z) (.inl (fun e => by rw [e] at hr; simp at hr)) with y | ⟨T, y1, y2⟩
              · exact hord k (by rw [Nat.min_comm, Nat.max_comm]; exact y) q
              · rcases hmt with x | x | x
                · rw [x] at hr; simp at hr
                · rw [x] at y1; cases y1
                · rw [x] at y1; cases y1; exact absurd z (y2 r hr)
            · have := hmk r b' h1 h4 k hk z1 z2
              exact ⟨fun _ => this.2, fun _ => this.1⟩
        constructor
        · rintro (h | h)
          · have := key.1 h; omega
          · exact absurd h q
        · intro h
          exact .inl (key.2 (by omega))
    · rw [cout r hwj]
      have hne : k ≠ j := fun h => by subst h; exact hwj hw
      have := I.cut r b (liveOld r b hwj hb) k hk hw
      exact ⟨fun h => this.1 (h.resolve_right hne), fun h => .inl (this.2 h)⟩
  · rcases hk with h | h
    · obtain ⟨b, hb⟩ := I.mdom k h m hm
      exact ⟨b, (le1 m b hb).1⟩
    · subst h
      obtain ⟨b, h1, _⟩ := hMb m hm
      exact ⟨b, (le1 m b h1).1⟩
  · show (if o.dst = some s then j + 1 else D s) ≤ ops.size
    split
    · exact hjl
    · exact I.dle s
  · by_cases q : o.dst = some s
    · rw [show D' s = j + 1 from if_pos q, hcur s, if_pos q] at hc
      cases hc
      exact ⟨v', by rw [q]; simp [Act.put, I.tsize, hlt s q], hv.mono le2⟩
    · rw [show D' s = D s from if_neg q] at hc
      obtain ⟨x', h1, h2⟩ := I.slots s v hc
      refine ⟨x', ?_, h2.mono le1⟩
      cases hd : o.dst with
      | none => exact h1
      | some d => simp only [Act.put]; rw [Array.getElem?_setIfInBounds_ne (fun z => q (by rw [hd, z]))]; exact h1
  · by_cases q : o.dst = some s
    · rw [show D' s = j + 1 from if_pos q]
      by_cases hkj : k = j
      · exact ⟨fun _ => by omega, fun _ => .inr hkj⟩
      · have := hord k (names_bef X.hN hj hk hkj hd (namesOf_mem (.inl q))) hkj
        constructor
        · rintro (h | h)
          · have := this.1 h; omega
          · exact absurd h hkj
        · intro h; exact .inl (this.2 (by omega))
    · rw [show D' s = D s from if_neg q]
      have hkj : k ≠ j := fun h => by subst h; rw [hj] at hk; cases hk; exact q hd
      have := I.scut s k o' hk hd
      exact ⟨fun h => this.1 (h.resolve_right hkj), fun h => .inl (this.2 h)⟩
  · cases hq : o.dst <;> simp [Act.put, I.tsize]
  · cases hq : o.dst <;> simp [Act.put, I.dfr]
end
end Vm
end Go
namespace Go
namespace Vm
variable {P : Program}
theorem Ext.congrM {R R' : Ren} {h h' : Hp} {nx nx' : Nat} {M M' : List Nat} {w w' : World} (e : Ext R R' h h' nx nx' M w w') (hm : ∀ m, m ∈ M ↔ m ∈ M') : Ext R R' h h' nx nx' M' w w' where
  le := e.le
  nxle := e.nxle
  top := e.top
  size := e.size
  os := e.os
  tape := e.tape
  output := e.output
  dom := fun r b hb => (e.dom r b hb).imp id fun ⟨a, b, c, d⟩ => ⟨a, b, c, d.imp id fun ⟨m, x, y⟩ => ⟨m, (hm m).1 x, y⟩⟩
  kept := fun b hb h => e.kept b hb fun m hmm => h m ((hm m).1 hmm)
  hsame := fun r hr h => e.hsame r hr fun q => h ((hm r).1 q)
  rows := fun r b x hr => e.rows r b x (hr.imp id (hm r).2)
  inj := e.inj
  mlive := fun m h => e.mlive m ((hm m).2 h)
  mdom := fun m h => e.mdom m ((hm m).2 h)
section
variable {nv n : Nat} {ops : Array Oper} {t : Fs} {R0 : Ren} {w0 : World}
theorem Inv.fin (X : Fx P nv n ops t R0 w0) {df : List Deferred} {L : Nat → Prop} {R : Ren} {C D : Nat → Nat} {a : Act} {w : World} (I : Inv nv n ops t R0 w0 df L R C D a w) (hall : ∀ k, k < ops.size → L k) :
    ∃ M, (∀ m, m ∈ M ↔ m < t.NX 0 ∧ ∃ k, k < ops.size ∧ m ∈ (t.RC k).M) ∧ Ext R0 R (t.H 0) (t.H ops.size) (t.NX 0) (t.NX ops.size) M w0 w ∧ FrOk (fun _ => True) R nv n (t.VS ops.size) (t.TS ops.size) a.tmps := by
  obtain ⟨Rc, ac, wc, M, c⟩ := X.can ops.size (Nat.le_refl _)
  have hlt : ∀ r b, R.blk r = some b → r < t.NX ops.size := fun r b hb => by
    rcases I.dom r b hb with ⟨q, _⟩ | ⟨j, q1, q2, q3⟩
    · have := X.le (Nat.zero_le _) (Nat.le_refl ops.size); omega
    · have := X.le (i := j + 1) (I.lt j q1) (Nat.le_refl ops.size); omega
  have agree : ∀ r b, R.blk r = some b → hget (t.H (C r)) r = hget (t.H ops.size) r := fun r b hb =>
    X.agree (I.cle r) (Nat.le_refl _) (hlt r b hb) (fun k h1 h2 hw => by have := (I.cut r b hb k h2 hw).1 (hall k h2); omega) (fun k h1 h2 _ => by have := I.cle r; omega)
  refine ⟨M, c.mem, ⟨I.le, c.ext.nxle, c.ext.top, I.size, I.os, I.tape, I.output, fun r b hb => ?_, fun b hb hm => ?_, c.ext.hsame, fun r b x _ hb hx hn => ?_, fun r s b _ _ hr hs lr ls => ?_, c.ext.mlive, c.ext.mdom⟩, ?_⟩
  · rcases I.dom r b hb with ⟨_, q⟩ | ⟨j, q1, q2, q3⟩
    · exact .inl q
    · rcases I.fresh r b hb with z | z | ⟨m, k, z1, z2, z3, z4⟩
      · exact .inl z
      · exact .inr ⟨by have := X.le (Nat.zero_le j) (Nat.le_of_lt (I.lt j q1)); omega, hlt r b hb, I.bnd r b hb, .inl z⟩
      · refine .inr ⟨by have := X.le (Nat.zero_le j) (Nat.le_of_lt (I.lt j q1)); omega, hlt r b hb, I.bnd r b hb, .inr ⟨m, (c.mem m).2 ⟨X.hd0.2 m b z3, k, I.lt k z1, z2⟩, z3, ?_⟩⟩
        intro hl
        apply z4
        unfold Live
        rw [agree m b (I.le m b z3).1]
        exact hl
  · refine I.kept b hb fun k hk m hmm hmb => hm m ((c.mem m).2 ⟨X.hd0.2 m b hmb, k, I.lt k hk, hmm⟩) hmb
  · exact I.rows r b x hb ((agree r b hb).trans hx) hn
  · exact I.inj r s b hr hs (by unfold Live; rw [agree r b hr]; exact lr) (by unfold Live; rw [agree s b hs]; exact ls)
  · refine FrOk.ofCur I.tsize c.fr.nvle (fun s v _ hc => ?_) fun g hg => (I.le _ _ (X.gl0 g hg)).1
    have hag : t.cur nv (D s) s = t.cur nv ops.size s :=
      X.curagree (I.dle s) (Nat.le_refl _) (fun k o h1 h2 hk hd => by have := (I.scut s k o hk hd).1 (hall k h2); omega) (fun k o h1 h2 _ _ => by have := I.dle s; omega)
    exact I.slots s v (hag.trans hc)
theorem any_ok (X : Fx P nv n ops t R0 w0) {F : Fence} (hF : Wd F) {df : List Deferred} {Q : Exit → Act → World → Prop}
    (hQ : ∀ L R C D a w, Inv nv n ops t R0 w0 df L R C D a w → (∀ k, k < ops.size → L k) → Q .normal a w) : ∀ (fuel : Nat) (listed : Array Bool) (U : List Nat) (R : Ren) (C D : Nat → Nat) (a : Act) (w : World), listed.size = ops.size → U.length ≤ fuel →
      (∀ i, i < ops.size → listed.getD i false = false → i ∈ U) → (∀ i, listed.getD i false = true → Closed ops (fun i => listed.getD i false = true) i) →
      Inv nv n ops t R0 w0 df (fun i => listed.getD i false = true) R C D a w → wpAnyIn F 0 P .any ops Q fuel listed a w := by
  intro fuel
  induction fuel with
  | zero =>
    intro listed U R C D a w hs hU hun hcl I
    have hnil : U = [] := List.length_eq_zero_iff.1 (by omega)
    have hall : ∀ k, k < ops.size → listed.getD k false = true := fun k hk => by
      cases h : listed.getD k false with
      | true => rfl
      | false => have := hun k hk h; rw [hnil] at this; simp at this
    refine ⟨?_, hQ _ _ _ _ _ _ I hall⟩
    refine List.eq_nil_iff_forall_not_mem.2 fun i hi => ?_
    obtain ⟨h1, h2, _⟩ := mem_ready.1 hi
    have := hall i h1
    rw [Array.getD_eq_getD_getElem?, Array.getElem?_eq_getElem (by omega)] at h2 this
    simp only [Option.getD_some] at h2 this
    rw [h2] at this; cases this
  | succ fuel ih =>
    intro listed U R C D a w hs hU hun hcl I
    have getD_eq : ∀ i, i < ops.size → listed.getD i true = listed.getD i false := fun i hi => by
      rw [Array.getD_eq_getD_getElem?, Array.getD_eq_getD_getElem?, Array.getElem?_eq_getElem (by omega)]; rfl
    refine ⟨fun hnil => ?_, fun i hi => ?_⟩
    · refine hQ _ _ _ _ _ _ I fun k hk => ?_
      have key : ∀ k, k < ops.size → listed.getD k false = true := by
        intro k
        induction k using Nat.strongRecOn with
        | _ k ihk =>
          intro hk
          cases h : listed.getD k false with
          | true => rfl
          | false =>
            have : k ∈ Region.ready .any ops listed := mem_ready.2 ⟨hk, by rw [getD_eq k hk]; exact h, ops[k], Array.getElem?_eq_getElem hk, fun e he hb => by
              have hlt := edges_lt X.hE (Array.getElem?_eq_getElem hk) he hb
              exact ihk e.on hlt (by omega)⟩
            rw [hnil] at this
            simp at this
      exact key k hk
    · obtain ⟨h1, h2, o, ho, h3⟩ := mem_ready.1 hi
      have hn : ¬ listed.getD i false = true := by rw [← getD_eq i h1, h2]; simp
      have hci : Closed ops (fun i => listed.getD i false = true) i := fun o' e ho' he hb => by
        rw [ho] at ho'; cases ho'; exact h3 e he hb
      refine I.step X hF (fun k hk => bef_listed X.hE hcl k (hcl k hk)) ho hn (bef_listed X.hE hcl i hci) fun R' C' D' a' w' I' => ?_
      have hset : ∀ k, (listed.setIfInBounds i true).getD k false = true ↔ listed.getD k false = true ∨ k = i := fun k => by
        rw [Array.getD_eq_getD_getElem?, Array.getD_eq_getD_getElem?, Array.getElem?_setIfInBounds]
        by_cases q : i = k
        · subst q; simp [hs, h1]
        · rw [if_neg q]
          exact ⟨.inl, fun z => z.resolve_right fun y => q y.symm⟩
      have hiU : i ∈ U := hun i h1 (by simpa using hn)
      have heq : (fun k => (listed.setIfInBounds i true).getD k false = true) = fun k => listed.getD k false = true ∨ k = i := funext fun k => propext (hset k)
      refine ih (listed.setIfInBounds i true) (U.erase i) R' C' D' a' w' (by simp [hs]) (by rw [List.length_erase_of_mem hiU]; omega) (fun k hk hf => ?_) (fun k hk => ?_) ?_
      · have : ¬ (listed.getD k false = true ∨ k = i) := fun z => by rw [(hset k).2 z] at hf; cases hf
        exact (List.mem_erase_of_ne fun z => this (.inr z)).2 (hun k hk (by
          cases q : listed.getD k false with
          | false => rfl
          | true => exact absurd (.inl q) this))
      · intro o' e ho' he hb
        refine (hset e.on).2 (.inl ?_)
        rcases (hset k).1 hk with z | z
        · exact hcl k z o' e ho' he hb
        · subst z; exact hci o' e ho' he hb
      · rw [heq]; exact I'
end
theorem draw_ok (hm : P.follows .mixedOrders = true) : DrawOk P := by
  intro B F nv n ih id ops hB hF hge k f KQ Q hd hk R z vs ts hp nx a w st gd
  have e : dCode P nv n (.region id ops true) k = Bool.rec .bad (match dOpsD P nv n ops.toList (endD ops k) ops.toList with | .mk f => .mk (kReg (f [])) | .bad => .bad) (and (edgesOk ops) (namesOk ops)) := rfl
  rw [e] at hd
  cases hok : and (edgesOk ops) (namesOk ops) with
  | false => rw [hok] at hd; cases hd
  | true =>
    rw [hok] at hd
    simp only at hd
    simp only [Bool.and_eq_true] at hok
    split at hd
    · rename_i g hg
      cases hd
      have gd' : Good B F nv n Q (g [] ih z vs [] hp nx) := gd
      have hne : g [] ih z vs [] hp nx ≠ .no := fun q => by rw [q] at gd'; exact gd'
      obtain ⟨t, q1, q2, q3, q4, q5, z', z1, z2, z3, z4, z5⟩ := trace (n := n) hge st.fr.nvle ops.toList 0 (fun i => by simp) hg hne
      rw [z5] at gd'
      simp only [Nat.zero_add, Array.length_toList, List.append_nil, endD, List.reverse_reverse] at gd' q5 z4
      cases hap : apartR ops ((List.range' 0 ops.size).map t.RC) with
      | false => rw [hap] at gd'; exact gd'.elim
      | true =>
        rw [hap] at gd'
        simp only at gd'
        have htr : ∀ i, i < ops.size → TrOk P nv n ops t i := fun i hi => q5 i (Nat.zero_le _) hi
        have hd0 : Dom R (t.NX 0) := by rw [q4]; exact st.dom hB
        have hh0 : HR R (t.H 0) w := by rw [q3]; exact st.hr hB
        have hfr : FrOk (fun _ => True) R nv n (t.VS 0) (t.TS 0) a.tmps := by rw [q1, q2]; exact st.fr.nots
        have hcan := canon (F := F) hF hd0 hh0 hfr htr
        have hstep : ∀ i, i < ops.size → t.NX i ≤ t.NX (i + 1) ∧ (∀ r, r < t.NX i → r ∉ (t.RC i).M → hget (t.H (i + 1)) r = hget (t.H i) r) ∧ ∀ m, m ∈ (t.RC i).M → m < t.NX i ∧ Live (t.H i) m := fun i hi => by
          obtain ⟨Rc, ac, wc, Mc, c⟩ := hcan i (Nat.le_of_lt hi)
          obtain ⟨_, _, _, _, _, e⟩ := canon_step (F := F) hF hd0 hh0 hi (htr i hi) c
          exact ⟨e.nxle, e.hsame, e.mlive⟩
        have hrc : ∀ i, i < ops.size → ((List.range' 0 ops.size).map t.RC)[i]? = some (t.RC i) := fun i hi => by
          rw [List.getElem?_map, List.getElem?_range' hi]; simp
        have X : Fx P nv n ops t R w := ⟨hok.1, hok.2, htr, fun k j hk hj hjk hM => by
            have hH : (t.RC k).H = t.H (k + 1) := ((htr k hk ops[k] (Array.getElem?_eq_getElem hk)).1.2.2.2) hM
            have := apart_bef hap (hrc k hk) (hrc j hj) hjk hM
            rw [hH] at this
            exact this, hcan, fun i hi => (hstep i hi).1, fun i hi => (hstep i hi).2.1, fun i hi => (hstep i hi).2.2, hd0, st.fr.glob, hh0⟩
        refine wpIn_region_any hm (any_ok X hF (df := a.defers) (Q := Exit.then KQ Q) (fun L R' C D a' w' I hall => ?_) ops.size _ (List.range ops.size) R (fun _ => 0) (fun _ => 0) a _ (by simp) (by simp) (fun i hi _ => List.mem_range.2 hi) (fun i hi => ?_) ?_)
        · obtain ⟨M, m1, m2, m3⟩ := I.fin X hall
          rw [q3, q4] at m2
          have ex := st.ext.trans m2 hB.dom hB.hr
          have hnx := st.ext.nxle
          refine hk R' z' _ _ _ _ a' w' ⟨z1.trans st.n0, ex.congrM fun m => ?_, m3, by rw [z3, I.dfr]; exact st.dfr.mono I.le, by rw [z2]; exact st.rd.mono I.le⟩ gd'
          rw [logs_mem, m1, z4, q4, st.n0]
          constructor
          · rintro (⟨⟨_, k, h2, h3⟩, h4⟩ | h)
            · exact .inr ⟨k, Nat.zero_le _, h2, h3, h4⟩
            · exact .inl h
          · rintro (h | ⟨k, _, h2, h3, h4⟩)
            · exact .inr h
            · exact .inl ⟨⟨by omega, k, h2, h3⟩, h4⟩
        · rw [Array.getD_eq_getD_getElem?, Array.getElem?_replicate] at hi
          split at hi <;> simp at hi
        · have hf : (fun i => (Array.replicate ops.size false).getD i false = true) = fun _ => False := funext fun i => propext ⟨fun hi => by
            rw [Array.getD_eq_getD_getElem?, Array.getElem?_replicate] at hi
            split at hi <;> simp at hi, fun h => h.elim⟩
          rw [hf]
          exact Inv.start X rfl rfl rfl rfl hfr
    · cases hd
end Vm
end Go
namespace Go
namespace Vm
open Go.RowKit
variable {P : Program}
def cameTrue (r : R) : Bool := match r with | .val (.bool true) _ _ [] => true | _ => false
theorem cameTrue_eq {r : R} (h : cameTrue r = true) : ∃ h' nx', r = .val (.bool true) h' nx' [] := by
  unfold cameTrue at h
  split at h
  · exact ⟨_, _, rfl⟩
  · cases h
def Laid (h : Hp) (w : World) : Prop := ∀ r x, r < NG → hget h r = some x → x ≠ .dead → ∃ o, w.heap[r]? = some o ∧ RowO ⟨fun r => if r < NG then some r else none, fun _ => 0⟩ r x o
end Vm
end Go
namespace Go
namespace Vm
open Go.RowKit
variable {P : Program}
def sameVs (a : List Value) : List Value → Bool :=
  List.rec (motive := fun _ => List Value → Bool) (fun b => match b with | [] => true | _ => false) (fun x _ ih b => match b with | y :: b => Bool.rec false (ih b) (sameV x y) | [] => false) a
def sameRow (x y : Option Row) : Bool := match x, y with | some (.ro a), some (.ro b) => sameVs a b | _, _ => false
def glOk (g0 h : Hp) : Bool := Nat.rec true (fun g ih => Bool.rec false ih (sameRow (hget g0 g) (hget h g))) NG
def isIn (f : Nat) (l : List Nat) : Bool := List.rec false (fun g _ ih => Bool.rec ih true (Nat.beq f g)) l
def orc (done : List FuncId) (g0 : Hp) (ih : Rec) : Rec := fun t h nx =>
  match t with
  | .call f [] => Bool.rec (ih (.call f []) h nx) (Bool.rec (ih (.call f []) h nx) (.val (.bool true) h nx []) (glOk g0 h)) (isIn f done)
  | t => ih t h nx
theorem sameV_flat {x y : Value} (h : sameV x y = true) : ground x = true := by
  unfold sameV at h
  split at h
  · rfl
  · rfl
  · cases h
theorem sameVs_flat : ∀ {a b : List Value}, sameVs a b = true → ∀ x, x ∈ a → ground x = true := by
  intro a
  induction a with
  | nil => intro b _ x hx; simp at hx
  | cons y a ih =>
    intro b h x hx
    cases b with
    | nil => cases h
    | cons z b =>
      have e : sameVs (y :: a) (z :: b) = Bool.rec false (sameVs a b) (sameV y z) := rfl
      rw [e] at h
      cases hy : sameV y z with
      | false => rw [hy] at h; cases h
      | true =>
        rw [hy] at h
        rcases List.mem_cons.1 hx with rfl | hx
        · exact sameV_flat hy
        · exact ih h x hx
theorem sameVs_eq : ∀ {a b : List Value}, sameVs a b = true → a = b := by
  intro a
  induction a with
  | nil => intro b h; cases b with
    | nil => rfl
    | cons y b => cases h
  | cons x a ih =>
    intro b h
    cases b with
    | nil => cases h
    | cons y b =>
      have e : sameVs (x :: a) (y :: b) = Bool.rec false (sameVs a b) (sameV x y) := rfl
      rw [e] at h
      cases hx : sameV x y with
      | false => rw [hx] at h; cases h
      | true =>
        rw [hx] at h
        rw [sameV_eq hx, ih h]
theorem glOk_row {g0 h : Hp} (k : glOk g0 h = true) : ∀ g, g < NG → ∃ a, hget g0 g = some (.ro a) ∧ hget h g = some (.ro a) ∧ ∀ x, x ∈ a → ground x = true := by
  have key : ∀ n, (Nat.rec true (fun g ih => Bool.rec false ih (sameRow (hget g0 g) (hget h g))) n : Bool) = true → ∀ g, g < n → ∃ a, hget g0 g = some (.ro a) ∧ hget h g = some (.ro a) ∧ ∀ x, x ∈ a → ground x = true := by
    intro n
    induction n with
    | zero => intro _ g hg; omega
    | succ n ih =>
      intro hn g hg
      have e : (Nat.rec true (fun g ih => Bool.rec false ih (sameRow (hget g0 g) (hget h g))) (n + 1) : Bool) = Bool.rec false (Nat.rec true (fun g ih => Bool.rec false ih (sameRow (hget g0 g) (hget h g))) n : Bool) (sameRow (hget g0 n) (hget h n)) := rfl
      rw [e] at hn
      cases hx : sameRow (hget g0 n) (hget h n) with
      | false => rw [hx] at hn; cases hn
      | true =>
        rw [hx] at hn
        by_cases q : g = n
        · subst q
          unfold sameRow at hx
          split at hx
          · rename_i a b ha hb
            have hf := sameVs_flat hx
            rw [ha, hb, sameVs_eq hx]
            exact ⟨_, rfl, rfl, fun x hx' => hf x (by rw [sameVs_eq hx]; exact hx')⟩
          · cases hx
        · exact ih hn g (by omega)
  exact key NG k
theorem isIn_mem {f : Nat} {l : List Nat} (h : isIn f l = true) : f ∈ l := by
  induction l with
  | nil => cases h
  | cons g l ih =>
    have e : isIn f (g :: l) = Bool.rec (isIn f l) true (Nat.beq f g) := rfl
    rw [e] at h
    cases hg : Nat.beq f g with
    | true => rw [Nat.eq_of_beq_eq_true hg]; exact List.mem_cons_self
    | false => rw [hg] at h; exact List.mem_cons_of_mem _ (ih h)
def R00 : Ren := ⟨fun r => if r < NG then some r else none, fun _ => 0⟩
theorem R00_blk {r b : Nat} (h : R00.blk r = some b) : r < NG ∧ b = r := by
  simp only [R00] at h
  split at h
  · rename_i q; cases h; exact ⟨q, rfl⟩
  · cases h
theorem hr_gl {R : Ren} {h g0 : Hp} {w : World} (hh : HR R h w) (hgl : ∀ g, g < NG → R.blk g = some g) (k : glOk g0 h = true) : HR R00 g0 w := by
  refine ⟨fun r b x hb hx hn => ?_, fun r s b hr hs _ _ => by rw [← (R00_blk hr).2, (R00_blk hs).2], fun r b hb => ?_⟩
  · obtain ⟨h1, rfl⟩ := R00_blk hb
    obtain ⟨a, h2, h3, h9⟩ := glOk_row k b h1
    rw [h2] at hx
    cases hx
    obtain ⟨o, h4, h5⟩ := hh.row b b _ (hgl b h1) h3 (by simp)
    refine ⟨o, h4, ?_⟩
    obtain ⟨cs, e, fz, h6, h7, h8⟩ := h5
    refine ⟨cs, e, fz, h6, h7, fun i x hx => ?_⟩
    obtain ⟨q1, x', q2, q3⟩ := h8 i x hx
    have hg := h9 x (List.mem_of_getElem? hx)
    refine ⟨q1, x', q2, ?_⟩
    rw [ground_eq hg q3]
    exact ground_vr hg _
  · obtain ⟨h1, rfl⟩ := R00_blk hb
    exact hh.bnd b b (hgl b h1)
end Vm
end Go
namespace Go
namespace Vm
open Go.RowKit
variable {P : Program}
def takeS (k : Nat) : Code → Code :=
  Nat.rec (motive := fun _ => Code → Code) (fun c => c) (fun j ih c => match c with
    | .seq a b => (match j with | 0 => a | _ => .seq a (ih b))
    | c => c) k
def dropS (k : Nat) : Code → Code :=
  Nat.rec (motive := fun _ => Code → Code) (fun _ => .skip) (fun j ih c => match c with
    | .seq _ b => (match j with | 0 => b | _ => ih b)
    | _ => .skip) k
def isCut (k : Nat) : Code → Bool :=
  Nat.rec (motive := fun _ => Code → Bool) (fun _ => false) (fun j ih c => match c with
    | .seq _ b => (match j with | 0 => true | _ => ih b)
    | _ => false) k
theorem split_ok {B : Base} {F : Fence} {nv n : Nat} {ih : Rec} (hall : ∀ c, CodeOk P B F nv n ih c) : ∀ (k : Nat) (c : Code), isCut k c = true → ∀ {g : K} {Q : Exit → Act → World → Prop}, dCode P nv n (takeS k c) kNor = .mk g →
    KS B F nv n ih g (fun a w => c.wpIn F 0 P Q a w) (Exit.then (fun a w => (dropS k c).wpIn F 0 P Q a w) Q) := by
  intro k
  induction k with
  | zero => intro c h; cases h
  | succ j ihk =>
    intro c h g Q hg
    cases c with
    | seq a b =>
      cases j with
      | zero =>
        have hg' : dCode P nv n a kNor = .mk g := hg
        have h1 := hall a hg' (ks_nor ih (Exit.then (fun a w => b.wpIn F 0 P Q a w) Q))
        intro R z vs ts hp nx a' w st gd
        exact wpIn_seq (wpIn_ext (h1 R z vs ts hp nx a' w st gd) fun e a w q => by cases e <;> exact q)
      | succ j =>
        have hc : isCut (j + 1) b = true := h
        have e : dCode P nv n (takeS (j + 1 + 1) (.seq a b)) kNor = bindW (dCode P nv n (takeS (j + 1) b) kNor) (dCode P nv n a) := rfl
        rw [e] at hg
        unfold bindW at hg
        split at hg
        · rename_i g2 hg2
          have h2 := ihk b hc (Q := Q) hg2
          have h1 := hall a hg h2
          intro R z vs ts hp nx a' w st gd
          exact wpIn_seq (wpIn_ext (h1 R z vs ts hp nx a' w st gd) fun e a w q => by cases e <;> exact q)
        · cases hg
    | _ => cases h
def setL (l : List (Nat × Value)) : Vs := List.rec (Lv.nil Value VD) (fun p _ ih => Lv.set VD p.1 p.2 ih) l
def okL (nv n : Nat) (l : List (Nat × Value)) : Bool := List.rec true (fun p _ ih => Bool.rec false ih (Nat.blt p.1 nv && Nat.blt p.1 64 && Nat.blt p.1 n && ground p.2)) l
structure At (n : Nat) (l : List (Nat × Value)) (g0 : Hp) (w0 : World) (a : Act) (w : World) : Prop where
  size : a.tmps.size = n
  dfr : a.defers = []
  has : ∀ p, p ∈ l → a.tmps[p.1]? = some p.2
  below : Below w0.heap.size w0 w
  gl : NG ≤ w.heap.size
  laid : Laid g0 w
theorem okL_all {nv n : Nat} {l : List (Nat × Value)} (h : okL nv n l = true) : ∀ p, p ∈ l → p.1 < nv ∧ p.1 < 64 ∧ p.1 < n ∧ ground p.2 = true := by
  induction l with
  | nil => intro p hp; simp at hp
  | cons x l ih =>
    have e : okL nv n (x :: l) = Bool.rec false (okL nv n l) (Nat.blt x.1 nv && Nat.blt x.1 64 && Nat.blt x.1 n && ground x.2) := rfl
    rw [e] at h
    cases hx : (Nat.blt x.1 nv && Nat.blt x.1 64 && Nat.blt x.1 n && ground x.2) with
    | false => rw [hx] at h; cases h
    | true =>
      rw [hx] at h
      intro p hp
      rcases List.mem_cons.1 hp with rfl | hp
      · simp only [Bool.and_eq_true, blt_eq, decide_eq_true_eq] at hx
        exact ⟨hx.1.1.1, hx.1.1.2, hx.1.2, hx.2⟩
      · exact ih h p hp
theorem setL_get : ∀ {l : List (Nat × Value)} {t : Nat} {v : Value}, (∀ p, p ∈ l → p.1 < 64) → t < 64 → Lv.get VD t (setL l) = some v → (t, v) ∈ l := by
  intro l
  induction l with
  | nil => intro t v _ _ h; rw [show setL [] = Lv.nil Value VD from rfl, Lv.get_nil] at h; cases h
  | cons p l ih =>
    intro t v hl ht h
    have e : setL (p :: l) = Lv.set VD p.1 p.2 (setL l) := rfl
    have hvd : (2 : Nat) ^ VD = 64 := rfl
    have hp := hl p List.mem_cons_self
    rw [e, Lv.get_set VD p.1 t p.2 _ (by omega) (by omega)] at h
    by_cases q : t = p.1
    · rw [if_pos q] at h
      cases h
      subst q
      exact List.mem_cons_self
    · rw [if_neg q] at h
      exact List.mem_cons_of_mem _ (ih (fun p hp => hl p (List.mem_cons_of_mem _ hp)) ht h)
theorem At.base {n : Nat} {l : List (Nat × Value)} {g0 : Hp} {w0 : World} {a : Act} {w : World} (h : At n l g0 w0 a w) (hN : NG ≤ 4096) : Base.Ok ⟨R00, g0, NG, w⟩ :=
  ⟨⟨fun r b x hb hx hn => by obtain ⟨h1, rfl⟩ := R00_blk hb; exact h.laid _ x h1 hx hn, fun r s b hr hs _ _ => by rw [← (R00_blk hr).2, (R00_blk hs).2], fun r b hb => by obtain ⟨h1, rfl⟩ := R00_blk hb; exact Nat.lt_of_lt_of_le h1 h.gl⟩,
    ⟨hN, fun r b hb => (R00_blk hb).1⟩, fun g hg => if_pos hg⟩
theorem At.st {F : Fence} {nv n : Nat} {l : List (Nat × Value)} {g0 : Hp} {w0 : World} {a : Act} {w : World} (h : At n l g0 w0 a w) (hN : NG ≤ 4096) (hl : okL nv n l = true) (hnv : nv ≤ 64) : St ⟨R00, g0, NG, w⟩ F.plain nv n R00 ⟨NG, none, [], []⟩ (setL l) [] g0 NG a w := by
  have hall := okL_all hl
  refine ⟨rfl, Ext.refl _ _ _ _ (h.base hN).dom, ⟨h.size, hnv, fun t v _ ht hv => ?_, fun t v _ _ hv => (by cases hv), fun g hg => if_pos hg⟩, by rw [h.dfr]; exact .nil, rfl⟩
  have hm := setL_get (fun p hp => (hall p hp).2.1) (by omega) hv
  exact ⟨v, h.has _ hm, ground_vr (hall _ hm).2.2.2 _⟩
def Known (P : Program) (f : FuncId) (g0 : Hp) : Prop := hasBody P f = true ∧ ∀ (F : Fence) (w : World), Wd F → NG ≤ w.heap.size → Laid g0 w → CallsIn F 0 P f #[] w fun e w' => e = .returned (.bool true) ∧ Below w.heap.size w w'
theorem laid_of_hr {R : Ren} {h g0 : Hp} {w : World} (hh : HR R h w) (hgl : ∀ g, g < NG → R.blk g = some g) (k : glOk g0 h = true) : Laid g0 w := fun r x hr hx hn => by
  have := hr_gl hh hgl k
  exact this.row r r x (if_pos hr) hx hn
theorem orc_ok2 {ih : Rec} (hr : RecOk P ih) {done : List FuncId} {g0 : Hp} (hd0 : ∀ f, f ∈ done → Known P f g0) : RecOk P (orc done g0 ih) := by
  have key : ∀ {f : FuncId} {args : List Value} {h : Hp} {nx : Nat} {v : Value} {h' : Hp} {nx' : Nat} {M : List Nat}, orc done g0 ih (.call f args) h nx = .val v h' nx' M →
      ih (.call f args) h nx = .val v h' nx' M ∨ (args = [] ∧ f ∈ done ∧ glOk g0 h = true ∧ v = .bool true ∧ h' = h ∧ nx' = nx ∧ M = []) := by
    intro f args h nx v h' nx' M e
    cases args with
    | cons a l => exact .inl e
    | nil =>
      have e2 : orc done g0 ih (.call f []) h nx = Bool.rec (ih (.call f []) h nx) (Bool.rec (ih (.call f []) h nx) (.val (.bool true) h nx []) (glOk g0 h)) (isIn f done) := rfl
      rw [e2] at e
      cases h1 : isIn f done with
      | false => rw [h1] at e; exact .inl e
      | true =>
        rw [h1] at e
        cases h2 : glOk g0 h with
        | false => rw [h2] at e; exact .inl e
        | true =>
          rw [h2] at e
          cases e
          exact .inr ⟨rfl, isIn_mem h1, rfl, rfl, rfl, rfl, rfl⟩
  refine ⟨fun e => ?_, fun e => ?_, fun hB hF st g => hr.code hB hF st g⟩
  · rcases key e with q | ⟨rfl, q1, _⟩
    · exact hr.body q
    · exact (hd0 _ q1).1
  · intro R w F args' hh hd hgl hF hv
    rcases key e with q | ⟨rfl, q1, q2, rfl, rfl, rfl, rfl⟩
    · exact hr.call q hh hd hgl hF hv
    · have he : args' = #[] := by have := hv.of_nil; simpa using this
      subst he
      have hs : NG ≤ w.heap.size := by
        rcases Nat.eq_zero_or_pos NG with h0 | h0
        · omega
        · have := hh.bnd (NG - 1) (NG - 1) (hgl _ (by omega)); omega
      have hc := (hd0 _ q1).2 F w hF hs (laid_of_hr hh hgl q2)
      refine hc.mono fun e w' q => ?_
      obtain ⟨h1, h3⟩ := q
      refine ⟨_, R, h1, .bool true, ⟨.refl R, Nat.le_refl _, hd.1, h3.size, h3.os, h3.tape, h3.output, fun r b hb => .inl hb, fun k hk _ => h3.block k hk, fun _ _ _ => rfl, fun r b x hr hb _ _ => ?_, fun r s b h1 _ h3 _ _ _ => ?_, fun m hm => (by cases hm), fun m hm => (by cases hm)⟩⟩
      · rcases hr with hr | hr
        · have := hd.2 r b hb; omega
        · cases hr
      · have := hd.2 r b h3; omega
end Vm
end Go
namespace Go
namespace Vm
open Go.RowKit
variable {P : Program}
def eqF (x y : Value) : Bool :=
  match x, y with
  | .pointer none, .pointer none => true
  | .pointer (some ⟨r, o, none⟩), .pointer (some ⟨s, p, none⟩) => Nat.beq r s && Nat.beq o p
  | .slice none n c, .slice none m d => Nat.beq n m && Nat.beq c d
  | .slice (some ⟨r, o, none⟩) n c, .slice (some ⟨s, p, none⟩) m d => (Nat.beq r s && Nat.beq o p) && (Nat.beq n m && Nat.beq c d)
  | .map none, .map none => true
  | .map (some r), .map (some s) => Nat.beq r s
  | .nilFunc, .nilFunc => true
  | x, y => sameV x y
theorem eqF_eq {x y : Value} (h : eqF x y = true) : x = y := by
  unfold eqF at h
  split at h
  · rfl
  · simp only [Bool.and_eq_true, beq_eq', decide_eq_true_eq] at h; obtain ⟨h1, h2⟩ := h; subst h1 h2; rfl
  · simp only [Bool.and_eq_true, beq_eq', decide_eq_true_eq] at h; obtain ⟨h1, h2⟩ := h; subst h1 h2; rfl
  · simp only [Bool.and_eq_true, beq_eq', decide_eq_true_eq] at h; obtain ⟨⟨h1, h2⟩, h3, h4⟩ := h; subst h1 h2 h3 h4; rfl
  · rfl
  · simp only [beq_eq', decide_eq_true_eq] at h; subst h; rfl
  · rfl
  · exact sameV_eq h
def eqFs (a : List Value) : List Value → Bool :=
  List.rec (motive := fun _ => List Value → Bool) (fun b => match b with | [] => true | _ => false) (fun x _ ih b => match b with | y :: b => Bool.rec false (ih b) (eqF x y) | [] => false) a
theorem eqFs_eq : ∀ {a b : List Value}, eqFs a b = true → a = b := by
  intro a
  induction a with
  | nil => intro b h; cases b with
    | nil => rfl
    | cons y b => cases h
  | cons x a ih =>
    intro b h
    cases b with
    | nil => cases h
    | cons y b =>
      have e : eqFs (x :: a) (y :: b) = Bool.rec false (eqFs a b) (eqF x y) := rfl
      rw [e] at h
      cases hx : eqF x y with
      | false => rw [hx] at h; cases h
      | true =>
        rw [hx] at h
        rw [eqF_eq hx, ih h]
def eqW (x y : Value) : Bool := match x, y with
  | .agg a, .agg b => eqFs a.toList b.toList
  | .tuple a, .tuple b => eqFs a.toList b.toList
  | x, y => eqF x y
theorem eqW_eq {x y : Value} (h : eqW x y = true) : x = y := by
  unfold eqW at h
  split at h
  · rename_i a b
    have := eqFs_eq h
    cases a; cases b; simp at this; rw [this]
  · rename_i a b
    have := eqFs_eq h
    cases a; cases b; simp at this; rw [this]
  · exact eqF_eq h
def eqEs (a : List (Value × Value)) : List (Value × Value) → Bool :=
  List.rec (motive := fun _ => List (Value × Value) → Bool) (fun b => match b with | [] => true | _ => false) (fun x _ ih b => match b with | y :: b => Bool.rec false (ih b) (eqW x.1 y.1 && eqW x.2 y.2) | [] => false) a
theorem eqEs_eq : ∀ {a b : List (Value × Value)}, eqEs a b = true → a = b := by
  intro a
  induction a with
  | nil => intro b h; cases b with
    | nil => rfl
    | cons y b => cases h
  | cons x a ih =>
    intro b h
    cases b with
    | nil => cases h
    | cons y b =>
      have e : eqEs (x :: a) (y :: b) = Bool.rec false (eqEs a b) (eqW x.1 y.1 && eqW x.2 y.2) := rfl
      rw [e] at h
      cases hx : (eqW x.1 y.1 && eqW x.2 y.2) with
      | false => rw [hx] at h; cases h
      | true =>
        rw [hx] at h
        simp only [Bool.and_eq_true] at hx
        obtain ⟨x1, x2⟩ := x
        obtain ⟨y1, y2⟩ := y
        have h1 : x1 = y1 := eqW_eq hx.1
        have h2 : x2 = y2 := eqW_eq hx.2
        rw [h1, h2, ih h]
def eqRow (x y : Row) : Bool := match x, y with
  | .cells a none, .cells b none => eqFs a b
  | .cells a (some m), .cells b (some n) => eqFs a b && Nat.beq m n
  | .ro a, .ro b => eqFs a b
  | .map a m, .map b n => eqEs a b && Nat.beq m n
  | _, _ => false
theorem eqRow_eq {x y : Row} (h : eqRow x y = true) : x = y := by
  unfold eqRow at h
  split at h
  · rw [eqFs_eq h]
  · simp only [Bool.and_eq_true, beq_eq', decide_eq_true_eq] at h; rw [eqFs_eq h.1, h.2]
  · rw [eqFs_eq h]
  · simp only [Bool.and_eq_true, beq_eq', decide_eq_true_eq] at h; rw [eqEs_eq h.1, h.2]
  · cases h
def setH (g : Hp) (l : List (Nat × Row)) : Hp := List.rec g (fun p _ ih => hset ih p.1 p.2) l
def vsHasW (nv : Nat) (l : List (Nat × Value)) (vs : Vs) : Bool := List.rec true (fun p _ ih => Bool.rec false ih (match Lv.get VD p.1 vs with | some v => eqW v p.2 && (Nat.blt p.1 nv && Nat.blt p.1 64) | none => false)) l
def rowsHave (b0 nx : Nat) (l : List (Nat × Row)) (h : Hp) : Bool := List.rec true (fun p _ ih => Bool.rec false ih (match hget h p.1 with | some x => eqRow x p.2 && (Nat.ble b0 p.1 && Nat.blt p.1 nx) | none => false)) l
theorem vsHasW_all {nv : Nat} {l : List (Nat × Value)} {vs : Vs} (h : vsHasW nv l vs = true) : ∀ p, p ∈ l → Lv.get VD p.1 vs = some p.2 ∧ p.1 < 64 := by
  induction l with
  | nil => intro p hp; simp at hp
  | cons x l ih =>
    have e : vsHasW nv (x :: l) vs = Bool.rec false (vsHasW nv l vs) (match Lv.get VD x.1 vs with | some v => eqW v x.2 && (Nat.blt x.1 nv && Nat.blt x.1 64) | none => false) := rfl
    rw [e] at h
    cases hx : (match Lv.get VD x.1 vs with | some v => eqW v x.2 && (Nat.blt x.1 nv && Nat.blt x.1 64) | none => false : Bool) with
    | false => rw [hx] at h; cases h
    | true =>
      rw [hx] at h
      intro p hp
      rcases List.mem_cons.1 hp with rfl | hp
      · split at hx
        · rename_i v hv
          simp only [Bool.and_eq_true, blt_eq, decide_eq_true_eq] at hx
          rw [hv, eqW_eq hx.1]
          exact ⟨rfl, hx.2.2⟩
        · cases hx
      · exact ih h p hp
theorem rowsHave_all {b0 nx : Nat} {l : List (Nat × Row)} {h : Hp} (k : rowsHave b0 nx l h = true) : ∀ p, p ∈ l → hget h p.1 = some p.2 ∧ b0 ≤ p.1 ∧ p.1 < nx := by
  induction l with
  | nil => intro p hp; simp at hp
  | cons x l ih =>
    have e : rowsHave b0 nx (x :: l) h = Bool.rec false (rowsHave b0 nx l h) (match hget h x.1 with | some y => eqRow y x.2 && (Nat.ble b0 x.1 && Nat.blt x.1 nx) | none => false) := rfl
    rw [e] at k
    cases hx : (match hget h x.1 with | some y => eqRow y x.2 && (Nat.ble b0 x.1 && Nat.blt x.1 nx) | none => false : Bool) with
    | false => rw [hx] at k; cases k
    | true =>
      rw [hx] at k
      intro p hp
      rcases List.mem_cons.1 hp with rfl | hp
      · split at hx
        · rename_i v hv
          simp only [Bool.and_eq_true, blt_eq, ble_eq', decide_eq_true_eq] at hx
          rw [hv, eqRow_eq hx.1]
          exact ⟨rfl, hx.2⟩
        · cases hx
      · exact ih k p hp
theorem setH_get {g : Hp} : ∀ {l : List (Nat × Row)} {r : Nat} {x : Row}, (∀ p, p ∈ l → p.1 < 4096) → r < 4096 → hget (setH g l) r = some x → (r, x) ∈ l ∨ hget g r = some x := by
  intro l
  induction l with
  | nil => intro r x _ _ h; exact .inr h
  | cons p l ih =>
    intro r x hl hr h
    have e : setH g (p :: l) = hset (setH g l) p.1 p.2 := rfl
    rw [e, hget_hset (hl p List.mem_cons_self) hr] at h
    by_cases q : r = p.1
    · rw [if_pos q] at h; cases h; subst q; exact .inl List.mem_cons_self
    · rw [if_neg q] at h
      rcases ih (fun p hp => hl p (List.mem_cons_of_mem _ hp)) hr h with h | h
      · exact .inl (List.mem_cons_of_mem _ h)
      · exact .inr h
theorem setH_old {g : Hp} {b : Nat} : ∀ {l : List (Nat × Row)} {r : Nat}, (∀ p, p ∈ l → b ≤ p.1 ∧ p.1 < 4096) → r < b → b ≤ 4096 → hget (setH g l) r = hget g r := by
  intro l
  induction l with
  | nil => intro r _ _ _; rfl
  | cons p l ih =>
    intro r hl hr hb
    have e : setH g (p :: l) = hset (setH g l) p.1 p.2 := rfl
    have hp := hl p List.mem_cons_self
    rw [e, hget_hset hp.2 (by omega), if_neg (by omega)]
    exact ih (fun p hp => hl p (List.mem_cons_of_mem _ hp)) hr hb
theorem St.weak {B : Base} (hB : B.Ok) {F : Fence} {nv n : Nat} {R : Ren} {z : Z} {vs vs2 : Vs} {h h2 : Hp} {nx : Nat} {a : Act} {w : World} (st : St B F nv n R z vs [] h nx a w) (hz : z.log = [])
    (hv : ∀ t v, t < nv → Lv.get VD t vs2 = some v → Lv.get VD t vs = some v) (h1 : ∀ r, r < B.nx → hget h2 r = hget h r) (h3 : ∀ r x, B.nx ≤ r → r < nx → hget h2 r = some x → hget h r = some x) : St B F nv n R z vs2 [] h2 nx a w := by
  have hd := st.dom hB
  obtain ⟨n0, e, fr, dfr, rd⟩ := st
  have live : ∀ r b, B.nx ≤ r → R.blk r = some b → Live h2 r → Live h r := fun r b hr hb ⟨x, hx, hn⟩ => ⟨x, h3 r x hr (hd.2 r b hb) hx, hn⟩
  refine ⟨n0, ⟨e.le, e.nxle, e.top, e.size, e.os, e.tape, e.output, ?_, e.kept, fun r hr hm => (h1 r hr).trans (e.hsame r hr hm), ?_, fun r s b hr hs hb hb2 l1 l2 => e.inj r s b hr hs hb hb2 (live r b hr hb l1) (live s b hs hb2 l2), e.mlive, e.mdom⟩,
    ⟨fr.size, fr.nvle, fun t v hS ht hg => fr.var t v hS ht (hv t v ht hg), fr.tmp, fr.glob⟩, dfr, rd⟩
  · intro r b hb
    rcases e.dom r b hb with q | ⟨q1, q2, q3, q4⟩
    · exact .inl q
    · refine .inr ⟨q1, q2, q3, ?_⟩
      rcases q4 with q | ⟨m, hm, _⟩
      · exact .inl q
      · rw [hz] at hm; cases hm
  · intro r b x hr hb hx hn
    rcases hr with hr | hr
    · exact e.rows r b x (.inl hr) hb (h3 r x hr (hd.2 r b hb) hx) hn
    · rw [hz] at hr; cases hr
structure AtH (B : Base) (F : Fence) (nv n : Nat) (l : List (Nat × Value)) (rows : List (Nat × Row)) (nx : Nat) (a : Act) (w : World) : Prop where
  st : ∃ R, St B F nv n R ⟨B.nx, none, [], []⟩ (setL l) [] (setH B.h rows) nx a w
def Bare (B : Base) (b0 : Nat) : Prop := B.nx = b0 ∧ ∀ r, b0 ≤ r → r < 4096 → hget B.h r = none
theorem St.write {B : Base} (hB : B.Ok) {b0 : Nat} (hb : Bare B b0) {F : Fence} {nv n : Nat} {R : Ren} {z : Z} {vs : Vs} {h : Hp} {nx : Nat} {a : Act} {w : World} (st : St B F nv n R z vs [] h nx a w) (hrd : z.rd = none) (hD : z.D = []) (hz : z.log = [])
    {l : List (Nat × Value)} {rows : List (Nat × Row)} (hl : vsHasW nv l vs = true) (hrows : rowsHave b0 nx rows h = true) : AtH B F nv n l rows nx a w := by
  have hv := vsHasW_all hl
  have hr := rowsHave_all hrows
  have hnx := (st.dom hB).1
  have hn0 := st.n0
  obtain ⟨z0, zr, zD, zl⟩ := z
  simp only at hrd hD hz hn0
  subst hrd hD hz hn0
  have hall : ∀ p, p ∈ rows → B.nx ≤ p.1 ∧ p.1 < 4096 := fun p hp => by have := hr p hp; rw [hb.1]; omega
  have hgl : B.nx ≤ 4096 := hB.dom.1
  refine ⟨R, st.weak hB rfl (fun t v ht hg => ?_) (fun r hr2 => ?_) (fun r x h1 h2 h3 => ?_)⟩
  · exact (hv (t, v) (setL_get (fun p hp => (hv p hp).2) (by have := st.fr.nvle; omega) hg)).1
  · rw [setH_old hall hr2 hgl]
    exact (st.ext.hsame r hr2 (by simp)).symm
  · rcases setH_get (fun p hp => (hall p hp).2) (by omega) h3 with q | q
    · exact (hr _ q).1
    · rw [hb.2 r (by rw [← hb.1]; exact h1) (by omega)] at q; cases q
def segOkH (P : Program) (ih : Rec) (nv n : Nat) (c : Code) (k : Nat) (l l' : List (Nat × Value)) (rows rows' : List (Nat × Row)) (b0 nx nx' : Nat) (g0 : Hp) : Bool :=
  match dCode P nv n (takeS k c) kNor with
  | .mk g => (match g ih ⟨b0, none, [], []⟩ (setL l) [] (setH g0 rows) nx with
    | .nor z vs h nx1 => (match z.rd, z.D, z.log with | none, [], [] => Nat.beq nx1 nx' && (vsHasW nv l' vs && rowsHave b0 nx1 rows' h) | _, _, _ => false)
    | _ => false)
  | .bad => false
theorem segH {B : Base} (hB : B.Ok) {b0 : Nat} (hb : Bare B b0) {F : Fence} (hF : Wd F) {ih : Rec} (hdr : DrawOk P) (hr : RecOk P ih) {nv n : Nat} {c : Code} {k : Nat} {l l' : List (Nat × Value)} {rows rows' : List (Nat × Row)} {nx nx' : Nat} {Q : Exit → Act → World → Prop} (hc : isCut k c = true)
    (hrun : segOkH P ih nv n c k l l' rows rows' b0 nx nx' B.h = true) (hrest : ∀ a w, AtH B F nv n l' rows' nx' a w → (dropS k c).wpIn F 0 P Q a w) : ∀ a w, AtH B F nv n l rows nx a w → c.wpIn F 0 P Q a w := by
  intro a w hat
  obtain ⟨R0, st0⟩ := hat.st
  unfold segOkH at hrun
  split at hrun
  · rename_i g hg
    obtain ⟨hb1, hb2⟩ := hb
    subst hb1
    have hb : Bare B B.nx := ⟨rfl, hb2⟩
    refine split_ok (B := B) (F := F) (ih := ih) (fun c => code_ok hdr hB hF hr c) k c hc (Q := Q) hg R0 _ _ _ _ _ a w st0 ?_
    split at hrun
    · rename_i z vs h nx1 hgr
      rw [hgr]
      split at hrun
      · rename_i h1 h2 h3
        simp only [Bool.and_eq_true, beq_eq', decide_eq_true_eq] at hrun
        obtain ⟨rfl, h4, h5⟩ := hrun
        intro R a' w' st
        exact hrest a' w' (st.write hB hb h1 h2 h3 h4 h5)
      · cases hrun
    · cases hrun
  · cases hrun
end Vm
end Go
namespace Go
namespace Vm
open Go.RowKit
variable {P : Program}
def endOkH (P : Program) (ih : Rec) (nv n : Nat) (c : Code) (rs : List ResultVar) (l : List (Nat × Value)) (rows : List (Nat × Row)) (b0 nx : Nat) (g0 : Hp) : Bool :=
  match dCode P nv n c kNor with
  | .mk g => cameTrue (fin (rs.map (dRes P nv)) (g ih ⟨b0, none, [], []⟩ (setL l) [] (setH g0 rows) nx))
  | .bad => false
theorem endH {B : Base} (hB : B.Ok) {b0 : Nat} (hb : Bare B b0) {F : Fence} (hFw : Wd F) {ih : Rec} (hdr : DrawOk P) (hr : RecOk P ih) {nv n : Nat} {c : Code} {l : List (Nat × Value)} {rows : List (Nat × Row)} {nx : Nat} {fn : Func}
    (hrun : endOkH P ih nv n c fn.results.toList l rows b0 nx B.h = true) : ∀ a w, AtH B F.plain nv n l rows nx a w → c.wpIn F.plain 0 P (bodyPostM F.plain 0 P fn (fun e w' => e = .returned (.bool true) ∧ Below B.w.heap.size B.w w')) a w := by
  intro a w hat
  obtain ⟨R0, st0⟩ := hat.st
  unfold endOkH at hrun
  split at hrun
  · rename_i g hg
    obtain ⟨hb1, hb2⟩ := hb
    subst hb1
    have hb : Bare B B.nx := ⟨rfl, hb2⟩
    have hF : Wd F.plain := hFw
    obtain ⟨h', nx', hq⟩ := cameTrue_eq hrun
    have post : ∀ (R : Ren) (v' : Value) (w' : World), VR R (.bool true) v' → Ext B.R R B.h h' B.nx nx' [] B.w w' → (Ending.returned v') = .returned (.bool true) ∧ Below B.w.heap.size B.w w' := fun R v' w' h1 h2 => by
      cases h1
      exact ⟨rfl, h2.os, h2.tape, h2.output, h2.size, fun b h => h2.kept b h fun m hm => by cases hm⟩
    have hco := code_ok hdr hB hF hr c (nv := nv) (n := n) hg (ks_nor ih (bodyPostM F.plain 0 P fn (fun e w' => e = .returned (.bool true) ∧ Below B.w.heap.size B.w w'))) R0 _ _ _ _ _ a w st0 ?_
    · exact wpIn_ext hco fun e a w q => by cases e <;> exact q
    · have lv : ∀ z vs h2 nx2, leave (fn.results.toList.map (dRes P nv)) z vs h2 nx2 = .val (.bool true) h' nx' [] → ∀ R2 a w2, St B F.plain nv n R2 z vs [] h2 nx2 a w2 →
          LeavesInM F.plain 0 P fn a.tmps (fun e w' => e = .returned (.bool true) ∧ Below B.w.heap.size B.w w') a.defers .returning w2 := by
        intro z vs h2 nx2 hl R2 a w2 st
        unfold leave at hl
        split at hl
        · rename_i h3 hsh
          split at hl
          · rename_i us hu
            injection hl with hl1 hl2 hl3 hl4
            subst hl2 hl3
            exact leaves_ok hB st.dfr hsh st.ext st.fr hu fun v' w' h5 h6 => by
              rw [hl1] at h5
              rw [hl4] at h6
              exact post R2 v' w' h5 h6
          · cases hl
        · cases hl
      cases hres : g ih ⟨B.nx, none, [], []⟩ (setL l) [] (setH B.h rows) nx with
      | no => rw [hres] at hq; cases hq
      | val v2 h2 n2 M2 => rw [hres] at hq; cases hq
      | exi id z vs h2 n2 => rw [hres] at hq; cases hq
      | nor z vs h2 n2 => rw [hres] at hq; exact fun R2 a w2 st => lv z vs h2 n2 hq R2 a w2 st
      | ret z vs h2 n2 => rw [hres] at hq; exact fun R2 a w2 st => lv z vs h2 n2 hq R2 a w2 st
  · cases hrun
theorem base00 (hN : NG ≤ 4096) {g0 : Hp} {w0 : World} (hs : NG ≤ w0.heap.size) (hl : Laid g0 w0) : Base.Ok ⟨R00, g0, NG, w0⟩ :=
  ⟨⟨fun r b x hb hx hn => by obtain ⟨h1, rfl⟩ := R00_blk hb; exact hl _ x h1 hx hn, fun r s b hr hs _ _ => by rw [← (R00_blk hr).2, (R00_blk hs).2], fun r b hb => by obtain ⟨h1, rfl⟩ := R00_blk hb; exact Nat.lt_of_lt_of_le h1 hs⟩,
    ⟨hN, fun r b hb => (R00_blk hb).1⟩, fun g hg => if_pos hg⟩
end Vm
end Go
namespace Go
namespace Vm
open Go.RowKit
variable {P : Program}
end Vm
end Go
namespace Go
namespace Vm
open Go.RowKit
variable {P : Program}
structure KC where
  f : FuncId
  args : List Value
  rows : List (Nat × Row)
  nx : Nat
  v : Value
structure KC.Ok (P : Program) (g0 : Hp) (k : KC) : Prop where
  body : hasBody P k.f = true
  run : ∀ (F : Fence) (R : Ren) (w : World) (args' : Array Value), Wd F → HR R (setH g0 k.rows) w → Dom R k.nx → (∀ g, g < NG → R.blk g = some g) → VL R k.args args'.toList →
    CallsIn F 0 P k.f args' w (fun e w' => ∃ v', e = .returned v' ∧ VR R k.v v' ∧ Below w.heap.size w w')
def eqWs (a : List Value) : List Value → Bool :=
  List.rec (motive := fun _ => List Value → Bool) (fun b => match b with | [] => true | _ => false) (fun x _ ih b => match b with | y :: b => Bool.rec false (ih b) (eqW x y) | [] => false) a
theorem eqWs_eq : ∀ {a b : List Value}, eqWs a b = true → a = b := by
  intro a
  induction a with
  | nil => intro b h; cases b with
    | nil => rfl
    | cons y b => cases h
  | cons x a ih =>
    intro b h
    cases b with
    | nil => cases h
    | cons y b =>
      have e : eqWs (x :: a) (y :: b) = Bool.rec false (eqWs a b) (eqW x y) := rfl
      rw [e] at h
      cases hx : eqW x y with
      | false => rw [hx] at h; cases h
      | true =>
        rw [hx] at h
        rw [eqW_eq hx, ih h]
def isKC (g0 : Hp) (k : KC) (f : FuncId) (args : List Value) (h : Hp) (nx : Nat) : Bool :=
  Bool.rec false (Bool.rec false (Bool.rec false (rowsHave NG nx k.rows h && glOk g0 h) (eqWs args k.args)) (Nat.beq nx k.nx)) (Nat.beq f k.f)
def findKC (g0 : Hp) (ks : List KC) (f : FuncId) (args : List Value) (h : Hp) (nx : Nat) : Option Value :=
  List.rec none (fun k _ ih => Bool.rec ih (some k.v) (isKC g0 k f args h nx)) ks
theorem findKC_some {g0 : Hp} {f : FuncId} {args : List Value} {h : Hp} {nx : Nat} {v : Value} : ∀ {ks : List KC}, findKC g0 ks f args h nx = some v → ∃ k, k ∈ ks ∧ v = k.v ∧ isKC g0 k f args h nx = true := by
  intro ks
  induction ks with
  | nil => intro e; cases e
  | cons k ks ih =>
    intro e
    have e2 : findKC g0 (k :: ks) f args h nx = Bool.rec (findKC g0 ks f args h nx) (some k.v) (isKC g0 k f args h nx) := rfl
    rw [e2] at e
    cases hk : isKC g0 k f args h nx with
    | false =>
      rw [hk] at e
      obtain ⟨k', h1, h2, h3⟩ := ih e
      exact ⟨k', List.mem_cons_of_mem _ h1, h2, h3⟩
    | true =>
      rw [hk] at e
      cases e
      exact ⟨k, List.mem_cons_self, rfl, hk⟩
theorem isKC_all {g0 : Hp} {k : KC} {f : FuncId} {args : List Value} {h : Hp} {nx : Nat} (e : isKC g0 k f args h nx = true) : f = k.f ∧ nx = k.nx ∧ args = k.args ∧ rowsHave NG nx k.rows h = true ∧ glOk g0 h = true := by
  unfold isKC at e
  cases h1 : Nat.beq f k.f with
  | false => rw [h1] at e; cases e
  | true =>
    rw [h1] at e
    cases h2 : Nat.beq nx k.nx with
    | false => rw [h2] at e; cases e
    | true =>
      rw [h2] at e
      cases h3 : eqWs args k.args with
      | false => rw [h3] at e; cases e
      | true =>
        rw [h3] at e
        simp only [Bool.and_eq_true] at e
        exact ⟨Nat.eq_of_beq_eq_true h1, Nat.eq_of_beq_eq_true h2, eqWs_eq h3, e.1, e.2⟩
def orcC (ks : List KC) (g0 : Hp) (ih : Rec) : Rec := fun t h nx =>
  match t with
  | .call f args => (match findKC g0 ks f args h nx with | some v => .val v h nx [] | none => ih (.call f args) h nx)
  | t => ih t h nx
theorem hr_kc {g0 : Hp} (hg0 : ∀ r, NG ≤ r → r < 4096 → hget g0 r = none) {R : Ren} {h : Hp} {w : World} {nx : Nat} (hh : HR R h w) (hd : Dom R nx) {rows : List (Nat × Row)} (hr : rowsHave NG nx rows h = true) (hg : glOk g0 h = true) : HR R (setH g0 rows) w := by
  have hra := rowsHave_all hr
  have key : ∀ r b x, R.blk r = some b → hget (setH g0 rows) r = some x → hget h r = some x := fun r b x hb hx => by
    have hrn := hd.2 r b hb
    have hn := hd.1
    rcases setH_get (fun p hp => by have := hra p hp; omega) (by omega) hx with q | q
    · exact (hra _ q).1
    · by_cases c : r < NG
      · obtain ⟨a, h1, h2, _⟩ := glOk_row hg r c
        rw [h1] at q; rw [h2, q]
      · rw [hg0 r (by omega) (by omega)] at q; cases q
  exact ⟨fun r b x hb hx hn => hh.row r b x hb (key r b x hb hx) hn, fun r s b hr hs ⟨x, l1, l2⟩ ⟨y, l3, l4⟩ => hh.inj r s b hr hs ⟨x, key r b x hr l1, l2⟩ ⟨y, key s b y hs l3, l4⟩, hh.bnd⟩
theorem orcC_ok {ih : Rec} (hr : RecOk P ih) {ks : List KC} {g0 : Hp} (hg0 : ∀ r, NG ≤ r → r < 4096 → hget g0 r = none) (hk : ∀ k, k ∈ ks → k.Ok P g0) : RecOk P (orcC ks g0 ih) := by
  have key : ∀ {f : FuncId} {args : List Value} {h : Hp} {nx : Nat} {v : Value} {h' : Hp} {nx' : Nat} {M : List Nat}, orcC ks g0 ih (.call f args) h nx = .val v h' nx' M →
      ih (.call f args) h nx = .val v h' nx' M ∨ (findKC g0 ks f args h nx = some v ∧ h' = h ∧ nx' = nx ∧ M = []) := by
    intro f args h nx v h' nx' M e
    have e2 : orcC ks g0 ih (.call f args) h nx = (match findKC g0 ks f args h nx with | some v => .val v h nx [] | none => ih (.call f args) h nx) := rfl
    rw [e2] at e
    cases h1 : findKC g0 ks f args h nx with
    | none => rw [h1] at e; exact .inl e
    | some u => rw [h1] at e; cases e; exact .inr ⟨rfl, rfl, rfl, rfl⟩
  refine ⟨fun e => ?_, fun e => ?_, fun hB hF st g => hr.code hB hF st g⟩
  · rcases key e with q | ⟨q, _⟩
    · exact hr.body q
    · obtain ⟨k, h1, _, h3⟩ := findKC_some q
      obtain ⟨rfl, _⟩ := isKC_all h3
      exact (hk k h1).body
  · intro R w F args' hh hd hgl hF hv
    rcases key e with q | ⟨q, rfl, rfl, rfl⟩
    · exact hr.call q hh hd hgl hF hv
    · obtain ⟨k, h1, rfl, h3⟩ := findKC_some q
      obtain ⟨rfl, rfl, rfl, h4, h5⟩ := isKC_all h3
      have hc := (hk k h1).run F R w args' hF (hr_kc hg0 hh hd h4 h5) hd hgl hv
      refine hc.mono fun e w' q => ?_
      obtain ⟨v', h1, h2, h3⟩ := q
      refine ⟨v', R, h1, h2, ⟨.refl R, Nat.le_refl _, hd.1, h3.size, h3.os, h3.tape, h3.output, fun r b hb => .inl hb, fun k hk _ => h3.block k hk, fun _ _ _ => rfl, fun r b x hr hb _ _ => ?_, fun r s b h1 _ h3 _ _ _ => ?_, fun m hm => (by cases hm), fun m hm => (by cases hm)⟩⟩
      · rcases hr with hr | hr
        · have := hd.2 r b hb; omega
        · cases hr
      · have := hd.2 r b h3; omega
variable (P) in
def baseC (nvs : List (Nat × Nat)) (done : List FuncId) (ks : List KC) (g0 : Hp) (n : Nat) : Rec := Nat.rec (fun _ _ _ => .no) (fun _ ih t => exTask P nvs t (orcC ks g0 (orc done g0 ih))) n
variable (P) in
def execC (nvs : List (Nat × Nat)) (done : List FuncId) (ks : List KC) (g0 : Hp) (n : Nat) : Rec := orcC ks g0 (orc done g0 (baseC P nvs done ks g0 n))
theorem execC_ok (hdr : DrawOk P) {nvs : List (Nat × Nat)} {done : List FuncId} {ks : List KC} {g0 : Hp} (hg0 : ∀ r, NG ≤ r → r < 4096 → hget g0 r = none) (hd0 : ∀ f, f ∈ done → Known P f g0) (hk : ∀ k, k ∈ ks → k.Ok P g0) (m : Nat) : RecOk P (execC P nvs done ks g0 m) := by
  have base : RecOk P (baseC P nvs done ks g0 m) := by
    induction m with
    | zero =>
      refine ⟨fun h => ?_, fun h => ?_, fun hB hF st g => ?_⟩
      · cases h
      · cases h
      · exact g.elim
    | succ m ih =>
      have ih' := orcC_ok (orc_ok2 ih hd0) hg0 hk
      refine ⟨fun h => ?_, fun h => ?_, fun {c nv n z vs h nx B F R a w Q} hB hF st g => ?_⟩
      · exact (exCall_ok hdr ih' h).1
      · exact (exCall_ok hdr ih' h).2
      · have e : baseC P nvs done ks g0 (m + 1) (.code c nv n z vs) h nx = exCode P c nv n z vs (orcC ks g0 (orc done g0 (baseC P nvs done ks g0 m))) h nx := rfl
        rw [e] at g
        unfold exCode at g
        split at g
        · rename_i f hf
          exact code_ok hdr hB hF ih' c hf (ks_nor _ Q) _ _ _ _ _ _ _ _ st g
        · exact g.elim
  exact orcC_ok (orc_ok2 base hd0) hg0 hk
def cameAs (v : Value) (r : R) : Bool := match r with | .val u _ _ [] => eqW u v && ground v | _ => false
theorem kc_run1 (hm : P.follows .mixedOrders = true) {nvs : List (Nat × Nat)} {done : List FuncId} {ks : List KC} {g0 : Hp} {fuel : Nat} {k : KC} (hg0 : ∀ r, NG ≤ r → r < 4096 → hget g0 r = none) (hd0 : ∀ f, f ∈ done → Known P f g0) (hk : ∀ k, k ∈ ks → k.Ok P g0)
    (hrun : cameAs k.v (execC P nvs done ks g0 fuel (.call k.f k.args) (setH g0 k.rows) k.nx) = true) : k.Ok P g0 := by
  have ok := execC_ok (nvs := nvs) (draw_ok hm) hg0 hd0 hk fuel
  obtain ⟨h', nx', hr, hg⟩ : ∃ h' nx', execC P nvs done ks g0 fuel (.call k.f k.args) (setH g0 k.rows) k.nx = .val k.v h' nx' [] ∧ ground k.v = true := by
    unfold cameAs at hrun
    split at hrun
    · rename_i u h1 n1 he
      simp only [Bool.and_eq_true] at hrun
      rw [eqW_eq hrun.1] at he
      exact ⟨_, _, he, hrun.2⟩
    · cases hrun
  refine ⟨ok.body hr, fun F R w args' hF hh hd hgl hv => ?_⟩
  have hc := ok.call hr (F := F) hh hd hgl hF hv
  refine hc.mono fun e w' q => ?_
  obtain ⟨v', R', h1, h2, h3⟩ := q
  refine ⟨v', h1, ?_, h3.os, h3.tape, h3.output, h3.size, fun b hb => h3.kept b hb fun m hm => by cases hm⟩
  rw [ground_eq hg h2]
  exact ground_vr hg R
end Vm
end Go
namespace Go
namespace Vm
open Go.RowKit
variable {P : Program}
theorem known_parts (hN : NG ≤ 4096) {f : FuncId} {g0 : Hp} {fn : Func} {c : Code} {nv : Nat} (hnv : nv ≤ 64) (hf : P.funcs[f]? = some fn) (hb : fn.body = some c) (hbd : hasBody P f = true) (hg0 : ∀ r, NG ≤ r → r < 4096 → hget g0 r = none)
    (h : ∀ (F : Fence) (w : World), Wd F → Base.Ok ⟨R00, g0, NG, w⟩ → Bare ⟨R00, g0, NG, w⟩ NG → ∀ a, AtH ⟨R00, g0, NG, w⟩ F.plain nv fn.ntmps [] [] NG a w →
      c.wpIn F.plain 0 P (bodyPostM F.plain 0 P fn (fun e w' => e = .returned (.bool true) ∧ Below w.heap.size w w')) a w) : Known P f g0 := by
  refine ⟨hbd, fun F w hF hs hl => ?_⟩
  have hB := base00 hN hs hl
  have hd : Dom R00 NG := hB.dom
  have key : CallsIn F.plain 0 P f #[] w (fun e w' => e = .returned (.bool true) ∧ Below w.heap.size w w') := by
    refine callsIn_of_wp_marks hf hb (hF.1 f) ?_ rfl
    refine h F w hF hB ⟨rfl, hg0⟩ _ ⟨R00, rfl, Ext.refl _ _ _ _ hd, ⟨by simp, hnv, fun t v _ ht hv => ?_, fun t v _ _ hv => (by cases hv), fun g hg => if_pos hg⟩, .nil, rfl⟩
    rw [show setL [] = Lv.nil Value VD from rfl, Lv.get_nil] at hv
    cases hv
  exact key
end Vm
end Go
namespace Go
namespace Vm
open Go.RowKit
variable {P : Program}
theorem KC.known {g0 : Hp} {f : FuncId} (hN : NG ≤ 4096) (k : KC.Ok P g0 ⟨f, [], [], NG, .bool true⟩) : Known P f g0 := by
  refine ⟨k.body, fun F w hF hs hl => ?_⟩
  have hB := base00 hN hs hl
  refine (k.run F R00 w #[] hF hB.hr hB.dom hB.gl (.nil _)).mono fun e w' q => ?_
  obtain ⟨v', h1, h2, h3⟩ := q
  cases h2
  exact ⟨h1, h3⟩
theorem okAll_nil {g0 : Hp} : ∀ k, k ∈ ([] : List KC) → k.Ok P g0 := fun k hk => by cases hk
theorem okAll_cons {g0 : Hp} {k : KC} {ks : List KC} (h : k.Ok P g0) (hs : ∀ k, k ∈ ks → k.Ok P g0) : ∀ x, x ∈ k :: ks → x.Ok P g0 := fun x hx => by
  rcases List.mem_cons.1 hx with rfl | hx
  · exact h
  · exact hs x hx
theorem none_done {g0 : Hp} : ∀ f, f ∈ ([] : List FuncId) → Known P f g0 := fun f hf => by cases hf
end Vm
end Go
