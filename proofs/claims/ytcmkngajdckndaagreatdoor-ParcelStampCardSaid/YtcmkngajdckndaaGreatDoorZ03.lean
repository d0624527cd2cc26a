/- A machine that takes letters for numbers and lists: what it answers, the program answers (its operations, steps, calls, loops, lists of a world); Rules by which a run of that machine is computed. Conditions: none. -/
import Derived.Test.YtcmkngajdckndaaGreatDoorZ02
import Derived.RangeFuncLeaves
import Derived.OrdersIn
import Derived.Below
set_option linter.unusedVariables false
set_option linter.unusedSimpArgs false
noncomputable section
namespace Go
namespace Lm
variable [Lo]
variable {P : Program}
def DrawOk (P : Program) : Prop := ∀ {B : Base} {F : Fence} {nv n : Nat} {ih : Rec} (id : Nat) (ops : Array Oper), B.Ok → Wd F → AllGe P ih → CodeOk P B F nv n ih (.region id ops true)
theorem code_bad {B : Base} {F : Fence} {nv n : Nat} {ih : Rec} {c : Code} (h : ∀ k, dCode P nv n c k = .bad) : CodeOk P B F nv n ih c := by
  intro k f KQ Q hk
  rw [h] at hk; cases hk
theorem code_ok (hdr : DrawOk P) {B : Base} {F : Fence} {nv n : Nat} {ih : Rec} (hB : B.Ok) (hF : Wd F) (hr : RecOk P ih) (c : Code) : CodeOk P B F nv n ih c := by
  have hge := allGe_ok hr (yield_ok hr)
  induction c with
  | skip => exact code_skip
  | region id ops draw =>
    cases draw with
    | false => exact @code_region_plain _ P B F nv n hB hF ih hge id ops
    | true => exact @hdr B F nv n ih id ops hB hF hge
  | seq a b iha ihb => exact code_seq iha ihb
  | cond c a b iha ihb => exact code_cond iha ihb
  | block id a iha => exact code_block iha
  | loop a iha => exact code_loop iha
  | rangeFunc g ps a b _ _ => exact code_range hB hF hr g ps a b
  | exit id => exact code_exit id
  | scope a iha => exact code_scope iha
  | label l => exact code_label l
  | goto l => exact code_bad fun k => rfl
  | ret => exact code_ret
  | refuse s => exact code_bad fun k => rfl
omit [Lo] in
theorem enum_get : ∀ (l : List Value) (i : Nat), i + l.length ≤ i + l.length → ∀ t v, t ≤ t → Lv.get VD t (enum l i) = some v → i ≤ t ∧ l[t - i]? = some v := by
  intro l
  induction l with
  | nil => intro i _ t v _ h; rw [show enum [] i = Lv.nil Value VD from rfl, Lv.get_nil] at h; cases h
  | cons x l ih =>
    intro i hi t v ht h
    have e : enum (x :: l) i = Lv.set VD i x (enum l (i + 1)) := rfl
    simp only [List.length_cons] at hi
    have hvd : (2 : Nat) ^ VD = 64 := rfl
    rw [e, Lv.get_set VD i t x _ (by omega) (by omega)] at h
    by_cases q : t = i
    · subst q
      simp only [if_true] at h
      cases h
      exact ⟨Nat.le_refl _, by simp⟩
    · simp only [q, if_false] at h
      obtain ⟨h1, h2⟩ := ih (i + 1) (by omega) t v ht h
      refine ⟨by omega, ?_⟩
      rw [show t - i = (t - (i + 1)) + 1 by omega]
      exact h2
theorem enum_fr {R : Ren} {nv n : Nat} {args : List Value} {args' : Array Value} (hv : VL R args args'.toList) (h1 : args.length ≤ n) (h2 : args.length ≤ nv) (h3 : nv ≤ nv) (hg : ∀ g, g < NG → R.blk g = some g) :
    FrOk (fun _ => True) R nv n (enum args 0) [] (args' ++ Array.replicate (n - args'.size) undef) := by
  have hs : args'.size = args.length := by have := hv.1; simpa using this.symm
  refine ⟨by simp; omega, h3, fun t v _ ht hx => ?_, fun t v _ _ hx => (by cases hx), hg⟩
  obtain ⟨_, hx⟩ := enum_get args 0 (by omega) t v (by omega) hx
  rw [Nat.sub_zero] at hx
  obtain ⟨x', h4, h5⟩ := hv.get hx
  have hlt : t < args'.size := by have := (List.getElem?_eq_some_iff.1 hx).1; omega
  exact ⟨x', by rw [Array.getElem?_append_left hlt]; simpa using h4, h5⟩
def resGo (tmps : Array Value) : ResultVar → Sem Value
  | .tmp t => pure (tmps.getD t undef)
  | .cell a t => do loadVar t (← asAddr (tmps.getD a undef))
theorem res_run {R : Ren} {nv n : Nat} {vs : Vs} {h : Hp} {w : World} {tm : Array Value} (hh : HR R h w) (hfr : FrOk (fun _ => True) R nv n vs [] tm) : ∀ (l : List ResultVar) {us : List Value},
    resL (l.map (dRes P nv)) vs h = some us → ∃ us', VL R us us' ∧ (l.mapM (resGo tm)).run P w = .ok us' w := by
  intro l
  induction l with
  | nil => intro us hu; cases hu; exact ⟨[], .nil R, rfl⟩
  | cons x l ih =>
    intro us hu
    have e : resL ((x :: l).map (dRes P nv)) vs h = match resOf (dRes P nv x) vs h with
      | some v => (match resL (l.map (dRes P nv)) vs h with | some us => some (v :: us) | none => none) | none => none := rfl
    rw [e] at hu
    split at hu
    · rename_i v hv
      split at hu
      · rename_i us1 hus
        cases hu
        obtain ⟨us', h1, h2⟩ := ih hus
        have one : ∃ v', VR R v v' ∧ (resGo tm x).run P w = .ok v' w := by
          cases x with
          | tmp t =>
            obtain ⟨f, hf⟩ := dX_some nv (.tmp t)
            have e2 : dRes P nv (.tmp t) = .x f := by simp only [dRes, hf]
            rw [e2] at hv
            obtain ⟨v', h3, h4⟩ := dX_tmp hf hfr hv
            refine ⟨v', h4, ?_⟩
            simp only [resGo, Array.getD_eq_getD_getElem?, h3]
            rfl
          | cell a t =>
            obtain ⟨f, hf⟩ := dX_some nv (.tmp a)
            cases hty : ty P t with
            | none => simp only [dRes, hty, hf] at hv; cases hv
            | some i =>
              have e2 : dRes P nv (.cell a t) = .cell f i.agg i.size := by simp only [dRes, hty, hf]
              rw [e2] at hv
              simp only [resOf] at hv
              split at hv
              · rename_i r o hx
                obtain ⟨v', h3, h4⟩ := dX_tmp hf hfr hx
                cases h4 with
                | ptr _ hb hlo =>
                  obtain ⟨v', h5, h6⟩ := loadVar_run hty (hh.at r) hb hlo hv
                  refine ⟨v', h5, ?_⟩
                  simp only [resGo, Array.getD_eq_getD_getElem?, h3, Option.getD_some, asAddr, Sem.run_bind, Sem.run_pure, Result.andThen]
                  exact h6
              · cases hv
        obtain ⟨v', h3, h4⟩ := one
        refine ⟨v' :: us', .cons h3 h1, ?_⟩
        simp only [List.mapM_cons, Sem.run_bind, h4, h2, Result.andThen, Sem.run_pure]
      · cases hu
    · cases hu
theorem results_run {R : Ren} {nv n : Nat} {vs : Vs} {h : Hp} {w : World} {tm : Array Value} (hh : HR R h w) (hfr : FrOk (fun _ => True) R nv n vs [] tm) (fn : Func) {us : List Value}
    (hu : resL (fn.results.toList.map (dRes P nv)) vs h = some us) : ∃ v', VR R (tup us) v' ∧ (results fn tm).run P w = .ok v' w := by
  obtain ⟨us', h1, h2⟩ := res_run hh hfr fn.results.toList hu
  have e : results fn tm = (do
      let vs ← fn.results.mapM (resGo tm)
      pure (if h : vs.size = 1 then vs[0] else .tuple vs)) := by
    unfold results
    congr 1
  have hrun : (fn.results.mapM (resGo tm)).run P w = .ok us'.toArray w := by
    rw [Array.mapM_eq_mapM_toList]
    rw [show (Functor.map List.toArray (fn.results.toList.mapM (resGo tm))) = (fn.results.toList.mapM (resGo tm) >>= fun l => pure l.toArray) from (bind_pure_comp _ _).symm]
    simp only [Sem.run_bind, h2, Result.andThen, Sem.run_pure]
  refine ⟨if h : us'.toArray.size = 1 then us'.toArray[0] else .tuple us'.toArray, ?_, ?_⟩
  · have hlen := h1.1
    by_cases h3 : us.length = 1
    · obtain ⟨x, rfl⟩ := List.length_eq_one_iff.1 h3
      obtain ⟨x', rfl⟩ := List.length_eq_one_iff.1 (hlen.symm.trans h3)
      simp only [tup, List.size_toArray, List.length_cons, List.length_nil, dite_true]
      exact h1.tail.1
    · have h4 : ¬ us'.toArray.size = 1 := by simp; omega
      rw [dif_neg h4]
      have h5 : tup us = .tuple us.toArray := by
        unfold tup
        split
        · exact absurd rfl h3
        · rfl
      rw [h5]
      exact .tuple (by simpa using hlen) fun i x x' hx hx' => h1.2 i x x' (by simpa using hx) (by simpa using hx')
  · rw [e]
    simp only [Sem.run_bind, hrun, Result.andThen, Sem.run_pure]
theorem leaves_ok {F : Fence} {B : Base} (hB : B.Ok) {nv n : Nat} {vs : Vs} {fn : Func} {tm : Array Value} {X : Ending → World → Prop} {log : List Nat} {nx : Nat} : ∀ {D : List Nat} {ds : List Deferred} {h h' : Hp} {R : Ren} {w : World} {us : List Value},
    DR B.nx R D ds → shut D h = some h' → Ext B.R R B.h h B.nx nx log B.w w → FrOk (fun _ => True) R nv n vs [] tm → resL (fn.results.toList.map (dRes P nv)) vs h' = some us →
    (∀ v' w', VR R (tup us) v' → Ext B.R R B.h h' B.nx nx log B.w w' → X (.returned v') w') → LeavesInM F 0 P fn tm X ds .returning w := by
  intro D
  induction D with
  | nil =>
    intro ds h h' R w us hdr hs he hfr hu hX
    cases hdr
    have e : shut [] h = some h := rfl
    rw [e] at hs
    cases hs
    obtain ⟨v', h1, h2⟩ := results_run (he.hr hB.dom hB.hr) hfr fn hu
    exact ⟨v', h2, hX v' w h1 he⟩
  | cons d D ih =>
    intro ds h h' R w us hdr hs he hfr hu hX
    cases hdr with
    | cons hb hn hrest =>
      rename_i b ds
      have e : shut (d :: D) h = match hget h d with | some .deferred => shut D (hset h d .dead) | _ => none := rfl
      rw [e] at hs
      split at hs
      · rename_i hrow
        have hh := he.hr hB.dom hB.hr
        have hD := he.domNew hB.dom
        obtain ⟨ob, hob, hro⟩ := hh.row d b _ hb hrow (by simp)
        have hro' : ob = .deferred (some []) := hro
        subst hro'
        have e2 : Ext R R h (hset h d .dead) nx nx [d] w (w.putObj b (.deferred none)) :=
          ext_wr (ob := .deferred none) hD hb hrow (by simp) trivial World.putObj_size rfl rfl rfl (World.putObj_heap_same (Array.getElem?_eq_some_iff.1 hob).1) fun k hk => World.putObj_heap_other hk
        have e3 := he.trans e2 hB.dom hB.hr
        rw [logs_none hn] at e3
        exact ⟨by simp, .inl ⟨b, _, rfl, run_takeDeferred hob, ih hrest hs e3 hfr hu hX⟩⟩
      · cases hs
variable {nvs : List (Nat × Nat)}
omit [Lo] in
theorem dFn_eq {f : FuncId} {g : K} {rs : List XR} {n nv : Nat} (h : dFn P nvs f = .mk g rs n nv) :
    ∃ fn body, P.funcs[f]? = some fn ∧ fn.body = some body ∧ dCode P nv fn.ntmps body kNor = .mk g ∧ rs = fn.results.toList.map (dRes P nv) ∧ n = fn.ntmps ∧ hasBody P f = true ∧ nv ≤ nv := by
  unfold dFn at h
  split at h
  · rename_i fn hf
    split at h
    · rename_i body hb
      split at h
      · rename_i g' hg
        cases hq : (and (hasBody P f) (Nat.ble (nvOf nvs f) (nvOf nvs f))) with
        | false => rw [hq] at h; cases h
        | true =>
          rw [hq] at h
          simp only at h
          injection h with h1 h2 h3 h4
          simp only [Bool.and_eq_true] at hq
          subst h1 h2 h3 h4
          exact ⟨fn, body, hf, hb, hg, rfl, rfl, hq.1, Nat.le_of_ble_eq_true hq.2⟩
      · cases h
    · cases h
  · cases h
theorem exCall_ok (hdr : DrawOk P) {ih : Rec} (hr : RecOk P ih) {f : FuncId} {args : List Value} {h : Hp} {nx : Nat} {v : Value} {h' : Hp} {nx' : Nat} {M : List Nat} (hex : exCall P nvs f args ih h nx = .val v h' nx' M) :
    hasBody P f = true ∧ ∀ {R : Ren} {w : World} {F : Fence} {args' : Array Value}, HR R h w → Dom R nx → (∀ g, g < NG → R.blk g = some g) → Wd F → VL R args args'.toList →
      CallsIn F 0 P f args' w (fun e w' => ∃ v' R', e = .returned v' ∧ VR R' v v' ∧ Ext R R' h h' nx nx' M w w') := by
  unfold exCall at hex
  split at hex
  rotate_left
  · cases hex
  rename_i g rs n nv hdf
  obtain ⟨fn, body, hf, hb, hg, hrs, hn, hbody, hnv⟩ := dFn_eq hdf
  subst hrs hn
  refine ⟨hbody, ?_⟩
  intro R w F args' hh hd hgl hF hv
  rw [Bool.cond_eq_ite] at hex
  split at hex
  rotate_left
  · cases hex
  rename_i hc
  simp only [Bool.and_eq_true] at hc
  have hle1 := Nat.le_of_ble_eq_true hc.1
  have hle2 := Nat.le_of_ble_eq_true hc.2
  have hB : Base.Ok ⟨R, h, nx, w⟩ := ⟨hh, hd, hgl⟩
  have hF' : Wd F.plain := hF
  have key : CallsIn F.plain 0 P f args' w (fun e w' => ∃ v' R', e = .returned v' ∧ VR R' v v' ∧ Ext R R' h h' nx nx' M w w') := by
    refine callsIn_of_wp_marks hf hb (hF.1 f) ?_ rfl
    have hco := code_ok hdr hB hF' hr body (nv := nv) (n := fn.ntmps) hg (ks_nor ih (bodyPostM F.plain 0 P fn (fun e w' => ∃ v' R', e = .returned v' ∧ VR R' v v' ∧ Ext R R' h h' nx nx' M w w'))) R ⟨nx, none, [], []⟩ (enum args 0) [] h nx
      { tmps := args' ++ Array.replicate (fn.ntmps - args'.size) undef, defers := [] } w ⟨rfl, Ext.refl _ _ _ _ hd, enum_fr hv hle1 hle2 hnv hgl, .nil, rfl⟩ ?_
    · exact wpIn_ext hco fun e a w q => by cases e <;> exact q
    · have lv : ∀ z vs h2 nx2, leave (fn.results.toList.map (dRes P nv)) z vs h2 nx2 = .val v h' nx' M → ∀ R2 a w2, St ⟨R, h, nx, w⟩ F.plain nv fn.ntmps R2 z vs [] h2 nx2 a w2 →
          LeavesInM F.plain 0 P fn a.tmps (fun e w' => ∃ v' R', e = .returned v' ∧ VR R' v v' ∧ Ext R R' h h' nx nx' M w w') a.defers .returning w2 := by
        intro z vs h2 nx2 hl R2 a w2 st
        unfold leave at hl
        split at hl
        · rename_i h3 hsh
          split at hl
          · rename_i us hu
            cases hl
            exact leaves_ok hB st.dfr hsh st.ext st.fr hu fun v' w' h5 h6 => ⟨v', R2, rfl, h5, h6⟩
          · cases hl
        · cases hl
      cases hres : g ih ⟨nx, none, [], []⟩ (enum args 0) [] h nx with
      | no => rw [hres] at hex; cases hex
      | val v2 h2 n2 M2 => rw [hres] at hex; cases hex
      | exi id z vs h2 n2 => rw [hres] at hex; cases hex
      | nor z vs h2 n2 => rw [hres] at hex; exact fun R2 a w2 st => lv z vs h2 n2 hex R2 a w2 st
      | ret z vs h2 n2 => rw [hres] at hex; exact fun R2 a w2 st => lv z vs h2 n2 hex R2 a w2 st
  exact key
end Lm
end Go
namespace Go
namespace Lm
variable [Lo]
variable {P : Program}
section
variable {nv n : Nat}
theorem dX_tmpS {S : Nat → Prop} {t : Nat} {x : OpV} (h : dX nv (.tmp t) = .mk x) {R : Ren} {vs : Vs} {ts : Ts} {tm : Array Value} {v : Value} (hF : FrOk S R nv n vs ts tm) (hS : S t) (hv : x vs ts = some v) :
    ∃ v', tm[t]? = some v' ∧ VR R v v' := by
  unfold dX at h
  simp only [blt_eq] at h
  by_cases ht : t < nv
  · simp only [ht, decide_true] at h
    unfold dVar at h
    obtain ⟨g, hg, hp⟩ := mkGet_eq (α := Value) VD t
    rw [hg] at h
    cases h
    exact hF.var t v hS ht (by rw [← hp]; exact hv)
  · simp only [ht, decide_false] at h
    cases h
    exact hF.tmp t v hS (Nat.le_of_not_lt ht) hv
def Pre (T : Option (List Nat)) (R : Ren) (h : Hp) (w : World) : Prop := match T with | some l => ∀ r, r ∈ l → RowAt R h w r | none => HR R h w
def GuardT (ops : Array Oper) (o : Oper) (t : Nat) : Prop := ∃ j b g, o.guard = some (j, b) ∧ ops[j]? = some g ∧ g.dst = some t
def StepF (P : Program) (nv n : Nat) (ops : Array Oper) (j : Nat) (o : Oper) (vs : Vs) (ts : Ts) (h : Hp) (nx : Nat) (v : Value) (rc : Rec1) (h' : Hp) (nx' : Nat) : Prop :=
  (∀ (S : Nat → Prop) (R : Ren) (a : Act) (w : World) (F : Fence), FrOk S R nv n vs ts a.tmps → Uses o S → (∀ t, GuardT ops o t → S t) → Dom R nx → (∀ r b, R.blk r = some b → b < w.heap.size) → Wd F → Pre rc.T R h w →
    ∀ (K : Act → World → Prop) (Q : Exit → Act → World → Prop), (∀ R' v' w', Ext R R' h h' nx nx' rc.M w w' → VR R' v v' → K (a.put o.dst v') w') → wpOpIn F 0 P ops Q j K a w) ∧
  (rc.M = [] ∨ rc.T = none ∨ rc.T = some rc.M) ∧
  (∀ h2, rc.A h2 = true → ∃ r, rc.T = some [r] ∧ rc.M = [] ∧ groundRow (hget h2 r) = true ∧ ∀ (S : Nat → Prop) (R : Ren) (a : Act) (w : World) (F : Fence), FrOk S R nv n vs ts a.tmps → Uses o S → (∀ t, GuardT ops o t → S t) → Dom R nx → Wd F → RowAt R h2 w r →
    ∀ (K : Act → World → Prop) (Q : Exit → Act → World → Prop), (∀ R' v' w', Ext R R' h h' nx nx' rc.M w w' → VR R' v v' → K (a.put o.dst v') w') → wpOpIn F 0 P ops Q j K a w) ∧
  (rc.M ≠ [] → rc.H = h')
omit [Lo] in
theorem noG {ops : Array Oper} {j : Nat} {o : Oper} (ho : ops[j]? = some o) (hg : o.guard = none) {F : Fence} {Q K} {a : Act} {w : World} (h : o.wpIn F 0 P a w K Q) : wpOpIn F 0 P ops Q j K a w := by
  unfold wpOpIn
  simp only [ho, Region.wanted, hg, if_true]
  exact h
def OutF (P : Program) (nv n : Nat) (o : Oper) (vs : Vs) (ts : Ts) (h : Hp) (nx : Nat) (v : Value) (rc : Rec1) (h' : Hp) (nx' : Nat) : Prop :=
  (∀ (S : Nat → Prop) (R : Ren) (a : Act) (w : World) (F : Fence), FrOk S R nv n vs ts a.tmps → Uses o S → Dom R nx → (∀ r b, R.blk r = some b → b < w.heap.size) → Wd F → Pre rc.T R h w →
    ∀ (K : Act → World → Prop) (Q : Exit → Act → World → Prop), (∀ R' v' w', Ext R R' h h' nx nx' rc.M w w' → VR R' v v' → K (a.put o.dst v') w') → o.wpIn F 0 P a w K Q) ∧
  (rc.M = [] ∨ rc.T = none ∨ rc.T = some rc.M) ∧
  (∀ h2, rc.A h2 = true → ∃ r, rc.T = some [r] ∧ rc.M = [] ∧ groundRow (hget h2 r) = true ∧ ∀ (S : Nat → Prop) (R : Ren) (a : Act) (w : World) (F : Fence), FrOk S R nv n vs ts a.tmps → Uses o S → Dom R nx → Wd F → RowAt R h2 w r →
    ∀ (K : Act → World → Prop) (Q : Exit → Act → World → Prop), (∀ R' v' w', Ext R R' h h' nx nx' rc.M w w' → VR R' v v' → K (a.put o.dst v') w') → o.wpIn F 0 P a w K Q) ∧
  (rc.M ≠ [] → rc.H = h')
omit [Lo] in
theorem sameV_eq {x y : Value} (h : sameV x y = true) : x = y := by
  unfold sameV at h
  split at h
  · rw [eqI_eq] at h; simp at h; rw [h]
  · rename_i a b; cases a <;> cases b <;> simp_all
  · cases h
omit [Lo] in
theorem againV_eq {x y : LV} {h : Hp} (k : againV x y h = true) : ∃ v r, x = .v v r ∧ y = .v v r ∧ groundRow (hget h r) = true := by
  unfold againV at k
  split at k
  · rename_i u r v s
    simp only [Bool.and_eq_true] at k
    obtain ⟨⟨k1, k2⟩, k3⟩ := k
    have := Nat.eq_of_beq_eq_true k1
    subst this
    have := sameV_eq k2
    subst this
    exact ⟨_, _, rfl, rfl, k3⟩
  · cases k
theorem stepD_ok {ih : Rec} (hge : AllGe P ih) {o : Oper} {d : Dst} {k : KD} {rs : List Rec1} {z : Z} {vs : Vs} {ts : Ts} {h : Hp} {nx : Nat} (hno : stepD d (dOp P nv o.op) k rs ih z vs ts h nx ≠ .no) :
    ∃ v rc h' nx', OutF P nv n o vs ts h nx v rc h' nx' ∧ stepD d (dOp P nv o.op) k rs ih z vs ts h nx = putK d v (k (rc :: rs)) ih (logZ z rc.M) vs ts h' nx' := by
  have hnd : ∀ c, o.op ≠ .defer c := fun c hc => hno (by rw [hc]; rfl)
  have lz : logZ z [] = z := rfl
  unfold stepD at hno ⊢
  cases ho : dOp P nv o.op with
  | bad => rw [ho] at hno; exact absurd rfl hno
  | pv f =>
    rw [ho] at hno
    simp only [runO] at hno ⊢
    have hpv : PvOk P nv o f := dOp_pv ho
    cases hv : f vs ts with
    | none => rw [hv] at hno; exact absurd rfl hno
    | some v =>
      refine ⟨v, ⟨[], some [], never, h⟩, h, nx, ⟨fun S R a w F hfr hU hd hb hF hp K Q hK => ?_, .inl rfl, fun h2 q => (by cases q), fun q => absurd rfl q⟩, rfl⟩
      obtain ⟨v', h1, h2⟩ := hpv (a := a) hfr hU hv
      exact wpIn_val hF hnd (h2 w) (hK R v' w (Ext.refl R h nx w hd) h1)
  | ld f =>
    rw [ho] at hno
    simp only [runO] at hno ⊢
    have hpv : LdOk P nv o f := dOp_ld ho
    cases hv : f vs ts h with
    | no => rw [hv] at hno; exact absurd rfl hno
    | v v r =>
      refine ⟨v, ⟨[], some [r], altO (.ld f) vs ts h, h⟩, h, nx, ⟨fun S R a w F hfr hU hd hb hF hp K Q hK => ?_, .inl rfl, fun h2 q => ?_, fun q => absurd rfl q⟩, rfl⟩
      · obtain ⟨v', h1, h2⟩ := hpv (a := a) hfr hU hv (hp r (by simp))
        exact wpIn_val hF hnd h2 (hK R v' w (Ext.refl R h nx w hd) h1)
      · obtain ⟨v2, r2, q1, q2, q3⟩ := againV_eq (show againV (f vs ts h) (f vs ts h2) h2 = true from q)
        rw [hv] at q1
        cases q1
        refine ⟨r, rfl, rfl, q3, fun S R a w F hfr hU hd hF hp K Q hK => ?_⟩
        obtain ⟨v', h1, h3⟩ := hpv (a := a) hfr hU q2 hp
        exact wpIn_val hF hnd h3 (hK R v' w (Ext.refl R h nx w hd) h1)
  | ge f =>
    rw [ho] at hno
    simp only [runO] at hno ⊢
    have hg := fun S R (a : Act) w F => hge nv o f ho (S := S) (R := R) (n := n) (vs := vs) (ts := ts) (a := a) (h := h) (nx := nx) (w := w) (F := F)
    cases hv : f ih vs ts h nx with
    | bad => rw [hv] at hno; exact absurd rfl hno
    | pur v =>
      refine ⟨v, ⟨[], some [], never, h⟩, h, nx, ⟨fun S R a w F hfr hU hd hb hF hp K Q hK => ?_, .inl rfl, fun h2 q => (by cases q), fun q => absurd rfl q⟩, rfl⟩
      have := hg S R a w F hfr hU hd hb hF (by rw [hv]; trivial)
      rw [hv] at this; exact this.elim
    | rd v r =>
      refine ⟨v, ⟨[], some [r], never, h⟩, h, nx, ⟨fun S R a w F hfr hU hd hb hF hp K Q hK => ?_, .inl rfl, fun h2 q => (by cases q), fun q => absurd rfl q⟩, rfl⟩
      have := hg S R a w F hfr hU hd hb hF (by rw [hv]; trivial)
      rw [hv] at this; exact this.elim
    | new v h' nx' =>
      refine ⟨v, ⟨[], some [], never, h'⟩, h', nx', ⟨fun S R a w F hfr hU hd hb hF hp K Q hK => ?_, .inl rfl, fun h2 q => (by cases q), fun q => absurd rfl q⟩, rfl⟩
      have := hg S R a w F hfr hU hd hb hF (by rw [hv]; trivial)
      rw [hv] at this; exact this K Q hK
    | wr h' r =>
      refine ⟨undef, ⟨[r], some [r], never, h'⟩, h', nx, ⟨fun S R a w F hfr hU hd hb hF hp K Q hK => ?_, .inr (.inr rfl), fun h2 q => (by cases q), fun _ => rfl⟩, rfl⟩
      have := hg S R a w F hfr hU hd hb hF (by rw [hv]; exact hp r (by simp))
      rw [hv] at this; exact this K Q fun w' e => hK R _ w' e (VR.undef R)
    | gen v h' nx' M =>
      refine ⟨v, ⟨M, none, never, h'⟩, h', nx', ⟨fun S R a w F hfr hU hd hb hF hp K Q hK => ?_, .inr (.inl rfl), fun h2 q => (by cases q), fun _ => rfl⟩, rfl⟩
      have := hg S R a w F hfr hU hd hb hF (by rw [hv]; exact hp)
      rw [hv] at this; exact this K Q hK
theorem oneD_ok {ih : Rec} (hge : AllGe P ih) {ops : Array Oper} {j : Nat} {o : Oper} (hoj : ops[j]? = some o) {d : Dst} (hd : dDst nv n o.dst = some d) {k f : KD} (hf : dOneD P nv ops.toList o d k = .mk f)
    {rs : List Rec1} {z : Z} {vs : Vs} {ts : Ts} {h : Hp} {nx : Nat} (hno : f rs ih z vs ts h nx ≠ .no) :
    ∃ v rc h' nx', StepF P nv n ops j o vs ts h nx v rc h' nx' ∧ f rs ih z vs ts h nx = putK d v (k (rc :: rs)) ih (logZ z rc.M) vs ts h' nx' := by
  unfold dOneD at hf
  cases hg : o.guard with
  | none =>
    rw [hg] at hf
    cases hf
    obtain ⟨v, rc, h', nx', ⟨h1, h2, h4, h5⟩, h3⟩ := stepD_ok (n := n) hge hno
    refine ⟨v, rc, h', nx', ⟨fun S R a w F hfr hU _ hdm hb hF hp K Q hK => noG hoj hg (h1 S R a w F hfr hU hdm hb hF hp K Q hK), h2, fun hh q => ?_, h5⟩, h3⟩
    obtain ⟨r, q1, q2, q3, q4⟩ := h4 hh q
    exact ⟨r, q1, q2, q3, fun S R a w F hfr hU _ hdm hF hp K Q hK => noG hoj hg (q4 S R a w F hfr hU hdm hF hp K Q hK)⟩
  | some jb =>
    obtain ⟨i, b⟩ := jb
    rw [hg] at hf
    simp only at hf
    unfold gdX at hf
    rw [opAt_eq] at hf
    split at hf
    · rename_i x hx
      cases hf
      split at hx
      · rename_i g' hg'
        split at hx
        · rename_i t ht
          have hx' : dX nv (.tmp t) = .mk x := by injection hx
          have hget : ops[i]? = some g' := by rw [← Array.getElem?_toList]; exact hg'
          have hGT : GuardT ops o t := ⟨i, b, g', hg, hget, ht⟩
          unfold gdD at hno ⊢
          have sk : (∀ (S : Nat → Prop) (R : Ren) (a : Act), FrOk S R nv n vs ts a.tmps → S t → yielded ops a.tmps i ≠ some b) → StepF P nv n ops j o vs ts h nx undef ⟨[], some [], never, h⟩ h nx := fun hy =>
            ⟨fun S R a w F hfr hU hG hdm hb hF hp K Q hK => by
              unfold wpOpIn
              have := hy S R a hfr (hG t hGT)
              simp only [hoj, Region.wanted, hg]
              rw [if_neg (by simpa using this)]
              exact ⟨fun f _ => hF.1 f, hK R _ w (Ext.refl R h nx w hdm) (VR.undef R)⟩, .inl rfl, fun h2 q => (by cases q), fun q => absurd rfl q⟩
          cases hxv : x vs ts with
          | none => rw [hxv] at hno; exact absurd rfl hno
          | some u =>
            rw [hxv] at hno
            have hu : (∃ y, u = .bool y) ∨ ∀ y, u ≠ .bool y := by cases u <;> first | exact .inl ⟨_, rfl⟩ | exact .inr fun y e => by cases e
            rcases hu with ⟨y, rfl⟩ | hu
            · have hyl : ∀ (S : Nat → Prop) (R : Ren) (a : Act), FrOk S R nv n vs ts a.tmps → S t → yielded ops a.tmps i = some y := fun S R a hfr hS => by
                obtain ⟨v', h1, h2⟩ := dX_tmpS hx' hfr hS hxv
                cases h2
                simp [yielded, hget, ht, h1]
              by_cases e : y = b
              · subst e
                simp only [beq_self_eq_true] at hno ⊢
                obtain ⟨v, rc, h', nx', ⟨h1, h2, h4, h5⟩, h3⟩ := stepD_ok (n := n) hge hno
                refine ⟨v, rc, h', nx', ⟨fun S R a w F hfr hU hG hdm hb hF hp K Q hK => ?_, h2, fun hh q => ?_, h5⟩, h3⟩
                · unfold wpOpIn
                  simp only [hoj, Region.wanted, hg]
                  rw [if_pos (by rw [hyl S R a hfr (hG t hGT)]; simp)]
                  exact h1 S R a w F hfr hU hdm hb hF hp K Q hK
                · obtain ⟨r, q1, q2, q3, q4⟩ := h4 hh q
                  refine ⟨r, q1, q2, q3, fun S R a w F hfr hU hG hdm hF hp K Q hK => ?_⟩
                  unfold wpOpIn
                  simp only [hoj, Region.wanted, hg]
                  rw [if_pos (by rw [hyl S R a hfr (hG t hGT)]; simp)]
                  exact q4 S R a w F hfr hU hdm hF hp K Q hK
              · have e2 : (y == b) = false := by simpa using e
                refine ⟨undef, ⟨[], some [], never, h⟩, h, nx, sk fun S R a hfr hS => by rw [hyl S R a hfr hS]; simpa using e, ?_⟩
                simp only [e2]
                rfl
            · refine ⟨undef, ⟨[], some [], never, h⟩, h, nx, sk fun S R a hfr hS => ?_, ?_⟩
              · obtain ⟨v', h1, h2⟩ := dX_tmpS hx' hfr hS hxv
                intro hy
                simp only [yielded, hget, Option.bind_some, ht, h1] at hy
                split at hy
                · rename_i hb; cases hb
                  cases h2
                  exact hu _ rfl
                · cases hy
              · cases u <;> first | rfl | exact absurd rfl (hu _)
        · cases hx
      · cases hx
    · cases hf
end
end Lm
end Go
namespace Go
namespace Lm
variable [Lo]
variable {P : Program}
section
variable {nv n : Nat}
def curOf (nv : Nat) (vs : Vs) (ts : Ts) (t : Nat) : Option Value := if t < nv then Lv.get VD t vs else find t ts
theorem FrOk.ofCur {S : Nat → Prop} {R : Ren} {vs : Vs} {ts : Ts} {tm : Array Value} (h1 : tm.size = n) (h2 : nv ≤ nv) (h3 : ∀ t v, S t → curOf nv vs ts t = some v → ∃ v', tm[t]? = some v' ∧ VR R v v') (hg : ∀ g, g < NG → R.blk g = some g) :
    FrOk S R nv n vs ts tm :=
  ⟨h1, h2, fun t v hs ht hv => h3 t v hs (by rw [curOf, if_pos ht]; exact hv), fun t v hs ht hv => h3 t v hs (by rw [curOf, if_neg (by omega)]; exact hv), hg⟩
theorem FrOk.cur {S : Nat → Prop} {R : Ren} {vs : Vs} {ts : Ts} {tm : Array Value} (h : FrOk S R nv n vs ts tm) {t : Nat} {v : Value} (hs : S t) (hc : curOf nv vs ts t = some v) : ∃ v', tm[t]? = some v' ∧ VR R v v' := by
  unfold curOf at hc
  by_cases ht : t < nv
  · rw [if_pos ht] at hc; exact h.var t v hs ht hc
  · rw [if_neg ht] at hc; exact h.tmp t v hs (by omega) hc
omit [Lo] in
theorem put_eq (hnv : nv ≤ nv) {dst : Option Nat} {d : Dst} (hd : dDst nv n dst = some d) (v : Value) (vs : Vs) (ts : Ts) :
    ∃ vs' ts', (∀ k ih z h nx, putK d v k ih z vs ts h nx = k ih z vs' ts' h nx) ∧ (∀ t, curOf nv vs' ts' t = if dst = some t then some v else curOf nv vs ts t) ∧ ∀ t, dst = some t → t < n := by
  have hvd : (2 : Nat) ^ VD = 64 := rfl
  rcases dDst_cases hd with ⟨rfl, rfl⟩ | ⟨t, rfl, ht, ⟨h2, rfl⟩ | ⟨h2, s, rfl, hs⟩⟩
  · exact ⟨vs, ts, fun _ _ _ _ _ => rfl, fun t => by simp, fun t e => by cases e⟩
  · refine ⟨vs, (t, v) :: ts, fun _ _ _ _ _ => rfl, fun u => ?_, fun u e => by cases e; exact ht⟩
    unfold curOf
    rw [find_cons]
    by_cases e : t = u
    · subst e; simp [Nat.not_lt.2 h2]
    · have : ¬ (some t = some u) := fun q => e (by injection q)
      simp only [e, this, if_false]
  · refine ⟨s v vs, ts, fun _ _ _ _ _ => rfl, fun u => ?_, fun u e => by cases e; exact ht⟩
    unfold curOf
    rw [hs]
    by_cases hu : u < nv
    · rw [if_pos hu, if_pos hu, Lv.get_set VD t u v vs (by omega) (by omega)]
      by_cases e : u = t
      · subst e; simp
      · have : ¬ (some t = some u) := fun q => e (by injection q with q; exact q.symm)
        simp only [e, this, if_false]
    · have : ¬ (some t = some u) := fun q => hu (by injection q with q; omega)
      simp only [hu, this, if_false]
structure Fs where
  VS : Nat → Vs
  TS : Nat → Ts
  H : Nat → Hp
  NX : Nat → Nat
  V : Nat → Value
  RC : Nat → Rec1
def Fs.cur (t : Fs) (nv i s : Nat) : Option Value := curOf nv (t.VS i) (t.TS i) s
def TrOk (P : Program) (nv n : Nat) (ops : Array Oper) (t : Fs) (i : Nat) : Prop := ∀ o, ops[i]? = some o →
  StepF P nv n ops i o (t.VS i) (t.TS i) (t.H i) (t.NX i) (t.V i) (t.RC i) (t.H (i + 1)) (t.NX (i + 1)) ∧
  (∀ s, t.cur nv (i + 1) s = if o.dst = some s then some (t.V i) else t.cur nv i s) ∧ ∀ s, o.dst = some s → s < n
theorem trace {ih : Rec} (hge : AllGe P ih) (hnv : nv ≤ nv) {ops : Array Oper} {kend : KD} : ∀ (l : List Oper) (j0 : Nat), (∀ i, ops[j0 + i]? = l[i]?) → ∀ {f : KD}, dOpsD P nv n ops.toList kend l = .mk f →
    ∀ {rs : List Rec1} {z : Z} {vs : Vs} {ts : Ts} {h : Hp} {nx : Nat}, f rs ih z vs ts h nx ≠ .no →
    ∃ t : Fs, t.VS j0 = vs ∧ t.TS j0 = ts ∧ t.H j0 = h ∧ t.NX j0 = nx ∧ (∀ i, j0 ≤ i → i < j0 + l.length → TrOk P nv n ops t i) ∧
      ∃ z' : Z, z'.n0 = z.n0 ∧ z'.rd = z.rd ∧ z'.D = z.D ∧ (∀ m, m ∈ z'.log ↔ m ∈ z.log ∨ ∃ i, j0 ≤ i ∧ i < j0 + l.length ∧ m ∈ (t.RC i).M ∧ m < z.n0) ∧
        f rs ih z vs ts h nx = kend (((List.range' j0 l.length).map t.RC).reverse ++ rs) ih z' (t.VS (j0 + l.length)) (t.TS (j0 + l.length)) (t.H (j0 + l.length)) (t.NX (j0 + l.length)) := by
  intro l
  induction l with
  | nil =>
    intro j0 _ f hf rs z vs ts h nx hno
    cases hf
    exact ⟨⟨fun _ => vs, fun _ => ts, fun _ => h, fun _ => nx, fun _ => undef, fun _ => ⟨[], none, never, h⟩⟩, rfl, rfl, rfl, rfl, fun i a b => by simp at b; omega, z, rfl, rfl, rfl,
      fun m => ⟨.inl, fun q => q.elim id fun ⟨i, a, b, _⟩ => by simp at b; omega⟩, rfl⟩
  | cons o l ihl =>
    intro j0 hops f hf rs z vs ts h nx hno
    have e : dOpsD P nv n ops.toList kend (o :: l) = match dOpsD P nv n ops.toList kend l, dDst nv n o.dst with
      | .mk k, some d => dOneD P nv ops.toList o d k
      | _, _ => .bad := rfl
    rw [e] at hf
    split at hf
    rotate_left
    · cases hf
    rename_i k d hk hd
    have hoj : ops[j0]? = some o := by have := hops 0; simpa using this
    obtain ⟨v, rc, h', nx', hst, heq⟩ := oneD_ok hge hoj hd hf hno
    obtain ⟨vs', ts', hput, hcur, hlt⟩ := put_eq hnv hd v vs ts
    rw [heq, hput] at hno ⊢
    obtain ⟨t, q1, q2, q3, q4, q5, z', z1, z2, z3, z4, z5⟩ := ihl (j0 + 1) (fun i => by have := hops (i + 1); simpa [Nat.add_assoc, Nat.add_comm 1 i] using this) hk hno
    refine ⟨⟨fun i => if i = j0 then vs else t.VS i, fun i => if i = j0 then ts else t.TS i, fun i => if i = j0 then h else t.H i, fun i => if i = j0 then nx else t.NX i, fun i => if i = j0 then v else t.V i, fun i => if i = j0 then rc else t.RC i⟩,
      by simp, by simp, by simp, by simp, fun i hi1 hi2 => ?_, z', z1, z2, z3, fun m => ?_, ?_⟩
    · by_cases hij : i = j0
      · subst hij
        intro o' ho'
        rw [hoj] at ho'; cases ho'
        have hne : ¬ i + 1 = i := by omega
        simp only [if_true, hne, if_false, Fs.cur, q1, q2, q3, q4]
        exact ⟨hst, hcur, hlt⟩
      · have := q5 i (by omega) (by simp only [List.length_cons] at hi2; omega)
        intro o' ho'
        have hne : ¬ i + 1 = j0 := by omega
        simp only [hij, hne, if_false, Fs.cur]
        exact this o' ho'
    · rw [z4]
      simp only [logZ, logs_mem, List.length_cons]
      constructor
      · rintro ((⟨a, b⟩ | a) | ⟨i, a, b, c, d⟩)
        · exact .inr ⟨j0, Nat.le_refl _, by omega, by simpa using a, b⟩
        · exact .inl a
        · exact .inr ⟨i, by omega, by omega, by rw [if_neg (by omega)]; exact c, d⟩
      · rintro (a | ⟨i, a, b, c, d⟩)
        · exact .inl (.inr a)
        · by_cases hij : i = j0
          · subst hij
            simp only [if_true] at c
            exact .inl (.inl ⟨c, d⟩)
          · simp only [hij, if_false] at c
            exact .inr ⟨i, by omega, by omega, c, d⟩
    · rw [z5]
      have e1 : j0 + (l.length + 1) = j0 + 1 + l.length := by omega
      have hne : ¬ j0 + 1 + l.length = j0 := by omega
      simp only [List.length_cons, e1, hne, if_false]
      congr 1
      simp only [List.range'_succ, List.map_cons, if_true, List.reverse_cons, List.append_assoc, List.singleton_append]
      congr 2
      apply List.map_congr_left
      intro x hx
      simp only [List.mem_range'_1] at hx
      rw [if_neg (by omega)]
end
end Lm
end Go
namespace Go
namespace Lm
variable [Lo]
def Bef (ops : Array Oper) (i j : Nat) : Prop := ((Region.before ops).getD j 0).testBit i = true
def befO (acc : Array Nat) (o : Oper) : Nat := o.after.foldl (fun s e => if Region.binds .any e then s ||| 2 ^ e.on ||| acc.getD e.on 0 else s) 0
omit [Lo] in
theorem befO_bit {acc : Array Nat} {m : Nat} : ∀ (l : List Edge) (s : Nat), (l.foldl (fun s e => if Region.binds .any e then s ||| 2 ^ e.on ||| acc.getD e.on 0 else s) s).testBit m = true →
    s.testBit m = true ∨ ∃ e, e ∈ l ∧ Region.binds .any e = true ∧ (m = e.on ∨ (acc.getD e.on 0).testBit m = true) := by
  intro l
  induction l with
  | nil => intro s h; exact .inl h
  | cons e l ih =>
    intro s h
    simp only [List.foldl_cons] at h
    rcases ih _ h with q | ⟨e', h1, h2, h3⟩
    · by_cases hb : Region.binds .any e = true
      · rw [if_pos hb, Nat.testBit_or, Nat.testBit_or, Nat.testBit_two_pow] at q
        simp only [Bool.or_eq_true, decide_eq_true_eq] at q
        rcases q with (q | q) | q
        · exact .inl q
        · exact .inr ⟨e, by simp, hb, .inl q.symm⟩
        · exact .inr ⟨e, by simp, hb, .inr q⟩
      · rw [if_neg hb] at q; exact .inl q
    · exact .inr ⟨e', List.mem_cons_of_mem _ h1, h2, h3⟩
omit [Lo] in
theorem before_eq (ops : Array Oper) : Region.before ops = ops.toList.foldl (fun acc o => acc.push (befO acc o)) #[] := by
  unfold Region.before
  rw [← Array.foldl_toList]
  rfl
omit [Lo] in
theorem bl_spec : ∀ (l : List Oper) (acc : Array Nat) (pre : List Oper), acc.size = pre.length → (∀ i m, (acc.getD i 0).testBit m = true → ∃ o e, pre[i]? = some o ∧ e ∈ o.after.toList ∧ Region.binds .any e = true ∧ (m = e.on ∨ (acc.getD e.on 0).testBit m = true)) →
    ∀ i m, ((l.foldl (fun acc o => acc.push (befO acc o)) acc).getD i 0).testBit m = true → ∃ o e, (pre ++ l)[i]? = some o ∧ e ∈ o.after.toList ∧ Region.binds .any e = true ∧ (m = e.on ∨ ((l.foldl (fun acc o => acc.push (befO acc o)) acc).getD e.on 0).testBit m = true) := by
  intro l
  induction l with
  | nil => intro acc pre _ h i m hb; simpa using h i m hb
  | cons o l ih =>
    intro acc pre hs h i m hb
    simp only [List.foldl_cons] at hb ⊢
    have hold : ∀ i m, (acc.getD i 0).testBit m = true → ((acc.push (befO acc o)).getD i 0).testBit m = true := fun i m q => by
      have hlt : i < acc.size := by
        rcases Nat.lt_or_ge i acc.size with k | k
        · exact k
        · rw [Array.getD_eq_getD_getElem?, Array.getElem?_eq_none k] at q; simp at q
      rw [Array.getD_eq_getD_getElem?, Array.getElem?_push_lt hlt, ← Array.getElem?_eq_getElem hlt, ← Array.getD_eq_getD_getElem?]
      exact q
    have := ih (acc.push (befO acc o)) (pre ++ [o]) (by simp [hs]) (fun i m q => ?_) i m hb
    · simpa using this
    · rcases Nat.lt_trichotomy i acc.size with k | k | k
      · have q' : (acc.getD i 0).testBit m = true := by
          rw [Array.getD_eq_getD_getElem?, Array.getElem?_push_lt k, ← Array.getElem?_eq_getElem k, ← Array.getD_eq_getD_getElem?] at q
          exact q
        obtain ⟨o', e, h1, h2, h3, h4⟩ := h i m q'
        exact ⟨o', e, by rw [List.getElem?_append_left (by omega)]; exact h1, h2, h3, h4.imp id (hold _ _)⟩
      · subst k
        rw [Array.getD_eq_getD_getElem?, Array.getElem?_push_size] at q
        simp only [Option.getD_some, befO, ← Array.foldl_toList] at q
        rcases befO_bit _ _ q with q | ⟨e, h1, h2, h3⟩
        · simp at q
        · exact ⟨o, e, by rw [hs]; simp, h1, h2, h3.imp id (hold _ _)⟩
      · rw [Array.getD_eq_getD_getElem?, Array.getElem?_eq_none (by simp; omega)] at q
        simp at q
omit [Lo] in
theorem bef_edge {ops : Array Oper} {m i : Nat} (h : Bef ops m i) : ∃ o e, ops[i]? = some o ∧ e ∈ o.after.toList ∧ Region.binds .any e = true ∧ (m = e.on ∨ Bef ops m e.on) := by
  unfold Bef at h ⊢
  rw [before_eq] at h ⊢
  have := bl_spec ops.toList #[] [] rfl (fun i m q => by simp at q) i m h
  simpa using this
omit [Lo] in
theorem edges_lt {ops : Array Oper} (h : edgesOk ops = true) {i : Nat} {o : Oper} {e : Edge} (ho : ops[i]? = some o) (he : e ∈ o.after.toList) (hb : Region.binds .any e = true) : e.on < i := by
  unfold edgesOk at h
  rw [List.all_eq_true] at h
  have := h (o, i) (by rw [List.mem_zipIdx_iff_getElem?]; simpa using ho)
  simp only [List.all_eq_true] at this
  have := this e he
  simp only [hb, Bool.not_true, Bool.false_or, blt_eq, decide_eq_true_eq] at this
  exact this
def Closed (ops : Array Oper) (L : Nat → Prop) (i : Nat) : Prop := ∀ o e, ops[i]? = some o → e ∈ o.after.toList → Region.binds .any e = true → L e.on
omit [Lo] in
theorem bef_listed {ops : Array Oper} (hE : edgesOk ops = true) {L : Nat → Prop} (hL : ∀ i, L i → Closed ops L i) : ∀ i, Closed ops L i → ∀ m, Bef ops m i → L m := by
  intro i
  induction i using Nat.strongRecOn with
  | _ i ih =>
    intro hc m hm
    obtain ⟨o, e, h1, h2, h3, h4⟩ := bef_edge hm
    have hle := hc o e h1 h2 h3
    rcases h4 with rfl | h4
    · exact hle
    · exact ih e.on (edges_lt hE h1 h2 h3) (hL _ hle) m h4
omit [Lo] in
theorem namesOf_mem {ops : List Oper} {o : Oper} {t : Nat} : (o.dst = some t ∨ Operand.tmp t ∈ o.op.operands.toList ∨ ∃ j b g, o.guard = some (j, b) ∧ ops[j]? = some g ∧ g.dst = some t) → t ∈ namesOf ops o := by
  intro h
  obtain ⟨base, hbase⟩ : ∃ base, base = (match o.guard with | none => [] | some (j, _) => (match opAt ops j with | some g => (match g.dst with | some t => [t] | none => []) | none => []) : List Nat) := ⟨_, rfl⟩
  obtain ⟨mid, hmid⟩ : ∃ mid : List Operand → List Nat, mid = fun l => List.rec base (fun x _ ih => match x with | .tmp t => t :: ih | _ => ih) l := ⟨_, rfl⟩
  have e : namesOf ops o = List.rec (mid o.op.operands.toList) (fun t _ ih => t :: ih) o.dst.toList := by rw [hmid, hbase]; rfl
  have hb : ∀ l, t ∈ base → t ∈ mid l := by
    intro l hq
    rw [hmid]
    induction l with
    | nil => exact hq
    | cons x l ih => cases x <;> first | exact List.mem_cons_of_mem _ ih | exact ih
  have hm : ∀ l, Operand.tmp t ∈ l → t ∈ mid l := by
    intro l hq
    rw [hmid]
    induction l with
    | nil => simp at hq
    | cons x l ih =>
      rcases List.mem_cons.1 hq with rfl | hq
      · exact List.mem_cons_self
      · have := ih hq
        cases x <;> first | exact List.mem_cons_of_mem _ this | exact this
  rw [e]
  have up : t ∈ mid o.op.operands.toList → t ∈ (List.rec (mid o.op.operands.toList) (fun t _ ih => t :: ih) o.dst.toList : List Nat) := fun q => by
    cases o.dst with
    | none => exact q
    | some d => exact List.mem_cons_of_mem _ q
  rcases h with h | h | ⟨j, b, g, h1, h2, h3⟩
  · rw [h]; exact List.mem_cons_self
  · exact up (hm _ h)
  · refine up (hb _ ?_)
    rw [hbase, h1]
    simp only [opAt_eq, h2, h3]
    simp
omit [Lo] in
theorem names_bef {ops : Array Oper} (h : namesOk ops = true) {i j : Nat} {o o' : Oper} (ho : ops[j]? = some o) (ho' : ops[i]? = some o') (hij : i ≠ j) {t : Nat} (hd : o'.dst = some t) (ht : t ∈ namesOf ops.toList o) : Bef ops (min i j) (max i j) := by
  unfold namesOk at h
  rw [List.all_eq_true] at h
  have := h (o, j) (by rw [List.mem_zipIdx_iff_getElem?]; simpa using ho)
  simp only [List.all_eq_true] at this
  have := this t ht (o', i) (by rw [List.mem_zipIdx_iff_getElem?]; simpa using ho')
  have hne : Nat.beq i j = false := by cases q : Nat.beq i j with | false => rfl | true => exact absurd (Nat.eq_of_beq_eq_true q) hij
  simp only [hne, hd, Bool.false_or, Nat.beq_refl, Bool.not_true] at this
  exact this
omit [Lo] in
theorem disj_eq {a b : List Nat} (h : disj a b = true) : ∀ x, x ∈ a → x ∉ b := by
  unfold disj at h
  simp only [List.all_eq_true] at h
  intro x hx hb
  have := h x hx x hb
  simp at this
omit [Lo] in
theorem apart_bef {ops : Array Oper} {rs : List Rec1} (h : apartR ops rs = true) {k j : Nat} {rk rj : Rec1} (hk : rs[k]? = some rk) (hj : rs[j]? = some rj) (hjk : j ≠ k) (hM : rk.M ≠ []) :
    Bef ops (min j k) (max j k) ∨ (∃ T, rj.T = some T ∧ ∀ x, x ∈ T → x ∉ rk.M) ∨ (j < k ∧ rj.A rk.H = true) := by
  unfold apartR at h
  rw [List.all_eq_true] at h
  have := h (rk, k) (by rw [List.mem_zipIdx_iff_getElem?]; exact hk)
  have this : apart1 ops rs k rk.M rk.H = true := by
    revert this
    cases hq : rk.M with
    | nil => exact absurd hq hM
    | cons x l => simp only [hq]; exact id
  unfold apart1 at this
  rw [List.all_eq_true] at this
  have := this (rj, j) (by rw [List.mem_zipIdx_iff_getElem?]; exact hj)
  have hne : Nat.beq j k = false := by cases q : Nat.beq j k with | false => rfl | true => exact absurd (Nat.eq_of_beq_eq_true q) hjk
  simp only [hne, Bool.false_or, Bool.or_eq_true] at this
  rcases this with (this | this) | this
  · exact .inl this
  · split at this
    · rename_i T hT
      exact .inr (.inl ⟨T, hT, disj_eq this⟩)
    · cases this
  · simp only [Bool.and_eq_true, blt_eq, decide_eq_true_eq] at this
    exact .inr (.inr this)
omit [Lo] in
theorem mem_ready {ops : Array Oper} {listed : Array Bool} {i : Nat} : i ∈ Region.ready .any ops listed ↔ i < ops.size ∧ listed.getD i true = false ∧ ∃ o, ops[i]? = some o ∧ ∀ e, e ∈ o.after.toList → Region.binds .any e = true → listed.getD e.on false = true := by
  unfold Region.ready
  rw [List.mem_filter, List.mem_range]
  refine and_congr_right fun hi => ?_
  rw [Bool.and_eq_true, Bool.not_eq_true']
  refine and_congr_right fun _ => ?_
  rw [Array.getElem?_eq_getElem hi]
  simp only [Option.map_some, Option.getD_some, Option.some.injEq, exists_eq_left']
  rw [← Array.all_toList, List.all_eq_true]
  constructor
  · intro h e he hb
    have := h e he
    simpa [hb] using this
  · intro h e he
    cases hb : Region.binds .any e with
    | false => rfl
    | true => simpa [hb] using h e he hb
end Lm
end Go
namespace Go
namespace Lm
variable [Lo]
variable {P : Program}
def Ren.on (R Rc : Ren) : Ren := ⟨fun r => if (Rc.blk r).isSome then R.blk r else none, R.cap⟩
omit [Lo] in
theorem on_some {R Rc : Ren} {r b : Nat} (h : R.blk r = some b) {bc : Nat} (hc : Rc.blk r = some bc) : (R.on Rc).blk r = some b := by simp [Ren.on, hc, h]
omit [Lo] in
theorem on_inv {R Rc : Ren} {r b : Nat} (h : (R.on Rc).blk r = some b) : R.blk r = some b ∧ ∃ bc, Rc.blk r = some bc := by
  simp only [Ren.on] at h
  split at h
  · rename_i q; exact ⟨h, Option.isSome_iff_exists.1 q⟩
  · cases h
omit [Lo] in
theorem arr_get {xs ys : Array Value} (h : xs.size = ys.size) {i : Nat} {x : Value} (hx : xs[i]? = some x) : ∃ y, ys[i]? = some y := by
  have := (Array.getElem?_eq_some_iff.1 hx).1
  exact ⟨ys[i]'(by omega), Array.getElem?_eq_getElem (by omega)⟩
theorem VR.on {R Rc : Ren} {v v' : Value} (h : VR R v v') : ∀ {vc : Value}, VR Rc v vc → VR (R.on Rc) v v' := by
  induction h with
  | bool b => intro _ _; exact .bool b
  | int k n => intro _ _; exact .int k n
  | string s => intro _ _; exact .string s
  | ptr0 => intro _ _; exact .ptr0
  | ptr o hb hl => intro vc hc; cases hc with | ptr _ hb' => exact .ptr o (on_some hb hb') hl
  | sliceW a => intro _ _; exact .sliceW a
  | slice0 n c => intro _ _; exact .slice0 n c
  | slice o n hb hl hc hn => intro vc k; cases k with
    | slice _ _ hb' _ _ => exact .slice o n (on_some hb hb') hl hc hn
    | sliceW a =>
      rcases hc with ⟨_, q⟩ | ⟨q, _⟩
      · subst q; exact .sliceW _
      · unfold HALF at q; omega
  | map0 => intro _ _; exact .map0
  | map hb => intro vc k; cases k with | map hb' => exact .map (on_some hb hb')
  | nilFunc => intro _ _; exact .nilFunc
  | nilIface => intro _ _; exact .nilIface
  | fn f hx _ hy _ ih1 ih2 =>
    intro vc k
    cases k with
    | fn _ kx kxs ky kys =>
      exact .fn f hx (fun i x x' a b => by obtain ⟨y, hy⟩ := arr_get kx a; exact ih1 i x x' a b (kxs i x y a hy)) hy
        (fun i x x' a b => by obtain ⟨y, hy⟩ := arr_get ky a; exact ih2 i x x' a b (kys i x y a hy))
  | yld hb => intro vc k; cases k with | yld hb' => exact .yld (on_some hb hb')
  | agg hx _ h1 ih =>
    intro vc k
    cases k with
    | agg kx kxs _ => exact .agg hx (fun i x x' a b => by obtain ⟨y, hy⟩ := arr_get kx a; exact ih i x x' a b (kxs i x y a hy)) h1
  | tuple hx _ ih =>
    intro vc k
    cases k with
    | tuple kx kxs => exact .tuple hx (fun i x x' a b => by obtain ⟨y, hy⟩ := arr_get kx a; exact ih i x x' a b (kxs i x y a hy))
theorem EsR.on {R Rc : Ren} {es : List (Value × Value)} {l : List MapEntry} (h : EsR R es l) : ∀ {lc : List MapEntry}, EsR Rc es lc → EsR (R.on Rc) es l := by
  induction h with
  | nil => intro _ _; exact .nil
  | cons hk hv _ ih => intro lc k; cases k with | cons _ hv' k' => exact .cons hk (hv.on hv') (ih k')
theorem CelR.on {R Rc : Ren} {c : List Value} {cs csc : Array Value} (h : CelR R c cs) (k : CelR Rc c csc) : CelR (R.on Rc) c cs :=
  ⟨h.1, fun i x hx => ⟨(h.2 i x hx).1, by
    obtain ⟨x', h1, h2⟩ := (h.2 i x hx).2
    obtain ⟨xc, _, k2⟩ := (k.2 i x hx).2
    exact ⟨x', h1, h2.on k2⟩⟩⟩
theorem CelX.on {R Rc : Ren} {l : Nat} {c : List Value} {cs csc : Array Value} (h : CelX R l c cs) (k : CelX Rc l c csc) : CelX (R.on Rc) l c cs :=
  ⟨h.1, h.2.1, fun i x hl hx => by
    obtain ⟨x', h1, h2⟩ := h.2.2 i x hl hx
    obtain ⟨xc, _, k2⟩ := k.2.2 i x hl hx
    exact ⟨x', h1, h2.on k2⟩⟩
theorem RowO.on {R Rc : Ren} {r : Nat} {x : Row} {o oc : Obj} (h : RowO R r x o) (k : RowO Rc r x oc) : RowO (R.on Rc) r x o := by
  unfold RowO at h k ⊢
  cases x with
  | cells c loose => obtain ⟨cs, e, h1, h2, h3⟩ := h; obtain ⟨csc, ec, _, k2, _⟩ := k; exact ⟨cs, e, h1, h2.on k2, h3⟩
  | ro c => obtain ⟨cs, e, fz, h1, h2⟩ := h; obtain ⟨csc, ec, fzc, _, k2⟩ := k; exact ⟨cs, e, fz, h1, h2.on k2⟩
  | map es ck => obtain ⟨es', ck', h1, h2, h3⟩ := h; obtain ⟨esc, ckc, _, k2, _⟩ := k; exact ⟨es', ck', h1, h2.on k2, h3⟩
  | loop ready pend nv n vars ps asg body d =>
    obtain ⟨l, h1, h2, h3, h4, h5, h6, h7, h8⟩ := h
    obtain ⟨lc, _, _, _, k4, _, _, _, k8⟩ := k
    refine ⟨l, h1, h2, h3, ⟨h4.1, h4.2.1, fun t v ht hv => ?_⟩, h5, h6, h7, on_some h8 k8⟩
    obtain ⟨v', a, b⟩ := h4.2.2 t v ht hv
    obtain ⟨vc, _, bc⟩ := k4.2.2 t v ht hv
    exact ⟨v', a, b.on bc⟩
  | deferred => exact h
  | dead => trivial
omit [Lo] in
theorem wp_exists {F : Fence} (hF : Wd F) {ops : Array Oper} {j : Nat} {K : Act → World → Prop} {a : Act} {w : World} (h : wpOpIn F 0 P ops (fun _ _ _ => False) j K a w) : ∃ a' w', K a' w' := by
  have room : ∀ m, F.room m := fun m d hd => by rw [hF.2] at hd; cases hd
  unfold wpOpIn at h
  split at h
  · exact ⟨_, _, h⟩
  · split at h
    · obtain ⟨_, h⟩ := h
      generalize (Oper.semAt F.round _ _).run P w = r at h
      cases r with
      | ok x w' =>
        cases x with
        | value v => exact ⟨_, _, h⟩
        | skip => exact ⟨_, _, h⟩
        | defer d => exact ⟨_, _, h⟩
        | enter f args =>
          obtain ⟨_, h⟩ := h
          obtain ⟨e, w2, fr, hR, _⟩ := h.2 [] (room _)
          cases e with
          | returned v => exact ⟨_, _, hR⟩
          | panicked c => exact hR.elim
          | outgrown => obtain ⟨_, _, q⟩ := hR; exact q.elim
        | row row args =>
          obtain ⟨_, h⟩ := h
          obtain ⟨v, w2, hR, _⟩ := h default [] (room _)
          exact ⟨_, _, hR⟩
        | round l f tm as bo =>
          obtain ⟨_, h⟩ := h
          obtain ⟨e, w2, hR, _⟩ := h.2 default [] (room _)
          cases e with
          | returned v => exact ⟨_, _, hR⟩
          | panicked c => exact hR.elim
          | outgrown => obtain ⟨_, _, q⟩ := hR; exact q.elim
        | _ => exact h.elim
      | halt x w' => cases x <;> exact h.elim
    · exact ⟨_, _, h.2⟩
section
variable {nv n : Nat}
structure Can (nv n : Nat) (t : Fs) (R0 : Ren) (w0 : World) (i : Nat) (R : Ren) (a : Act) (w : World) (M : List Nat) : Prop where
  hr : HR R (t.H i) w
  dom : Dom R (t.NX i)
  fr : FrOk (fun _ => True) R nv n (t.VS i) (t.TS i) a.tmps
  ext : Ext R0 R (t.H 0) (t.H i) (t.NX 0) (t.NX i) M w0 w
  mem : ∀ m, m ∈ M ↔ m < t.NX 0 ∧ ∃ k, k < i ∧ m ∈ (t.RC k).M
theorem canon_step {ops : Array Oper} {t : Fs} {F : Fence} (hF : Wd F) {R0 : Ren} {w0 : World} (hd0 : Dom R0 (t.NX 0)) (hh0 : HR R0 (t.H 0) w0) {i : Nat} (hi : i < ops.size) (ht : TrOk P nv n ops t i) {R a w M} (c : Can nv n t R0 w0 i R a w M) :
    ∃ R' a' w' M', Can nv n t R0 w0 (i + 1) R' a' w' M' ∧ Ext R R' (t.H i) (t.H (i + 1)) (t.NX i) (t.NX (i + 1)) (t.RC i).M w w' := by
  obtain ⟨⟨hsem, _⟩, hcur, hlt⟩ := ht ops[i] (Array.getElem?_eq_getElem hi)
  have hp : Pre (t.RC i).T R (t.H i) w := by unfold Pre; split <;> first | exact c.hr | exact fun r _ => c.hr.at r
  obtain ⟨a', w', R', v', e, hv, rfl⟩ := wp_exists hF (hsem (fun _ => True) R a w F c.fr (fun _ _ => trivial) (fun _ _ => trivial) c.dom c.hr.bnd hF hp (fun a' w' => ∃ R' v', Ext R R' (t.H i) (t.H (i + 1)) (t.NX i) (t.NX (i + 1)) (t.RC i).M w w' ∧ VR R' (t.V i) v' ∧ a' = a.put ops[i].dst v') (fun _ _ _ => False)
    fun R' v' w' e hv => ⟨R', v', e, hv, rfl⟩)
  have hext := c.ext.trans e hd0 hh0
  refine ⟨R', a.put ops[i].dst v', w', _, ⟨e.hr c.dom c.hr, e.domNew c.dom, ?_, hext, fun m => ?_⟩, e⟩
  · refine FrOk.ofCur ?_ c.fr.nvle (fun s v _ hc => ?_) fun g hg => (e.le _ _ (c.fr.glob g hg)).1
    · cases hq : ops[i].dst <;> simp [Act.put, c.fr.size]
    · have hcs := hcur s
      unfold Fs.cur at hcs
      rw [hcs] at hc
      by_cases q : ops[i].dst = some s
      · rw [if_pos q] at hc
        cases hc
        exact ⟨v', by rw [q]; simp [Act.put, c.fr.size, hlt s q], hv⟩
      · rw [if_neg q] at hc
        obtain ⟨x', h1, h2⟩ := c.fr.cur trivial hc
        refine ⟨x', ?_, h2.mono e.le⟩
        cases hd : ops[i].dst with
        | none => exact h1
        | some d => simp only [Act.put]; rw [Array.getElem?_setIfInBounds_ne (fun z => q (by rw [hd, z]))]; exact h1
  · rw [logs_mem, c.mem]
    constructor
    · rintro (⟨a, b⟩ | ⟨a, k, b, c⟩)
      · exact ⟨b, i, by omega, a⟩
      · exact ⟨a, k, by omega, c⟩
    · rintro ⟨a, k, b, c1⟩
      by_cases q : k = i
      · subst q; exact .inl ⟨c1, a⟩
      · exact .inr ⟨a, k, by omega, c1⟩
theorem canon {ops : Array Oper} {t : Fs} {F : Fence} (hF : Wd F) {R0 : Ren} {w0 : World} {a0 : Act} (hd0 : Dom R0 (t.NX 0)) (hh0 : HR R0 (t.H 0) w0) (hfr : FrOk (fun _ => True) R0 nv n (t.VS 0) (t.TS 0) a0.tmps) (ht : ∀ i, i < ops.size → TrOk P nv n ops t i) :
    ∀ i, i ≤ ops.size → ∃ R a w M, Can nv n t R0 w0 i R a w M := by
  intro i
  induction i with
  | zero => intro _; exact ⟨R0, a0, w0, [], hh0, hd0, hfr, Ext.refl _ _ _ _ hd0, fun m => by simp⟩
  | succ i ih =>
    intro hi
    obtain ⟨R, a, w, M, c⟩ := ih (by omega)
    obtain ⟨R', a', w', M', c', _⟩ := canon_step hF hd0 hh0 (by omega) (ht i (by omega)) c
    exact ⟨R', a', w', M', c'⟩
end
end Lm
end Go
namespace Go
namespace Lm
variable [Lo]
variable {P : Program}
def Wr (t : Fs) (k r : Nat) : Prop := r ∈ (t.RC k).M ∨ (t.NX k ≤ r ∧ r < t.NX (k + 1))
structure Fx (P : Program) (nv n : Nat) (ops : Array Oper) (t : Fs) (R0 : Ren) (w0 : World) : Prop where
  hE : edgesOk ops = true
  hN : namesOk ops = true
  tr : ∀ i, i < ops.size → TrOk P nv n ops t i
  ap : ∀ k j, k < ops.size → j < ops.size → j ≠ k → (t.RC k).M ≠ [] → Bef ops (min j k) (max j k) ∨ (∃ T, (t.RC j).T = some T ∧ ∀ x, x ∈ T → x ∉ (t.RC k).M) ∨ (j < k ∧ (t.RC j).A (t.H (k + 1)) = true)
  can : ∀ i, i ≤ ops.size → ∃ R a w M, Can nv n t R0 w0 i R a w M
  up : ∀ i, i < ops.size → t.NX i ≤ t.NX (i + 1)
  same : ∀ i, i < ops.size → ∀ r, r < t.NX i → r ∉ (t.RC i).M → hget (t.H (i + 1)) r = hget (t.H i) r
  live : ∀ i, i < ops.size → ∀ m, m ∈ (t.RC i).M → m < t.NX i ∧ LiveW (t.H i) m
  hd0 : Dom R0 (t.NX 0)
  gl0 : ∀ g, g < NG → R0.blk g = some g
  hh0 : HR R0 (t.H 0) w0
section
variable {nv n : Nat} {ops : Array Oper} {t : Fs} {R0 : Ren} {w0 : World}
theorem Fx.ap' (X : Fx P nv n ops t R0 w0) {k j : Nat} (hk : k < ops.size) (hj : j < ops.size) (hjk : j ≠ k) (hM : (t.RC k).M ≠ []) (hn : (t.RC j).M ≠ [] ∨ (t.RC j).T = none) :
    Bef ops (min j k) (max j k) ∨ ∃ T, (t.RC j).T = some T ∧ ∀ x, x ∈ T → x ∉ (t.RC k).M := by
  rcases X.ap k j hk hj hjk hM with q | q | ⟨_, q⟩
  · exact .inl q
  · exact .inr q
  · obtain ⟨⟨_, _, h3, _⟩, _⟩ := X.tr j hj ops[j] (Array.getElem?_eq_getElem hj)
    obtain ⟨r, q1, q2, _⟩ := h3 _ q
    rcases hn with hn | hn
    · exact absurd q2 hn
    · rw [q1] at hn; cases hn
omit [Lo] in
theorem exists_last (p : Nat → Prop) (c k : Nat) (hk : k < c) (h : p k) : ∃ m, k ≤ m ∧ m < c ∧ p m ∧ ∀ q, m < q → q < c → ¬ p q := by
  induction c with
  | zero => omega
  | succ c ih =>
    by_cases hc : p c
    · exact ⟨c, by omega, by omega, hc, fun q a b => by omega⟩
    · by_cases e : k = c
      · subst e; exact absurd h hc
      · obtain ⟨m, h1, h2, h3, h4⟩ := ih (by omega)
        exact ⟨m, h1, by omega, h3, fun q a b => by
          by_cases e2 : q = c
          · rw [e2]; exact hc
          · exact h4 q a (by omega)⟩
omit [Lo] in
theorem groundE_all {l : List (Value × Value)} (h : groundE l = true) : ∀ p, p ∈ l → ground p.2 = true := by
  induction l with
  | nil => intro p hp; simp at hp
  | cons x l ih =>
    have e : groundE (x :: l) = Bool.rec false (groundE l) (ground x.2) := rfl
    rw [e] at h
    cases hx : ground x.2 with
    | false => rw [hx] at h; cases h
    | true =>
      rw [hx] at h
      intro p hp
      rcases List.mem_cons.1 hp with rfl | hp
      · exact hx
      · exact ih h p hp
theorem EsR.any {R : Ren} {l : List (Value × Value)} {m : List MapEntry} (h : EsR R l m) (hg : ∀ p, p ∈ l → ground p.2 = true) (S : Ren) : EsR S l m := by
  induction h with
  | nil => exact .nil
  | @cons p e l m hk hv h ih =>
    refine .cons hk ?_ (ih fun q hq => hg q (List.mem_cons_of_mem _ hq))
    have := hg p List.mem_cons_self
    rw [ground_eq this hv]
    exact ground_vr this S
theorem RowO.any {R : Ren} {r : Nat} {x : Row} {ob : Obj} (h : RowO R r x ob) (hg : groundRow (some x) = true) (S : Ren) : RowO S r x ob := by
  unfold groundRow at hg
  split at hg
  · rename_i es ck e
    cases e
    obtain ⟨es', ck', h1, h2, h3⟩ := h
    exact ⟨es', ck', h1, h2.any (groundE_all hg) S, h3⟩
  · cases hg
theorem Fx.mono (X : Fx P nv n ops t R0 w0) {i : Nat} : ∀ d, i + d ≤ ops.size → t.NX i ≤ t.NX (i + d) := by
  intro d
  induction d with
  | zero => intro _; exact Nat.le_refl _
  | succ d ih => intro h; exact Nat.le_trans (ih (by omega)) (X.up (i + d) (by omega))
theorem Fx.le (X : Fx P nv n ops t R0 w0) {i j : Nat} (h : i ≤ j) (hj : j ≤ ops.size) : t.NX i ≤ t.NX j := by
  have := X.mono (i := i) (j - i) (by omega)
  rwa [show i + (j - i) = j by omega] at this
theorem Fx.maker (X : Fx P nv n ops t R0 w0) {i j r : Nat} (hi : i < ops.size) (hj : j < ops.size) (h1 : t.NX i ≤ r) (h2 : r < t.NX (i + 1)) (h3 : t.NX j ≤ r) (h4 : r < t.NX (j + 1)) : i = j := by
  rcases Nat.lt_trichotomy i j with k | k | k
  · have := X.le (i := i + 1) (j := j) k (by omega); omega
  · exact k
  · have := X.le (i := j + 1) (j := i) k (by omega); omega
theorem Fx.fwd (X : Fx P nv n ops t R0 w0) {i r : Nat} : ∀ d, i + d ≤ ops.size → (∀ k, i ≤ k → k < i + d → ¬ Wr t k r) → (t.NX i ≤ r → t.NX (i + d) ≤ r) ∧ (r < t.NX i → hget (t.H (i + d)) r = hget (t.H i) r) := by
  intro d
  induction d with
  | zero => intro _ _; exact ⟨id, fun _ => rfl⟩
  | succ d ih =>
    intro h hn
    obtain ⟨h1, h2⟩ := ih (by omega) fun k a b => hn k a (by omega)
    have hw := hn (i + d) (by omega) (by omega)
    refine ⟨fun hr => ?_, fun hr => ?_⟩
    · have := h1 hr
      rcases Nat.lt_or_ge r (t.NX (i + d + 1)) with k | k
      · exact absurd (.inr ⟨this, k⟩) hw
      · exact k
    · rw [← h2 hr]
      exact X.same (i + d) (by omega) r (by have := X.mono (i := i) d (by omega); omega) fun q => hw (.inl q)
theorem Fx.agree (X : Fx P nv n ops t R0 w0) {i j r : Nat} (hi : i ≤ ops.size) (hj : j ≤ ops.size) (hr : r < t.NX j) (h1 : ∀ k, i ≤ k → k < j → ¬ Wr t k r) (h2 : ∀ k, j ≤ k → k < i → ¬ Wr t k r) : hget (t.H i) r = hget (t.H j) r := by
  rcases Nat.le_total i j with k | k
  · have := X.fwd (i := i) (r := r) (j - i) (by omega) fun q a b => h1 q a (by omega)
    rw [show i + (j - i) = j by omega] at this
    rcases Nat.lt_or_ge r (t.NX i) with q | q
    · exact (this.2 q).symm
    · have := this.1 q; omega
  · have := X.fwd (i := j) (r := r) (i - j) (by omega) fun q a b => h2 q a (by omega)
    rw [show j + (i - j) = i by omega] at this
    exact this.2 hr
theorem Fx.curfwd (X : Fx P nv n ops t R0 w0) {i s : Nat} : ∀ d, i + d ≤ ops.size → (∀ k o, i ≤ k → k < i + d → ops[k]? = some o → o.dst ≠ some s) → t.cur nv (i + d) s = t.cur nv i s := by
  intro d
  induction d with
  | zero => intro _ _; rfl
  | succ d ih =>
    intro h hn
    rw [← ih (by omega) fun k o a b => hn k o a (by omega)]
    have hlt : i + d < ops.size := by omega
    have ho := Array.getElem?_eq_getElem hlt
    have := (X.tr (i + d) hlt _ ho).2.1 s
    rw [if_neg (hn (i + d) _ (by omega) (by omega) ho)] at this
    exact this
theorem Fx.curagree (X : Fx P nv n ops t R0 w0) {i j s : Nat} (hi : i ≤ ops.size) (hj : j ≤ ops.size) (h1 : ∀ k o, i ≤ k → k < j → ops[k]? = some o → o.dst ≠ some s) (h2 : ∀ k o, j ≤ k → k < i → ops[k]? = some o → o.dst ≠ some s) : t.cur nv i s = t.cur nv j s := by
  rcases Nat.le_total i j with k | k
  · have := X.curfwd (i := i) (s := s) (j - i) (by omega) fun q o a b => h1 q o a (by omega)
    rw [show i + (j - i) = j by omega] at this
    exact this.symm
  · have := X.curfwd (i := j) (s := s) (i - j) (by omega) fun q o a b => h2 q o a (by omega)
    rw [show j + (i - j) = i by omega] at this
    exact this
structure Inv (nv n : Nat) (ops : Array Oper) (t : Fs) (R0 : Ren) (w0 : World) (df : List Deferred) (L : Nat → Prop) (R : Ren) (C D : Nat → Nat) (a : Act) (w : World) : Prop where
  lt : ∀ k, L k → k < ops.size
  le : R0.le R
  dom : ∀ r b, R.blk r = some b → r < t.NX 0 ∧ R0.blk r = some b ∨ ∃ j, L j ∧ t.NX j ≤ r ∧ r < t.NX (j + 1)
  size : w0.heap.size ≤ w.heap.size
  os : w.os = w0.os
  tape : w.tape = w0.tape
  output : w.output = w0.output
  fresh : ∀ r b, R.blk r = some b → R0.blk r = some b ∨ w0.heap.size ≤ b ∨ ∃ m k, L k ∧ m ∈ (t.RC k).M ∧ R0.blk m = some b ∧ ¬ Live (t.H (C m)) m
  kept : ∀ b, b < w0.heap.size → (∀ k, L k → ∀ m, m ∈ (t.RC k).M → R0.blk m ≠ some b) → w.heap[b]? = w0.heap[b]?
  rows : ∀ r b x, R.blk r = some b → hget (t.H (C r)) r = some x → x ≠ .dead → ∃ o, w.heap[b]? = some o ∧ RowO R r x o
  inj : ∀ r s b, R.blk r = some b → R.blk s = some b → Live (t.H (C r)) r → LiveW (t.H (C s)) s → r = s
  bnd : ∀ r b, R.blk r = some b → b < w.heap.size
  cle : ∀ r, C r ≤ ops.size
  cut : ∀ r b, R.blk r = some b → ∀ k, k < ops.size → Wr t k r → (L k ↔ k < C r)
  mdom : ∀ k, L k → ∀ m, m ∈ (t.RC k).M → ∃ b, R.blk m = some b
  dle : ∀ s, D s ≤ ops.size
  slots : ∀ s v, t.cur nv (D s) s = some v → ∃ v', a.tmps[s]? = some v' ∧ VR R v v'
  scut : ∀ s k o, ops[k]? = some o → o.dst = some s → (L k ↔ k < D s)
  tsize : a.tmps.size = n
  dfr : a.defers = df
theorem Inv.start (X : Fx P nv n ops t R0 w0) {a : Act} {w : World} (hw : w.heap = w0.heap) (h1 : w.os = w0.os) (h2 : w.tape = w0.tape) (h3 : w.output = w0.output) (hfr : FrOk (fun _ => True) R0 nv n (t.VS 0) (t.TS 0) a.tmps) :
    Inv nv n ops t R0 w0 a.defers (fun _ => False) R0 (fun _ => 0) (fun _ => 0) a w where
  lt := fun _ h => h.elim
  le := .refl R0
  dom := fun r b h => .inl ⟨X.hd0.2 r b h, h⟩
  size := by rw [hw]; exact Nat.le_refl _
  os := h1
  tape := h2
  output := h3
  fresh := fun r b h => .inl h
  kept := fun b _ _ => by rw [hw]
  rows := fun r b x h1 h2 h3 => by rw [hw]; exact X.hh0.row r b x h1 h2 h3
  inj := X.hh0.inj
  bnd := fun r b h => by rw [hw]; exact X.hh0.bnd r b h
  cle := fun _ => Nat.zero_le _
  cut := fun r b _ k _ _ => by simp
  mdom := fun _ h => h.elim
  dle := fun _ => Nat.zero_le _
  slots := fun s v hc => hfr.cur trivial hc
  scut := fun s k o _ _ => by simp
  tsize := hfr.size
  dfr := rfl
end
end Lm
end Go
namespace Go
namespace Lm
variable [Lo]
variable {P : Program}
section
variable {nv n : Nat} {ops : Array Oper} {t : Fs} {R0 : Ren} {w0 : World}
open Classical in
theorem Inv.step (X : Fx P nv n ops t R0 w0) {F : Fence} (hF : Wd F) {df : List Deferred} {L : Nat → Prop} {R : Ren} {C D : Nat → Nat} {a : Act} {w : World} (I : Inv nv n ops t R0 w0 df L R C D a w)
    (hcl : ∀ i, L i → ∀ m, Bef ops m i → L m) {j : Nat} {o : Oper} (hj : ops[j]? = some o) (hnj : ¬ L j) (hbj : ∀ m, Bef ops m j → L m) {K : Act → World → Prop} {Q : Exit → Act → World → Prop}
    (hK : ∀ R' C' D' a' w', Inv nv n ops t R0 w0 df (fun i => L i ∨ i = j) R' C' D' a' w' → K a' w') : wpOpIn F 0 P ops Q j K a w := by
  have hjl : j < ops.size := (Array.getElem?_eq_some_iff.1 hj).1
  obtain ⟨⟨hsem, hmt, halt, _⟩, hcur, hlt⟩ := X.tr j hjl o hj
  obtain ⟨Rc, ac, wc, Mc, c⟩ := X.can j (Nat.le_of_lt hjl)
  have hord : ∀ k, Bef ops (min k j) (max k j) → k ≠ j → (L k ↔ k < j) := fun k hb hne => by
    rcases Nat.lt_or_ge k j with q | q
    · rw [Nat.min_eq_left (by omega), Nat.max_eq_right (by omega)] at hb
      exact ⟨fun _ => q, fun _ => hbj k hb⟩
    · rw [Nat.min_eq_right q, Nat.max_eq_left q] at hb
      exact ⟨fun h => absurd (hcl k h j hb) hnj, fun h => by omega⟩
  have hDj : Dom (R.on Rc) (t.NX j) := ⟨c.dom.1, fun r b h => by obtain ⟨_, bc, hc⟩ := on_inv h; exact c.dom.2 r bc hc⟩
  have hmk : ∀ r b, R.blk r = some b → r < t.NX j → ∀ k, k < ops.size → t.NX k ≤ r → r < t.NX (k + 1) → L k ∧ k < j := fun r b hb hr k hk h1 h2 => by
    refine ⟨?_, ?_⟩
    · rcases I.dom r b hb with ⟨q, _⟩ | ⟨i, q1, q2, q3⟩
      · have := X.le (i := 0) (j := k) (Nat.zero_le _) (by omega); omega
      · rw [X.maker hk (I.lt i q1) h1 h2 q2 q3]; exact q1
    · rcases Nat.lt_or_ge k j with q | q
      · exact q
      · have := X.le q (by omega : k ≤ ops.size); omega
  have agree : ∀ r b, R.blk r = some b → r < t.NX j → (∀ k, k < ops.size → k ≠ j → r ∈ (t.RC k).M → (L k ↔ k < j)) → hget (t.H (C r)) r = hget (t.H j) r := fun r b hb hr HO => by
    have all : ∀ k, k < ops.size → k ≠ j → Wr t k r → (L k ↔ k < j) := fun k hk hne hw => by
      rcases hw with q | ⟨q1, q2⟩
      · exact HO k hk hne q
      · have := hmk r b hb hr k hk q1 q2
        exact ⟨fun _ => this.2, fun _ => this.1⟩
    refine X.agree (I.cle r) (Nat.le_of_lt hjl) hr (fun k h1 h2 hw => ?_) (fun k h1 h2 hw => ?_)
    · have k1 := I.cut r b hb k (by omega) hw
      have k2 := all k (by omega) (by omega) hw
      have := k1.1 (k2.2 h2); omega
    · have hks : k < ops.size := by have := I.cle r; omega
      have k1 := I.cut r b hb k hks hw
      have hLk := k1.2 h2
      by_cases q : k = j
      · subst q; exact hnj hLk
      · have := (all k hks q hw).1 hLk; omega
  have hbndj : ∀ r b, (R.on Rc).blk r = some b → b < w.heap.size := fun r b h => I.bnd r b (on_inv h).1
  have rowj : ∀ r b x, (R.on Rc).blk r = some b → (∀ k, k < ops.size → k ≠ j → r ∈ (t.RC k).M → (L k ↔ k < j)) → hget (t.H j) r = some x → x ≠ .dead → ∃ o, w.heap[b]? = some o ∧ RowO (R.on Rc) r x o := fun r b x hb HO hx hn => by
    obtain ⟨hbR, bc, hbc⟩ := on_inv hb
    have hag := agree r b hbR (hDj.2 r b hb) HO
    obtain ⟨o', h1, h2⟩ := I.rows r b x hbR (hag.trans hx) hn
    obtain ⟨oc, _, h4⟩ := c.hr.row r bc x hbc hx hn
    exact ⟨o', h1, h2.on h4⟩
  have hpre : (∀ k, k < ops.size → k ≠ j → ∀ r, r ∈ (t.RC k).M → (∃ T, (t.RC j).T = some T ∧ r ∈ T) → (L k ↔ k < j)) → Pre (t.RC j).T (R.on Rc) (t.H j) w := by
    intro hO
    cases hT : (t.RC j).T with
    | some l =>
      intro r hr b x hb hx hn
      exact rowj r b x hb (fun k hk hne hm => hO k hk hne r hm ⟨l, hT, hr⟩) hx hn
    | none =>
      have HO : ∀ r k, k < ops.size → k ≠ j → r ∈ (t.RC k).M → (L k ↔ k < j) := fun r k hk hne hm => by
        rcases X.ap' hk hjl (Ne.symm hne) (fun e => by rw [e] at hm; simp at hm) (.inr hT) with q | ⟨T, q1, q2⟩
        · exact hord k (by rw [Nat.min_comm, Nat.max_comm]; exact q) hne
        · rw [hT] at q1; cases q1
      refine ⟨fun r b x hb hx hn => rowj r b x hb (HO r) hx hn, fun r s b hr hs lr ls => ?_, hbndj, (c.ext.hr X.hd0 X.hh0).odd⟩
      have h1 := agree r b (on_inv hr).1 (hDj.2 r b hr) (HO r)
      have h2 := agree s b (on_inv hs).1 (hDj.2 s b hs) (HO s)
      exact I.inj r s b (on_inv hr).1 (on_inv hs).1 (by unfold Live; rw [h1]; exact lr) (by unfold LiveW; rw [h2]; exact ls)
  have hglR : ∀ g, g < NG → (R.on Rc).blk g = some g := fun g hg => on_some (I.le _ _ (X.gl0 g hg)).1 (c.fr.glob g hg)
  have hfrj : FrOk (fun s => s ∈ namesOf ops.toList o) (R.on Rc) nv n (t.VS j) (t.TS j) a.tmps := by
    refine FrOk.ofCur I.tsize c.fr.nvle (fun s v hs hc => ?_) hglR
    have wr : ∀ k o', ops[k]? = some o' → o'.dst = some s → k ≠ j → (L k ↔ k < j) := fun k o' hk hd hne => hord k (names_bef X.hN hj hk hne hd hs) hne
    have hag : t.cur nv (D s) s = t.cur nv j s := by
      refine X.curagree (I.dle s) (Nat.le_of_lt hjl) (fun k o' h1 h2 hk hd => ?_) (fun k o' h1 h2 hk hd => ?_)
      · have k1 := I.scut s k o' hk hd
        have k2 := wr k o' hk hd (by omega)
        have := k1.1 (k2.2 h2); omega
      · have hLk := (I.scut s k o' hk hd).2 h2
        by_cases q : k = j
        · subst q; exact hnj hLk
        · have := (wr k o' hk hd q).1 hLk; omega
    obtain ⟨v', h1, h2⟩ := I.slots s v (hag.trans hc)
    obtain ⟨vc, _, h4⟩ := c.fr.cur trivial hc
    exact ⟨v', h1, h2.on h4⟩
  have hsem' : ∀ (K : Act → World → Prop) (Q : Exit → Act → World → Prop), (∀ R' v' w', Ext (R.on Rc) R' (t.H j) (t.H (j + 1)) (t.NX j) (t.NX (j + 1)) (t.RC j).M w w' → VR R' (t.V j) v' → K (a.put o.dst v') w') → wpOpIn F 0 P ops Q j K a w := by
    by_cases hO : ∀ k, k < ops.size → k ≠ j → ∀ r, r ∈ (t.RC k).M → (∃ T, (t.RC j).T = some T ∧ r ∈ T) → (L k ↔ k < j)
    · exact hsem (fun s => s ∈ namesOf ops.toList o) (R.on Rc) a w F hfrj (fun s hs => namesOf_mem (.inr (.inl hs)))
        (fun s ⟨i, b, g, h1, h2, h3⟩ => namesOf_mem (.inr (.inr ⟨i, b, g, h1, by simpa using h2, h3⟩))) hDj hbndj hF (hpre hO)
    ·
      have : ∃ k, k < ops.size ∧ k ≠ j ∧ ∃ r, r ∈ (t.RC k).M ∧ (∃ T, (t.RC j).T = some T ∧ r ∈ T) ∧ ¬ (L k ↔ k < j) := by
        refine Classical.byContradiction fun hc => hO fun k hk hne r hr hT => Classical.byContradiction fun hq => hc ⟨k, hk, hne, r, hr, hT, hq⟩
      obtain ⟨k, hk, hne, r, hr, ⟨T, hT, hrT⟩, hq⟩ := this
      have alt : ∀ k, k < ops.size → k ≠ j → r ∈ (t.RC k).M → ¬ (L k ↔ k < j) → j < k ∧ (t.RC j).A (t.H (k + 1)) = true := fun k hk hne hr hq => by
        rcases X.ap k j hk hjl (Ne.symm hne) (fun e => by rw [e] at hr; simp at hr) with z | ⟨T', z1, z2⟩ | z
        · exact absurd (hord k (by rw [Nat.min_comm, Nat.max_comm]; exact z) hne) hq
        · rw [hT] at z1; cases z1; exact absurd hr (z2 r hrT)
        · exact z
      obtain ⟨hjk, hA⟩ := alt k hk hne hr hq
      have hLk : L k := Classical.byContradiction fun z => hq ⟨fun y => absurd y z, fun y => by omega⟩
      obtain ⟨r1, hT1, _, _, _⟩ := halt _ hA
      rw [hT] at hT1; cases hT1
      have hrr : r = r1 := by simpa using hrT
      subst hrr
      by_cases hbk : ∃ b, R.blk r = some b
      · obtain ⟨b0, hb0⟩ := hbk
        have hkC : k < C r := (I.cut r b0 hb0 k hk (.inl hr)).1 hLk
        obtain ⟨m, m1, m2, m3, m4⟩ := exists_last (fun q => Wr t q r) (C r) k hkC (.inl hr)
        have hms : m < ops.size := by have := I.cle r; omega
        have hrj : r < t.NX k := (X.live k hk r hr).1
        have hmM : r ∈ (t.RC m).M := m3.elim id fun z => by have := X.le m1 (Nat.le_of_lt hms); omega
        have hLm : L m := (I.cut r b0 hb0 m hms m3).2 m2
        obtain ⟨_, hAm⟩ := alt m hms (by omega) hmM (fun z => by have := z.1 hLm; omega)
        obtain ⟨r2, hT2, _, hg2, hs2⟩ := halt _ hAm
        rw [hT] at hT2; cases hT2
        refine hs2 (fun s => s ∈ namesOf ops.toList o) (R.on Rc) a w F hfrj (fun s hs => namesOf_mem (.inr (.inl hs)))
          (fun s ⟨i, b, g, h1, h2, h3⟩ => namesOf_mem (.inr (.inr ⟨i, b, g, h1, by simpa using h2, h3⟩))) hDj hF fun b x hb hx hn => ?_
        have hbR := (on_inv hb).1
        have hrm : r < t.NX (m + 1) := by have := X.le m1 (Nat.le_of_lt hms); have := X.up m hms; omega
        have hag : hget (t.H (C r)) r = hget (t.H (m + 1)) r := by
          have := (X.fwd (i := m + 1) (r := r) (C r - (m + 1)) (by have := I.cle r; omega) fun q a b => m4 q (by omega) (by omega)).2 hrm
          rwa [show m + 1 + (C r - (m + 1)) = C r by omega] at this
        obtain ⟨o', h1, h2⟩ := I.rows r b x hbR (hag.trans hx) hn
        exact ⟨o', h1, h2.any (by rw [← hx]; exact hg2) _⟩
      · obtain ⟨r2, hT2, _, hg2, hs2⟩ := halt _ hA
        rw [hT] at hT2; cases hT2
        exact hs2 (fun s => s ∈ namesOf ops.toList o) (R.on Rc) a w F hfrj (fun s hs => namesOf_mem (.inr (.inl hs)))
          (fun s ⟨i, b, g, h1, h2, h3⟩ => namesOf_mem (.inr (.inr ⟨i, b, g, h1, by simpa using h2, h3⟩))) hDj hF fun b x hb hx hn => absurd ⟨b, (on_inv hb).1⟩ hbk
  refine hsem' K Q fun R' v' w' e hv => ?_
  let rng : Nat → Prop := fun r => t.NX j ≤ r ∧ r < t.NX (j + 1)
  let Rn : Ren := ⟨fun r => if rng r then R'.blk r else R.blk r, fun r => if rng r then R'.cap r else R.cap r⟩
  have h0j : t.NX 0 ≤ t.NX j := X.le (Nat.zero_le _) (Nat.le_of_lt hjl)
  have hnew : ∀ r b, rng r → R.blk r ≠ some b := fun r b hr hb => by
    rcases I.dom r b hb with ⟨q, _⟩ | ⟨i, q1, q2, q3⟩
    · have := hr.1; omega
    · rw [X.maker (I.lt i q1) hjl q2 q3 hr.1 hr.2] at q1; exact hnj q1
  have rin : ∀ r, rng r → Rn.blk r = R'.blk r := fun r h => if_pos h
  have rout : ∀ r, ¬ rng r → Rn.blk r = R.blk r := fun r h => if_neg h
  have le1 : R.le Rn := fun r b h => by
    have : ¬ rng r := fun q => hnew r b q h
    exact ⟨by rw [rout r this]; exact h, if_neg this⟩
  have le2 : R'.le Rn := fun r b h => by
    by_cases q : rng r
    · exact ⟨by rw [rin r q]; exact h, if_pos q⟩
    · rcases e.dom r b h with k | ⟨k1, k2, _⟩
      · refine ⟨by rw [rout r q]; exact (on_inv k).1, ?_⟩
        have := (e.le r b k).2
        rw [show Rn.cap r = R.cap r from if_neg q]
        exact this.symm
      · exact absurd ⟨k1, k2⟩ q
  have hMb : ∀ r, r ∈ (t.RC j).M → ∃ b, R.blk r = some b ∧ (R.on Rc).blk r = some b ∧ R'.blk r = some b ∧ r < t.NX j ∧ ¬ rng r ∧ hget (t.H (C r)) r = hget (t.H j) r ∧ LiveW (t.H j) r := fun r hr => by
    obtain ⟨b, hb⟩ := e.mdom r hr
    obtain ⟨hlt', hlv⟩ := X.live j hjl r hr
    refine ⟨b, (on_inv hb).1, hb, (e.le r b hb).1, hlt', fun q => by have := q.1; omega, ?_, hlv⟩
    refine agree r b (on_inv hb).1 hlt' fun k hk hne hm => ?_
    rcases X.ap' hk hjl (Ne.symm hne) (fun e => by rw [e] at hm; simp at hm) (.inl (fun e => by rw [e] at hr; simp at hr)) with q | ⟨T, q1, q2⟩
    · exact hord k (by rw [Nat.min_comm, Nat.max_comm]; exact q) hne
    · rcases hmt with z | z | z
      · rw [z] at hr; simp at hr
      · rw [z] at q1; cases q1
      · rw [z] at q1; cases q1; exact absurd hm (q2 r hr)
  have liveC : ∀ r, r ∈ (t.RC j).M → LiveW (t.H (C r)) r := fun r hr => by
    obtain ⟨b, _, _, _, _, _, h1, h2⟩ := hMb r hr
    unfold LiveW; rw [h1]; exact h2
  let C' : Nat → Nat := fun r => if Wr t j r then j + 1 else C r
  have cin : ∀ r, Wr t j r → C' r = j + 1 := fun r h => if_pos h
  have cout : ∀ r, ¬ Wr t j r → C' r = C r := fun r h => if_neg h
  let D' : Nat → Nat := fun s => if o.dst = some s then j + 1 else D s
  have hup := X.up j hjl
  have freshN : ∀ r b, Rn.blk r = some b → R0.blk r = some b ∨ w0.heap.size ≤ b ∨ ∃ m k, (L k ∨ k = j) ∧ m ∈ (t.RC k).M ∧ R0.blk m = some b ∧ ¬ Live (t.H (C' m)) m := by
    have carry : ∀ m k b, L k → m ∈ (t.RC k).M → R0.blk m = some b → ¬ Live (t.H (C m)) m → ∃ m k, (L k ∨ k = j) ∧ m ∈ (t.RC k).M ∧ R0.blk m = some b ∧ ¬ Live (t.H (C' m)) m := fun m k b h1 h2 h3 h4 => by
      have hnw : ¬ Wr t j m := fun q => by
        rcases q with q | q
        · exact h4 (liveC m q).live
        · have := X.hd0.2 m b h3; have := q.1; omega
      exact ⟨m, k, .inl h1, h2, h3, by rw [cout m hnw]; exact h4⟩
    intro r b hb
    by_cases q : rng r
    · rw [rin r q] at hb
      rcases e.dom r b hb with k | ⟨k1, k2, k3, k4⟩
      · exact absurd (on_inv k).1 (hnew r b q)
      · rcases k4 with k4 | ⟨m, m1, m2, m3⟩
        · exact .inr (.inl (Nat.le_trans I.size k4))
        · rcases I.fresh m b (on_inv m2).1 with z | z | ⟨m', k, z1, z2, z3, z4⟩
          · exact .inr (.inr ⟨m, j, .inr rfl, m1, z, by rw [cin m (.inl m1)]; exact m3⟩)
          · exact .inr (.inl z)
          · exact .inr (.inr (carry m' k b z1 z2 z3 z4))
    · rw [rout r q] at hb
      rcases I.fresh r b hb with z | z | ⟨m', k, z1, z2, z3, z4⟩
      · exact .inl z
      · exact .inr (.inl z)
      · exact .inr (.inr (carry m' k b z1 z2 z3 z4))
  have liveOld : ∀ r b, ¬ Wr t j r → Rn.blk r = some b → R.blk r = some b := fun r b hw hb => by
    rw [rout r fun q => hw (.inr q)] at hb; exact hb
  refine hK Rn C' D' (a.put o.dst v') w' ⟨fun k hk => ?_, I.le.trans le1, fun r b hb => ?_, Nat.le_trans I.size e.size, e.os.trans I.os, e.tape.trans I.tape, e.output.trans I.output, freshN, fun b hb hm => ?_, fun r b x hb hx hn => ?_, fun r s b hr hs lr ls => ?_, fun r b hb => ?_,
    fun r => ?_, fun r b hb k hk hw => ?_, fun k hk m hm => ?_, fun s => ?_, fun s v hc => ?_, fun s k o' hk hd => ?_, ?_, ?_⟩
  · rcases hk with h | h
    · exact I.lt k h
    · omega
  · by_cases q : rng r
    · exact .inr ⟨j, .inr rfl, q⟩
    · rw [rout r q] at hb
      rcases I.dom r b hb with z | ⟨i, z1, z2⟩
      · exact .inl z
      · exact .inr ⟨i, .inl z1, z2⟩
  · rw [e.kept b (by have := I.size; omega) fun m hmm hmb => ?_]
    · exact I.kept b hb fun k hk => hm k (.inl hk)
    · rcases I.fresh m b (on_inv hmb).1 with z | z | ⟨m', k, z1, z2, z3, _⟩
      · exact hm j (.inr rfl) m hmm z
      · omega
      · exact hm k (.inl z1) m' z2 z3
  · by_cases hw : Wr t j r
    · rw [cin r hw] at hx
      have hbR' : R'.blk r = some b := by
        rcases hw with q | q
        · obtain ⟨b', h1, _, h3, _, h5, _⟩ := hMb r q
          rw [rout r h5, h1] at hb; cases hb; exact h3
        · rw [rin r q] at hb; exact hb
      obtain ⟨ob, h1, h2⟩ := e.rows r b x (hw.elim .inr fun q => .inl q.1) hbR' hx hn
      exact ⟨ob, h1, h2.mono le2 hbR'⟩
    · rw [cout r hw] at hx
      have hbR := liveOld r b hw hb
      obtain ⟨ob, h1, h2⟩ := I.rows r b x hbR hx hn
      refine ⟨ob, ?_, h2.mono le1 hbR⟩
      rw [e.kept b (I.bnd r b hbR) fun m hmm hmb => ?_]
      · exact h1
      · have := I.inj r m b hbR (on_inv hmb).1 ⟨x, hx, hn⟩ (liveC m hmm)
        exact hw (.inl (this ▸ hmm))
  ·
    have one : ∀ r s, Rn.blk r = some b → Rn.blk s = some b → Live (t.H (C' r)) r → Live (t.H (C' s)) s → rng r → ¬ rng s → r = s := fun r s hr hs lr ls qr qs => by
      rw [rin r qr] at hr
      rw [rout s qs] at hs
      rcases e.dom r b hr with k | ⟨k1, k2, k3, k4⟩
      · exact absurd (on_inv k).1 (hnew r b qr)
      · rcases k4 with k4 | ⟨m, m1, m2, m3⟩
        · have := I.bnd s b hs; omega
        · have hls : Live (t.H (C s)) s := by
            by_cases hw : Wr t j s
            · rcases hw with q | q
              · exact (liveC s q).live
              · exact absurd q qs
            · rw [cout s hw] at ls; exact ls
          have := (I.inj s m b hs (on_inv m2).1 hls (liveC m m1)).symm
          subst this
          rw [cin m (.inl m1)] at ls
          exact absurd ls m3
    by_cases qr : rng r <;> by_cases qs : rng s
    · have h1 := hr; have h2 := hs
      rw [rin r qr] at h1; rw [rin s qs] at h2
      rw [cin r (.inr qr)] at lr; rw [cin s (.inr qs)] at ls
      exact e.inj r s b qr.1 qs.1 h1 h2 lr ls
    · exact one r s hr hs lr ls.live qr qs
    · exact (one s r hs hr ls.live lr qs qr).symm
    · have h1 := hr; have h2 := hs
      rw [rout r qr] at h1; rw [rout s qs] at h2
      have old : ∀ r, ¬ rng r → Live (t.H (C' r)) r → Live (t.H (C r)) r := fun r q l => by
        by_cases hw : Wr t j r
        · rcases hw with z | z
          · exact (liveC r z).live
          · exact absurd z q
        · rw [cout r hw] at l; exact l
      have oldW : ∀ r, ¬ rng r → LiveW (t.H (C' r)) r → LiveW (t.H (C r)) r := fun r q l => by
        by_cases hw : Wr t j r
        · rcases hw with z | z
          · exact liveC r z
          · exact absurd z q
        · rw [cout r hw] at l; exact l
      exact I.inj r s b h1 h2 (old r qr lr) (oldW s qs ls)
  · by_cases q : rng r
    · rw [rin r q] at hb
      rcases e.dom r b hb with k | ⟨_, _, k3, _⟩
      · exact absurd (on_inv k).1 (hnew r b q)
      · exact k3
    · rw [rout r q] at hb
      have := I.bnd r b hb; have := e.size; omega
  · by_cases hw : Wr t j r
    · rw [cin r hw]; exact hjl
    · rw [cout r hw]; exact I.cle r
  · by_cases hwj : Wr t j r
    · rw [cin r hwj]
      by_cases q : k = j
      · subst q; exact ⟨fun _ => Nat.lt_succ_self _, fun _ => .inr rfl⟩
      · have key : L k ↔ k < j := by
          by_cases qr : rng r
          ·
            rcases hw with z | ⟨z1, z2⟩
            · have hz := X.live k hk r z
              have hgt : ¬ k < j := fun z3 => by have := X.le (Nat.le_of_lt z3) (Nat.le_of_lt hjl); have := qr.1; omega
              refine ⟨fun hL => ?_, fun h => absurd h hgt⟩
              obtain ⟨b', hb'⟩ := I.mdom k hL r z
              exact absurd hb' (hnew r b' qr)
            · exact absurd (X.maker hk hjl z1 z2 qr.1 qr.2) q
          · have hr : r ∈ (t.RC j).M := hwj.elim id fun z => absurd z qr
            obtain ⟨b', h1, _, _, h4, _, _, _⟩ := hMb r hr
            rcases hw with z | ⟨z1, z2⟩
            · rcases X.ap' hk hjl (Ne.symm q) (fun e => by rw [e] at z; simp at z) (.inl (fun e => by rw [e] at hr; simp at hr)) with y | ⟨T, y1, y2⟩
              · exact hord k (by rw [Nat.min_comm, Nat.max_comm]; exact y) q
              · rcases hmt with x | x | x
                · rw [x] at hr; simp at hr
                · rw [x] at y1; cases y1
                · rw [x] at y1; cases y1; exact absurd z (y2 r hr)
            · have := hmk r b' h1 h4 k hk z1 z2
              exact ⟨fun _ => this.2, fun _ => this.1⟩
        constructor
        · rintro (h | h)
          · have := key.1 h; omega
          · exact absurd h q
        · intro h
          exact .inl (key.2 (by omega))
    · rw [cout r hwj]
      have hne : k ≠ j := fun h => by subst h; exact hwj hw
      have := I.cut r b (liveOld r b hwj hb) k hk hw
      exact ⟨fun h => this.1 (h.resolve_right hne), fun h => .inl (this.2 h)⟩
  · rcases hk with h | h
    · obtain ⟨b, hb⟩ := I.mdom k h m hm
      exact ⟨b, (le1 m b hb).1⟩
    · subst h
      obtain ⟨b, h1, _⟩ := hMb m hm
      exact ⟨b, (le1 m b h1).1⟩
  · show (if o.dst = some s then j + 1 else D s) ≤ ops.size
    split
    · exact hjl
    · exact I.dle s
  · by_cases q : o.dst = some s
    · rw [show D' s = j + 1 from if_pos q, hcur s, if_pos q] at hc
      cases hc
      exact ⟨v', by rw [q]; simp [Act.put, I.tsize, hlt s q], hv.mono le2⟩
    · rw [show D' s = D s from if_neg q] at hc
      obtain ⟨x', h1, h2⟩ := I.slots s v hc
      refine ⟨x', ?_, h2.mono le1⟩
      cases hd : o.dst with
      | none => exact h1
      | some d => simp only [Act.put]; rw [Array.getElem?_setIfInBounds_ne (fun z => q (by rw [hd, z]))]; exact h1
  · by_cases q : o.dst = some s
    · rw [show D' s = j + 1 from if_pos q]
      by_cases hkj : k = j
      · exact ⟨fun _ => by omega, fun _ => .inr hkj⟩
      · have := hord k (names_bef X.hN hj hk hkj hd (namesOf_mem (.inl q))) hkj
        constructor
        · rintro (h | h)
          · have := this.1 h; omega
          · exact absurd h hkj
        · intro h; exact .inl (this.2 (by omega))
    · rw [show D' s = D s from if_neg q]
      have hkj : k ≠ j := fun h => by subst h; rw [hj] at hk; cases hk; exact q hd
      have := I.scut s k o' hk hd
      exact ⟨fun h => this.1 (h.resolve_right hkj), fun h => .inl (this.2 h)⟩
  · cases hq : o.dst <;> simp [Act.put, I.tsize]
  · cases hq : o.dst <;> simp [Act.put, I.dfr]
end
end Lm
end Go
namespace Go
namespace Lm
variable [Lo]
variable {P : Program}
theorem Ext.congrM {R R' : Ren} {h h' : Hp} {nx nx' : Nat} {M M' : List Nat} {w w' : World} (e : Ext R R' h h' nx nx' M w w') (hm : ∀ m, m ∈ M ↔ m ∈ M') : Ext R R' h h' nx nx' M' w w' where
  le := e.le
  nxle := e.nxle
  top := e.top
  size := e.size
  os := e.os
  tape := e.tape
  output := e.output
  dom := fun r b hb => (e.dom r b hb).imp id fun ⟨a, b, c, d⟩ => ⟨a, b, c, d.imp id fun ⟨m, x, y⟩ => ⟨m, (hm m).1 x, y⟩⟩
  kept := fun b hb h => e.kept b hb fun m hmm => h m ((hm m).1 hmm)
  hsame := fun r hr h => e.hsame r hr fun q => h ((hm r).1 q)
  rows := fun r b x hr => e.rows r b x (hr.imp id (hm r).2)
  inj := e.inj
  mlive := fun m h => e.mlive m ((hm m).2 h)
  mdom := fun m h => e.mdom m ((hm m).2 h)
section
variable {nv n : Nat} {ops : Array Oper} {t : Fs} {R0 : Ren} {w0 : World}
theorem Inv.fin (X : Fx P nv n ops t R0 w0) {df : List Deferred} {L : Nat → Prop} {R : Ren} {C D : Nat → Nat} {a : Act} {w : World} (I : Inv nv n ops t R0 w0 df L R C D a w) (hall : ∀ k, k < ops.size → L k) :
    ∃ M, (∀ m, m ∈ M ↔ m < t.NX 0 ∧ ∃ k, k < ops.size ∧ m ∈ (t.RC k).M) ∧ Ext R0 R (t.H 0) (t.H ops.size) (t.NX 0) (t.NX ops.size) M w0 w ∧ FrOk (fun _ => True) R nv n (t.VS ops.size) (t.TS ops.size) a.tmps := by
  obtain ⟨Rc, ac, wc, M, c⟩ := X.can ops.size (Nat.le_refl _)
  have hlt : ∀ r b, R.blk r = some b → r < t.NX ops.size := fun r b hb => by
    rcases I.dom r b hb with ⟨q, _⟩ | ⟨j, q1, q2, q3⟩
    · have := X.le (Nat.zero_le _) (Nat.le_refl ops.size); omega
    · have := X.le (i := j + 1) (I.lt j q1) (Nat.le_refl ops.size); omega
  have agree : ∀ r b, R.blk r = some b → hget (t.H (C r)) r = hget (t.H ops.size) r := fun r b hb =>
    X.agree (I.cle r) (Nat.le_refl _) (hlt r b hb) (fun k h1 h2 hw => by have := (I.cut r b hb k h2 hw).1 (hall k h2); omega) (fun k h1 h2 _ => by have := I.cle r; omega)
  refine ⟨M, c.mem, ⟨I.le, c.ext.nxle, c.ext.top, I.size, I.os, I.tape, I.output, fun r b hb => ?_, fun b hb hm => ?_, c.ext.hsame, fun r b x _ hb hx hn => ?_, fun r s b _ _ hr hs lr ls => ?_, c.ext.mlive, c.ext.mdom⟩, ?_⟩
  · rcases I.dom r b hb with ⟨_, q⟩ | ⟨j, q1, q2, q3⟩
    · exact .inl q
    · rcases I.fresh r b hb with z | z | ⟨m, k, z1, z2, z3, z4⟩
      · exact .inl z
      · exact .inr ⟨by have := X.le (Nat.zero_le j) (Nat.le_of_lt (I.lt j q1)); omega, hlt r b hb, I.bnd r b hb, .inl z⟩
      · refine .inr ⟨by have := X.le (Nat.zero_le j) (Nat.le_of_lt (I.lt j q1)); omega, hlt r b hb, I.bnd r b hb, .inr ⟨m, (c.mem m).2 ⟨X.hd0.2 m b z3, k, I.lt k z1, z2⟩, z3, ?_⟩⟩
        intro hl
        apply z4
        unfold Live
        rw [agree m b (I.le m b z3).1]
        exact hl
  · refine I.kept b hb fun k hk m hmm hmb => hm m ((c.mem m).2 ⟨X.hd0.2 m b hmb, k, I.lt k hk, hmm⟩) hmb
  · exact I.rows r b x hb ((agree r b hb).trans hx) hn
  · exact I.inj r s b hr hs (by unfold Live; rw [agree r b hr]; exact lr) (by unfold LiveW; rw [agree s b hs]; exact ls)
  · refine FrOk.ofCur I.tsize c.fr.nvle (fun s v _ hc => ?_) fun g hg => (I.le _ _ (X.gl0 g hg)).1
    have hag : t.cur nv (D s) s = t.cur nv ops.size s :=
      X.curagree (I.dle s) (Nat.le_refl _) (fun k o h1 h2 hk hd => by have := (I.scut s k o hk hd).1 (hall k h2); omega) (fun k o h1 h2 _ _ => by have := I.dle s; omega)
    exact I.slots s v (hag.trans hc)
theorem any_ok (X : Fx P nv n ops t R0 w0) {F : Fence} (hF : Wd F) {df : List Deferred} {Q : Exit → Act → World → Prop}
    (hQ : ∀ L R C D a w, Inv nv n ops t R0 w0 df L R C D a w → (∀ k, k < ops.size → L k) → Q .normal a w) : ∀ (fuel : Nat) (listed : Array Bool) (U : List Nat) (R : Ren) (C D : Nat → Nat) (a : Act) (w : World), listed.size = ops.size → U.length ≤ fuel →
      (∀ i, i < ops.size → listed.getD i false = false → i ∈ U) → (∀ i, listed.getD i false = true → Closed ops (fun i => listed.getD i false = true) i) →
      Inv nv n ops t R0 w0 df (fun i => listed.getD i false = true) R C D a w → wpAnyIn F 0 P .any ops Q fuel listed a w := by
  intro fuel
  induction fuel with
  | zero =>
    intro listed U R C D a w hs hU hun hcl I
    have hnil : U = [] := List.length_eq_zero_iff.1 (by omega)
    have hall : ∀ k, k < ops.size → listed.getD k false = true := fun k hk => by
      cases h : listed.getD k false with
      | true => rfl
      | false => have := hun k hk h; rw [hnil] at this; simp at this
    refine ⟨?_, hQ _ _ _ _ _ _ I hall⟩
    refine List.eq_nil_iff_forall_not_mem.2 fun i hi => ?_
    obtain ⟨h1, h2, _⟩ := mem_ready.1 hi
    have := hall i h1
    rw [Array.getD_eq_getD_getElem?, Array.getElem?_eq_getElem (by omega)] at h2 this
    simp only [Option.getD_some] at h2 this
    rw [h2] at this; cases this
  | succ fuel ih =>
    intro listed U R C D a w hs hU hun hcl I
    have getD_eq : ∀ i, i < ops.size → listed.getD i true = listed.getD i false := fun i hi => by
      rw [Array.getD_eq_getD_getElem?, Array.getD_eq_getD_getElem?, Array.getElem?_eq_getElem (by omega)]; rfl
    refine ⟨fun hnil => ?_, fun i hi => ?_⟩
    · refine hQ _ _ _ _ _ _ I fun k hk => ?_
      have key : ∀ k, k < ops.size → listed.getD k false = true := by
        intro k
        induction k using Nat.strongRecOn with
        | _ k ihk =>
          intro hk
          cases h : listed.getD k false with
          | true => rfl
          | false =>
            have : k ∈ Region.ready .any ops listed := mem_ready.2 ⟨hk, by rw [getD_eq k hk]; exact h, ops[k], Array.getElem?_eq_getElem hk, fun e he hb => by
              have hlt := edges_lt X.hE (Array.getElem?_eq_getElem hk) he hb
              exact ihk e.on hlt (by omega)⟩
            rw [hnil] at this
            simp at this
      exact key k hk
    · obtain ⟨h1, h2, o, ho, h3⟩ := mem_ready.1 hi
      have hn : ¬ listed.getD i false = true := by rw [← getD_eq i h1, h2]; simp
      have hci : Closed ops (fun i => listed.getD i false = true) i := fun o' e ho' he hb => by
        rw [ho] at ho'; cases ho'; exact h3 e he hb
      refine I.step X hF (fun k hk => bef_listed X.hE hcl k (hcl k hk)) ho hn (bef_listed X.hE hcl i hci) fun R' C' D' a' w' I' => ?_
      have hset : ∀ k, (listed.setIfInBounds i true).getD k false = true ↔ listed.getD k false = true ∨ k = i := fun k => by
        rw [Array.getD_eq_getD_getElem?, Array.getD_eq_getD_getElem?, Array.getElem?_setIfInBounds]
        by_cases q : i = k
        · subst q; simp [hs, h1]
        · rw [if_neg q]
          exact ⟨.inl, fun z => z.resolve_right fun y => q y.symm⟩
      have hiU : i ∈ U := hun i h1 (by simpa using hn)
      have heq : (fun k => (listed.setIfInBounds i true).getD k false = true) = fun k => listed.getD k false = true ∨ k = i := funext fun k => propext (hset k)
      refine ih (listed.setIfInBounds i true) (U.erase i) R' C' D' a' w' (by simp [hs]) (by rw [List.length_erase_of_mem hiU]; omega) (fun k hk hf => ?_) (fun k hk => ?_) ?_
      · have : ¬ (listed.getD k false = true ∨ k = i) := fun z => by rw [(hset k).2 z] at hf; cases hf
        exact (List.mem_erase_of_ne fun z => this (.inr z)).2 (hun k hk (by
          cases q : listed.getD k false with
          | false => rfl
          | true => exact absurd (.inl q) this))
      · intro o' e ho' he hb
        refine (hset e.on).2 (.inl ?_)
        rcases (hset k).1 hk with z | z
        · exact hcl k z o' e ho' he hb
        · subst z; exact hci o' e ho' he hb
      · rw [heq]; exact I'
end
theorem draw_ok (hm : P.follows .mixedOrders = true) : DrawOk P := by
  intro B F nv n ih id ops hB hF hge k f KQ Q hd hk R z vs ts hp nx a w st gd
  have e : dCode P nv n (.region id ops true) k = Bool.rec .bad (match dOpsD P nv n ops.toList (endD ops k) ops.toList with | .mk f => .mk (kReg (f [])) | .bad => .bad) (and (edgesOk ops) (namesOk ops)) := rfl
  rw [e] at hd
  cases hok : and (edgesOk ops) (namesOk ops) with
  | false => rw [hok] at hd; cases hd
  | true =>
    rw [hok] at hd
    simp only at hd
    simp only [Bool.and_eq_true] at hok
    split at hd
    · rename_i g hg
      cases hd
      have gd' : Good B F nv n Q (g [] ih z vs [] hp nx) := gd
      have hne : g [] ih z vs [] hp nx ≠ .no := fun q => by rw [q] at gd'; exact gd'
      obtain ⟨t, q1, q2, q3, q4, q5, z', z1, z2, z3, z4, z5⟩ := trace (n := n) hge st.fr.nvle ops.toList 0 (fun i => by simp) hg hne
      rw [z5] at gd'
      simp only [Nat.zero_add, Array.length_toList, List.append_nil, endD, List.reverse_reverse] at gd' q5 z4
      cases hap : apartR ops ((List.range' 0 ops.size).map t.RC) with
      | false => rw [hap] at gd'; exact gd'.elim
      | true =>
        rw [hap] at gd'
        simp only at gd'
        have htr : ∀ i, i < ops.size → TrOk P nv n ops t i := fun i hi => q5 i (Nat.zero_le _) hi
        have hd0 : Dom R (t.NX 0) := by rw [q4]; exact st.dom hB
        have hh0 : HR R (t.H 0) w := by rw [q3]; exact st.hr hB
        have hfr : FrOk (fun _ => True) R nv n (t.VS 0) (t.TS 0) a.tmps := by rw [q1, q2]; exact st.fr.nots
        have hcan := canon (F := F) hF hd0 hh0 hfr htr
        have hstep : ∀ i, i < ops.size → t.NX i ≤ t.NX (i + 1) ∧ (∀ r, r < t.NX i → r ∉ (t.RC i).M → hget (t.H (i + 1)) r = hget (t.H i) r) ∧ ∀ m, m ∈ (t.RC i).M → m < t.NX i ∧ LiveW (t.H i) m := fun i hi => by
          obtain ⟨Rc, ac, wc, Mc, c⟩ := hcan i (Nat.le_of_lt hi)
          obtain ⟨_, _, _, _, _, e⟩ := canon_step (F := F) hF hd0 hh0 hi (htr i hi) c
          exact ⟨e.nxle, e.hsame, e.mlive⟩
        have hrc : ∀ i, i < ops.size → ((List.range' 0 ops.size).map t.RC)[i]? = some (t.RC i) := fun i hi => by
          rw [List.getElem?_map, List.getElem?_range' hi]; simp
        have X : Fx P nv n ops t R w := ⟨hok.1, hok.2, htr, fun k j hk hj hjk hM => by
            have hH : (t.RC k).H = t.H (k + 1) := ((htr k hk ops[k] (Array.getElem?_eq_getElem hk)).1.2.2.2) hM
            have := apart_bef hap (hrc k hk) (hrc j hj) hjk hM
            rw [hH] at this
            exact this, hcan, fun i hi => (hstep i hi).1, fun i hi => (hstep i hi).2.1, fun i hi => (hstep i hi).2.2, hd0, st.fr.glob, hh0⟩
        refine wpIn_region_any hm (any_ok X hF (df := a.defers) (Q := Exit.then KQ Q) (fun L R' C D a' w' I hall => ?_) ops.size _ (List.range ops.size) R (fun _ => 0) (fun _ => 0) a _ (by simp) (by simp) (fun i hi _ => List.mem_range.2 hi) (fun i hi => ?_) ?_)
        · obtain ⟨M, m1, m2, m3⟩ := I.fin X hall
          rw [q3, q4] at m2
          have ex := st.ext.trans m2 hB.dom hB.hr
          have hnx := st.ext.nxle
          refine hk R' z' _ _ _ _ a' w' ⟨z1.trans st.n0, ex.congrM fun m => ?_, m3, by rw [z3, I.dfr]; exact st.dfr.mono I.le, by rw [z2]; exact st.rd.mono I.le⟩ gd'
          rw [logs_mem, m1, z4, q4, st.n0]
          constructor
          · rintro (⟨⟨_, k, h2, h3⟩, h4⟩ | h)
            · exact .inr ⟨k, Nat.zero_le _, h2, h3, h4⟩
            · exact .inl h
          · rintro (h | ⟨k, _, h2, h3, h4⟩)
            · exact .inr h
            · exact .inl ⟨⟨by omega, k, h2, h3⟩, h4⟩
        · rw [Array.getD_eq_getD_getElem?, Array.getElem?_replicate] at hi
          split at hi <;> simp at hi
        · have hf : (fun i => (Array.replicate ops.size false).getD i false = true) = fun _ => False := funext fun i => propext ⟨fun hi => by
            rw [Array.getD_eq_getD_getElem?, Array.getElem?_replicate] at hi
            split at hi <;> simp at hi, fun h => h.elim⟩
          rw [hf]
          exact Inv.start X rfl rfl rfl rfl hfr
    · cases hd
end Lm
end Go
namespace Go
namespace Lm
variable [Lo]
open Go.RowKit
variable {P : Program}
end Lm
end Go
namespace Go
namespace Lm
variable {P : Program}
def bindR (r : R) (k : Z → Vs → Hp → Nat → R) : R :=
  match r with
  | .nor z vs h nx => k z vs h nx
  | r => r
def put (d : Option Nat) (v : Value) (vs : Vs) : Vs := match d with | none => vs | some t => Lv.set VD t v vs
inductive RO where
  | no
  | st (z : Z) (vs : Vs) (h : Hp) (nx : Nat)
def rOut (d : Option Nat) (z : Z) (vs : Vs) (h : Hp) (nx : Nat) (o : Out) : RO :=
  match o with
  | .bad => .no
  | .pur v => .st z (put d v vs) h nx
  | .rd v _ => .st z (put d v vs) h nx
  | .new v h nx => .st z (put d v vs) h nx
  | .wr h r => .st (logZ z [r]) (put d undef vs) h nx
  | .gen v h nx M => .st (logZ z M) (put d v vs) h nx
def rGuard (nv : Nat) (ops : List Oper) (g : Option (Nat × Bool)) (vs : Vs) : Option Bool :=
  match g with
  | none => some true
  | some (j, b) => (match gdX nv ops j with
    | some (.mk x) => (match x vs [] with | some (.bool y) => some (y == b) | some _ => some false | none => none)
    | none => none)
def rOne (P : Program) (nv : Nat) (ih : Rec) (ops : List Oper) (o : Oper) (z : Z) (vs : Vs) (h : Hp) (nx : Nat) : RO :=
  match rGuard nv ops o.guard vs with
  | some true => rOut o.dst z vs h nx (runO (dOp P nv o.op) ih vs [] h nx)
  | some false => .st z (put o.dst undef vs) h nx
  | none => .no
def rOps (P : Program) (nv : Nat) (ih : Rec) (ops : List Oper) : List Oper → Z → Vs → Hp → Nat → RO
  | [], z, vs, h, nx => .st z vs h nx
  | o :: l, z, vs, h, nx => (match rOne P nv ih ops o z vs h nx with | .st z vs h nx => rOps P nv ih ops l z vs h nx | .no => .no)
def rRec (P : Program) (nv : Nat) (ih : Rec) (ops : List Oper) (o : Oper) (vs : Vs) (h : Hp) (nx : Nat) : Rec1 :=
  match rGuard nv ops o.guard vs with
  | some true => recOf (altO (dOp P nv o.op) vs [] h) h (runO (dOp P nv o.op) ih vs [] h nx)
  | _ => ⟨[], some [], never, h⟩
def rOpsD (P : Program) (nv : Nat) (ih : Rec) (ops : Array Oper) : List Oper → List Rec1 → Z → Vs → Hp → Nat → RO
  | [], rs, z, vs, h, nx => bif apartR ops rs.reverse then .st z vs h nx else .no
  | o :: l, rs, z, vs, h, nx => (match rOne P nv ih ops.toList o z vs h nx with
    | .st z' vs' h' nx' => rOpsD P nv ih ops l (rRec P nv ih ops.toList o vs h nx :: rs) z' vs' h' nx'
    | .no => .no)
def roR (r : RO) : R := match r with | .st z vs h nx => .nor z vs h nx | .no => .no
def roundsD (b : Z → Vs → Hp → Nat → R) : Nat → Z → Vs → Hp → Nat → R
  | 0, z, vs, h, nx => b z vs h nx
  | n + 1, z, vs, h, nx => (match roundsD b n z vs h nx with | .nor z vs h nx => roundsD b n z vs h nx | r => r)
def loopR (b : Z → Vs → Hp → Nat → R) (z : Z) (vs : Vs) (h : Hp) (nx : Nat) : R :=
  match roundsD b 62 z vs h nx with
  | .nor _ _ _ _ => .no
  | r => r
def rC (P : Program) (nv n : Nat) (ih : Rec) : Code → Z → Vs → Hp → Nat → R
  | .skip, z, vs, h, nx => .nor z vs h nx
  | .region _ ops draw, z, vs, h, nx => roR (bif draw then rOpsD P nv ih ops ops.toList [] z vs h nx else rOps P nv ih ops.toList ops.toList z vs h nx)
  | .seq a b, z, vs, h, nx => bindR (rC P nv n ih a z vs h nx) (rC P nv n ih b)
  | .cond x a b, z, vs, h, nx => (match dX nv x with
    | .mk f => (match f vs [] with
      | some (.bool t) => bif t then rC P nv n ih a z vs h nx else rC P nv n ih b z vs h nx
      | _ => .no))
  | .block id a, z, vs, h, nx => (match rC P nv n ih a z vs h nx with
    | .exi j z vs h nx => bif Nat.beq j id then .nor z vs h nx else .exi j z vs h nx
    | r => r)
  | .loop a, z, vs, h, nx => loopR (rC P nv n ih a) z vs h nx
  | .rangeFunc g ps asg body, z, vs, h, nx => (match dX nv g with | .mk f => kRange nv n f ps.toList asg body kNor ih z vs [] h nx)
  | .exit id, z, vs, h, nx => .exi id z vs h nx
  | .scope a, z, vs, h, nx => rC P nv n ih a z vs h nx
  | .label _, z, vs, h, nx => .nor z vs h nx
  | .goto _, _, _, _, _ => .no
  | .ret, z, vs, h, nx => .ret z vs h nx
  | .refuse _, _, _, _, _ => .no
section
variable {nv n : Nat} {ih : Rec} {z : Z} {vs : Vs} {h : Hp} {nx : Nat}
theorem rC_region (id : Nat) (ops : Array Oper) (draw : Bool) : rC P nv n ih (.region id ops draw) z vs h nx = roR (bif draw then rOpsD P nv ih ops ops.toList [] z vs h nx else rOps P nv ih ops.toList ops.toList z vs h nx) := rfl
theorem rC_seq (a b : Code) : rC P nv n ih (.seq a b) z vs h nx = bindR (rC P nv n ih a z vs h nx) (rC P nv n ih b) := rfl
theorem rC_cond (x : Operand) (a b : Code) : rC P nv n ih (.cond x a b) z vs h nx = (match dX nv x with
    | .mk f => (match f vs [] with
      | some (.bool t) => bif t then rC P nv n ih a z vs h nx else rC P nv n ih b z vs h nx
      | _ => .no)) := rfl
theorem rC_block (id : Nat) (a : Code) : rC P nv n ih (.block id a) z vs h nx = (match rC P nv n ih a z vs h nx with
    | .exi j z vs h nx => bif Nat.beq j id then .nor z vs h nx else .exi j z vs h nx
    | r => r) := rfl
theorem rC_loop (a : Code) : rC P nv n ih (.loop a) z vs h nx = loopR (rC P nv n ih a) z vs h nx := rfl
theorem rC_range (g : Operand) (ps : Array Nat) (asg body : Code) : rC P nv n ih (.rangeFunc g ps asg body) z vs h nx = (match dX nv g with | .mk f => kRange nv n f ps.toList asg body kNor ih z vs [] h nx) := rfl
end
theorem bindR_nor (r : R) : bindR r .nor = r := by cases r <;> rfl
section
variable {nv n : Nat} (hnn : nv = n)
include hnn
theorem dDst_put {dst : Option Nat} {d : Dst} (h : dDst nv n dst = some d) (v : Value) (k : K) (ih : Rec) (z : Z) (vs : Vs) (hp : Hp) (nx : Nat) :
    putK d v k ih z vs [] hp nx = k ih z (put dst v vs) [] hp nx := by
  rcases dDst_cases h with ⟨rfl, rfl⟩ | ⟨t, rfl, ht, ⟨h1, rfl⟩ | ⟨h1, s, rfl, hs⟩⟩
  · rfl
  · omega
  · show k ih z (s v vs) [] hp nx = _
    rw [hs]; rfl
theorem outK_eq {dst : Option Nat} {d : Dst} (h : dDst nv n dst = some d) (k : K) (o : Out) (ih : Rec) (z : Z) (vs : Vs) (hp : Hp) (nx : Nat) :
    outK d k o ih z vs [] hp nx = match rOut dst z vs hp nx o with | .st z vs h nx => k ih z vs [] h nx | .no => .no := by
  cases o with
  | bad => rfl
  | pur v => exact dDst_put hnn h v k ih z vs hp nx
  | rd v r => exact dDst_put hnn h v k ih z vs hp nx
  | new v h' nx' => exact dDst_put hnn h v k ih z vs h' nx'
  | wr h' r => exact dDst_put hnn h undef k ih (logZ z [r]) vs h' nx
  | gen v h' nx' M => cases M with
    | nil => exact dDst_put hnn h v k ih z vs h' nx'
    | cons a M => exact dDst_put hnn h v k ih (logZ z (a :: M)) vs h' nx'
theorem stepW_eq {dst : Option Nat} {d : Dst} (h : dDst nv n dst = some d) {o : WO} {k f : K} (hs : stepW d o k = .mk f) (ih : Rec) (z : Z) (vs : Vs) (hp : Hp) (nx : Nat) :
    f ih z vs [] hp nx = match rOut dst z vs hp nx (runO o ih vs [] hp nx) with | .st z vs h nx => k ih z vs [] h nx | .no => .no := by
  rcases dDst_cases h with ⟨rfl, rfl⟩ | ⟨t, rfl, ht, ⟨h1, rfl⟩ | ⟨h1, s, rfl, hsv⟩⟩
  · cases o with
    | bad => cases hs
    | pv g => cases hs
    | ld g => cases hs
    | ge g => cases hs; exact outK_eq hnn h k _ ih z vs hp nx
  · omega
  · cases o with
    | bad => cases hs
    | pv g =>
      cases hs
      show (match g vs [] with | some v => forceLv VD (s v vs) fun vs => k ih z vs [] hp nx | none => .no) = _
      simp only [runO]
      cases g vs [] with
      | none => rfl
      | some v => simp only [rOut, put, forceLv, hsv]
    | ld g =>
      cases hs
      show (match g vs [] hp with | .v v _ => forceLv VD (s v vs) fun vs => k ih z vs [] hp nx | .no => .no) = _
      simp only [runO]
      cases g vs [] hp with
      | no => rfl
      | v x r => simp only [rOut, put, forceLv, hsv]
    | ge g => cases hs; exact outK_eq hnn h k _ ih z vs hp nx
theorem dOne_eq {ops : List Oper} {o : Oper} {d : Dst} (h : dDst nv n o.dst = some d) {k f : K} (hs : dOne P nv ops o d k = .mk f) (ih : Rec) (z : Z) (vs : Vs) (hp : Hp) (nx : Nat) :
    f ih z vs [] hp nx = match rOne P nv ih ops o z vs hp nx with | .st z vs h nx => k ih z vs [] h nx | .no => .no := by
  unfold dOne at hs
  split at hs
  · rename_i s hst
    have hst' := stepW_eq hnn h hst ih
    unfold withG at hs
    unfold rOne rGuard
    cases hg : o.guard with
    | none =>
      rw [hg] at hs
      cases hs
      exact hst' z vs hp nx
    | some jb =>
      obtain ⟨j, b⟩ := jb
      rw [hg] at hs
      simp only at hs ⊢
      split at hs
      · rename_i x hx
        rw [hx]
        cases hs
        show (match x vs [] with | some (.bool y) => (Bool.rec (putK d undef k ih z vs [] hp nx) (s ih z vs [] hp nx) (y == b) : R) | some _ => putK d undef k ih z vs [] hp nx | none => .no) = _
        have hp' := dDst_put hnn h undef k ih z vs hp nx
        cases hxv : x vs [] with
        | none => simp only [hxv]
        | some v =>
          cases v with
          | bool y =>
            simp only [hxv]
            cases y == b with
            | true => exact hst' z vs hp nx
            | false => exact hp'
          | _ => simp only [hxv]; exact hp'
      · cases hs
  · cases hs
theorem dOps_eq {ops : List Oper} {k : K} {l : List Oper} {f : K} (hs : dOps P nv n ops k l = .mk f) (ih : Rec) (z : Z) (vs : Vs) (hp : Hp) (nx : Nat) :
    f ih z vs [] hp nx = match rOps P nv ih ops l z vs hp nx with | .st z vs h nx => k ih z vs [] h nx | .no => .no := by
  induction l generalizing f z vs hp nx with
  | nil => cases hs; rfl
  | cons o l ihl =>
    have e : dOps P nv n ops k (o :: l) = (match dOps P nv n ops k l, dDst nv n o.dst with | .mk k, some d => dOne P nv ops o d k | _, _ => .bad) := rfl
    rw [e] at hs
    split at hs
    · rename_i k' d hk hd
      rw [dOne_eq hnn hd hs]
      unfold rOps
      cases rOne P nv ih ops o z vs hp nx with
      | no => rfl
      | st z vs h nx => exact ihl hk z vs h nx
    · cases hs
theorem outD_eq {dst : Option Nat} {d : Dst} (h : dDst nv n dst = some d) (A : Hp → Bool) (k : KD) (o : Out) (rs : List Rec1) (ih : Rec) (z : Z) (vs : Vs) (hp : Hp) (nx : Nat) :
    outD A d k o rs ih z vs [] hp nx = match rOut dst z vs hp nx o with | .st z vs h nx => k (recOf A hp o :: rs) ih z vs [] h nx | .no => .no := by
  cases o with
  | bad => rfl
  | pur v => exact dDst_put hnn h v _ ih z vs hp nx
  | rd v r => exact dDst_put hnn h v _ ih z vs hp nx
  | new v h' nx' => exact dDst_put hnn h v _ ih z vs h' nx'
  | wr h' r => exact dDst_put hnn h undef _ ih (logZ z [r]) vs h' nx
  | gen v h' nx' M => exact dDst_put hnn h v _ ih (logZ z M) vs h' nx'
theorem dOneD_eq {ops : List Oper} {o : Oper} {d : Dst} (h : dDst nv n o.dst = some d) {k f : KD} (hs : dOneD P nv ops o d k = .mk f) (rs : List Rec1) (ih : Rec) (z : Z) (vs : Vs) (hp : Hp) (nx : Nat) :
    f rs ih z vs [] hp nx = match rOne P nv ih ops o z vs hp nx with | .st z' vs' h' nx' => k (rRec P nv ih ops o vs hp nx :: rs) ih z' vs' [] h' nx' | .no => .no := by
  unfold dOneD at hs
  have key : stepD d (dOp P nv o.op) k rs ih z vs [] hp nx = match rOut o.dst z vs hp nx (runO (dOp P nv o.op) ih vs [] hp nx) with
      | .st z' vs' h' nx' => k (recOf (altO (dOp P nv o.op) vs [] hp) hp (runO (dOp P nv o.op) ih vs [] hp nx) :: rs) ih z' vs' [] h' nx' | .no => .no := outD_eq hnn h _ k _ rs ih z vs hp nx
  unfold rOne rRec rGuard
  cases hg : o.guard with
  | none =>
    rw [hg] at hs
    cases hs
    exact key
  | some jb =>
    obtain ⟨j, b⟩ := jb
    rw [hg] at hs
    simp only at hs ⊢
    split at hs
    · rename_i x hx
      rw [hx]
      cases hs
      show (match x vs [] with | some (.bool y) => (Bool.rec (putK d undef (k (⟨[], some [], never, hp⟩ :: rs)) ih z vs [] hp nx) (stepD d (dOp P nv o.op) k rs ih z vs [] hp nx) (y == b) : R) | some _ => putK d undef (k (⟨[], some [], never, hp⟩ :: rs)) ih z vs [] hp nx | none => .no) = _
      have hp' := dDst_put hnn h undef (k (⟨[], some [], never, hp⟩ :: rs)) ih z vs hp nx
      cases hxv : x vs [] with
      | none => simp only [hxv]
      | some v =>
        cases v with
        | bool y =>
          simp only [hxv]
          cases y == b with
          | true => exact key
          | false => exact hp'
        | _ => simp only [hxv]; exact hp'
    · cases hs
theorem dOpsD_eq {ops : Array Oper} {k : K} {l : List Oper} {f : KD} (hs : dOpsD P nv n ops.toList (endD ops k) l = .mk f) (rs : List Rec1) (ih : Rec) (z : Z) (vs : Vs) (hp : Hp) (nx : Nat) :
    f rs ih z vs [] hp nx = match rOpsD P nv ih ops l rs z vs hp nx with | .st z vs h nx => k ih z vs [] h nx | .no => .no := by
  induction l generalizing f z vs hp nx rs with
  | nil =>
    cases hs
    show (Bool.rec .no (k ih z vs [] hp nx) (apartR ops rs.reverse) : R) = _
    unfold rOpsD
    cases apartR ops rs.reverse <;> rfl
  | cons o l ihl =>
    have e : dOpsD P nv n ops.toList (endD ops k) (o :: l) = (match dOpsD P nv n ops.toList (endD ops k) l, dDst nv n o.dst with | .mk k, some d => dOneD P nv ops.toList o d k | _, _ => .bad) := rfl
    rw [e] at hs
    split at hs
    · rename_i k' d hk hd
      rw [dOneD_eq hnn hd hs]
      conv => rhs; unfold rOpsD
      cases rOne P nv ih ops.toList o z vs hp nx with
      | no => rfl
      | st z vs h nx => exact ihl hk _ z vs h nx
    · cases hs
theorem rounds_eq {a : K} {b : Z → Vs → Hp → Nat → R} {ih : Rec} (h : ∀ z vs hp nx, a ih z vs [] hp nx = b z vs hp nx) (m : Nat) (z : Z) (vs : Vs) (hp : Hp) (nx : Nat) :
    rounds a m ih z vs hp nx = roundsD b m z vs hp nx := by
  have u := hnn
  clear u hnn
  induction m generalizing z vs hp nx with
  | zero => exact h z vs hp nx
  | succ m ihm =>
    have e : rounds a (m + 1) ih z vs hp nx = (match rounds a m ih z vs hp nx with | .nor z vs h nx => rounds a m ih z vs h nx | r => r) := rfl
    have e2 : roundsD b (m + 1) z vs hp nx = (match roundsD b m z vs hp nx with | .nor z vs h nx => roundsD b m z vs h nx | r => r) := rfl
    rw [e, e2, ihm]
    cases roundsD b m z vs hp nx with
    | nor z vs h nx => exact ihm z vs h nx
    | _ => rfl
theorem rangeEnd_eq (l : Nat) (o : Out) (k : K) (ih : Rec) (z : Z) (vs : Vs) : rangeEnd l o k ih z vs = bindR (rangeEnd l o kNor ih z vs) (fun z vs h nx => k ih z vs [] h nx) := by
  have u := hnn
  clear u hnn
  unfold rangeEnd
  cases o with
  | gen v h nx M =>
    simp only
    split <;> rfl
  | _ => rfl
theorem kRange_eq (nv n : Nat) (g : OpV) (ps : List Nat) (asg body : Code) (k : K) (ih : Rec) (z : Z) (vs : Vs) (ts : Ts) (h : Hp) (nx : Nat) :
    kRange nv n g ps asg body k ih z vs ts h nx = bindR (kRange nv n g ps asg body kNor ih z vs ts h nx) (fun z vs h nx => k ih z vs [] h nx) := by
  have u := hnn
  clear u hnn
  have go : ∀ (g : Value) d z h l, rangeGo nv n ps asg body k g d ih z vs h l = bindR (rangeGo nv n ps asg body kNor g d ih z vs h l) (fun z vs h nx => k ih z vs [] h nx) := by
    intro g d z h l
    unfold rangeGo
    split
    · cases room l with
      | false => rfl
      | true => exact rangeEnd_eq (nv := nv) rfl _ _ _ _ _ _
    · rfl
  unfold kRange
  cases g vs ts with
  | none => rfl
  | some g =>
    simp only
    split
    · cases room nx with
      | false => rfl
      | true => exact go _ _ _ _ _
    · split
      · exact go _ _ _ _ _
      · rfl
theorem dCode_eq {c : Code} {k f : K} (hs : dCode P nv n c k = .mk f) (ih : Rec) (z : Z) (vs : Vs) (hp : Hp) (nx : Nat) :
    f ih z vs [] hp nx = bindR (rC P nv n ih c z vs hp nx) (fun z vs h nx => k ih z vs [] h nx) := by
  induction c generalizing k f z vs hp nx with
  | skip => cases hs; rfl
  | region id ops draw =>
    have e : dCode P nv n (.region id ops draw) k = dRegion P nv n ops draw k := rfl
    rw [e] at hs
    unfold dRegion at hs
    rw [rC_region]
    cases draw with
    | false =>
      simp only [cond_false] at hs ⊢
      cases hd : dOps P nv n ops.toList k ops.toList with
      | bad => rw [hd] at hs; cases hs
      | mk g =>
        rw [hd] at hs
        cases hs
        show g ih z vs [] hp nx = _
        rw [dOps_eq hnn hd]
        cases rOps P nv ih ops.toList ops.toList z vs hp nx <;> rfl
    | true =>
      simp only [cond_true] at hs ⊢
      cases hc : (and (edgesOk ops) (namesOk ops)) with
      | false => rw [hc] at hs; cases hs
      | true =>
        rw [hc] at hs
        simp only at hs
        cases hd : dOpsD P nv n ops.toList (endD ops k) ops.toList with
        | bad => rw [hd] at hs; cases hs
        | mk g =>
          rw [hd] at hs
          cases hs
          show g [] ih z vs [] hp nx = _
          rw [dOpsD_eq hnn hd]
          cases rOpsD P nv ih ops ops.toList [] z vs hp nx <;> rfl
  | seq a b iha ihb =>
    have e : dCode P nv n (.seq a b) k = bindW (dCode P nv n b k) (dCode P nv n a) := rfl
    rw [e] at hs
    cases hb : dCode P nv n b k with
    | bad => rw [hb] at hs; cases hs
    | mk g =>
      rw [hb] at hs
      rw [iha hs]
      rw [rC_seq]
      cases rC P nv n ih a z vs hp nx with
      | nor z vs h nx => exact ihb hb z vs h nx
      | _ => rfl
  | cond x a b iha ihb =>
    have e : dCode P nv n (.cond x a b) k = (match dX nv x with | .mk f => w2 (kCond f) (dCode P nv n a k) (dCode P nv n b k)) := rfl
    rw [e] at hs
    rw [rC_cond]
    cases hx : dX nv x with
    | mk g =>
      rw [hx] at hs
      simp only at hs ⊢
      cases ha : dCode P nv n a k with
      | bad => rw [ha] at hs; cases hs
      | mk ga =>
        cases hb : dCode P nv n b k with
        | bad => rw [ha, hb] at hs; cases hs
        | mk gb =>
          rw [ha, hb] at hs
          cases hs
          show (match g vs [] with | some (.bool t) => (Bool.rec (gb ih z vs [] hp nx) (ga ih z vs [] hp nx) t : R) | _ => .no) = _
          cases g vs [] with
          | none => rfl
          | some v =>
            cases v with
            | bool t =>
              cases t with
              | true => exact iha ha z vs hp nx
              | false => exact ihb hb z vs hp nx
            | _ => rfl
  | block id a iha =>
    have e : dCode P nv n (.block id a) k = w1 (fun f => kBlock id f k) (dCode P nv n a kNor) := rfl
    rw [e] at hs
    cases ha : dCode P nv n a kNor with
    | bad => rw [ha] at hs; cases hs
    | mk ga =>
      rw [ha] at hs
      cases hs
      rw [rC_block]
      show (match ga ih z vs [] hp nx with | .nor z vs h nx => k ih z vs [] h nx | .exi j z vs h nx => Bool.rec (.exi j z vs h nx) (k ih z vs [] h nx) (Nat.beq j id) | r => r) = _
      rw [iha ha]
      cases rC P nv n ih a z vs hp nx with
      | exi j z vs h nx =>
        simp only [bindR]
        cases Nat.beq j id <;> rfl
      | _ => rfl
  | loop a iha =>
    have e : dCode P nv n (.loop a) k = w1 kLoop (dCode P nv n a kNor) := rfl
    rw [e] at hs
    cases ha : dCode P nv n a kNor with
    | bad => rw [ha] at hs; cases hs
    | mk ga =>
      rw [ha] at hs
      cases hs
      rw [rC_loop]; unfold loopR
      show kLoop ga ih z vs [] hp nx = _
      unfold kLoop
      rw [rounds_eq (b := rC P nv n ih a) hnn fun z vs hp nx => by rw [iha ha]; exact bindR_nor _]
      cases roundsD (rC P nv n ih a) 62 z vs hp nx <;> rfl
  | rangeFunc g ps a b _ _ =>
    have e : dCode P nv n (.rangeFunc g ps a b) k = (match dX nv g with | .mk f => .mk (kRange nv n f ps.toList a b k)) := rfl
    rw [e] at hs
    rw [rC_range]
    cases hx : dX nv g with
    | mk f =>
      rw [hx] at hs
      cases hs
      exact kRange_eq hnn _ _ _ _ _ _ _ _ _ _ _ _ _
  | exit id => cases hs; rfl
  | scope a iha => exact iha hs z vs hp nx
  | label l => cases hs; rfl
  | goto l => cases hs
  | ret => cases hs; rfl
  | refuse s => cases hs
end
variable {nvs : List (Nat × Nat)}
def fnMk (P : Program) (nvs : List (Nat × Nat)) (f : FuncId) (fn : Func) : Bool :=
  match dFn P nvs f with | .mk _ _ n nv => Nat.beq n nv && Nat.beq fn.ntmps n | .bad => false
def finR (P : Program) (nv : Nat) (rs : List ResultVar) (r : R) : R := fin (rs.map (dRes P nv)) r
end Lm
end Go
