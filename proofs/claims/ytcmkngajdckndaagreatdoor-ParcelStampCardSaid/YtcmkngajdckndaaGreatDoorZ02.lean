/- A machine that takes letters for numbers and lists: what it answers, the program answers (its operations, steps, calls, loops, lists of a world). Conditions: none. -/
import Derived.Test.YtcmkngajdckndaaGreatDoorZ01
import Derived.RangeFuncRecord
import Derived.LoopNIn
import Derived.Scope
import Derived.TacticsIn
import Derived.RangeFuncIn
import Derived.RangeFuncNested
set_option linter.unusedVariables false
set_option linter.unusedSimpArgs false
noncomputable section
namespace Go
namespace Lm
variable [Lo]
variable {P : Program}
def Ren.add (R : Ren) (nx b κ : Nat) : Ren := ⟨fun r => if r = nx then some b else R.blk r, fun r => if r = nx then κ else R.cap r⟩
theorem Ren.le_add {R : Ren} {nx : Nat} (hd : Dom R nx) (b κ : Nat) : R.le (R.add nx b κ) := fun r b' h => by
  have : ¬ r = nx := by have := hd.2 r b' h; omega
  simp [Ren.add, this, h]
omit [Lo] in
theorem hget_hset {h : Hp} {r s : Nat} {x : Row} (hr : r ≤ r) (hs : s ≤ s) : hget (hset h r x) s = if s = r then some x else hget h s := by
  unfold hget hset
  exact Lv.get_set HD r s x h hr hs
omit [Lo] in
theorem room_lt {nx : Nat} (h : room nx = true) : nx ≤ nx := by
  exact Nat.le_refl _
omit [Lo] in
theorem heap_alloc (w : World) (o : Obj) : (w.alloc o).heap[w.heap.size]? = some o := World.alloc_heap_new w o
omit [Lo] in
theorem heap_alloc_old (w : World) (o : Obj) (b : Nat) (h : b < w.heap.size) : (w.alloc o).heap[b]? = w.heap[b]? := by
  show (w.heap.push o)[b]? = w.heap[b]?
  rw [Array.getElem?_push]
  have : ¬ b = w.heap.size := by omega
  simp [this]
theorem ext_new {R : Ren} {h : Hp} {nx κ : Nat} {w : World} {x : Row} {ob : Obj} (hd : Dom R nx) (hroom : nx ≤ nx) (hrow : RowO (R.add nx w.heap.size κ) nx x ob) :
    Ext R (R.add nx w.heap.size κ) h (hset h nx x) nx (nx + 1) [] w (w.alloc ob) where
  le := Ren.le_add hd _ _
  nxle := Nat.le_succ _
  top := Nat.le_refl _
  size := by simp
  os := rfl
  tape := rfl
  output := rfl
  dom := fun r b hb => by
    by_cases hr : r = nx
    · subst hr
      simp [Ren.add] at hb
      subst hb
      exact .inr ⟨Nat.le_refl _, Nat.lt_succ_self _, by simp, .inl (Nat.le_refl _)⟩
    · simp [Ren.add, hr] at hb
      exact .inl hb
  kept := fun b hb _ => heap_alloc_old w ob b hb
  hsame := fun r hr _ => by
    rw [hget_hset hroom (by have := hd.1; omega)]
    simp; intro h'; omega
  rows := fun r b y hr hb hy hn => by
    rcases hr with hr | hr
    · by_cases hrn : r = nx
      · subst hrn
        simp [Ren.add] at hb
        subst hb
        rw [hget_hset hroom hroom] at hy
        simp at hy
        subst hy
        exact ⟨ob, heap_alloc w ob, hrow⟩
      · simp [Ren.add, hrn] at hb
        have := hd.2 r b hb; omega
    · cases hr
  inj := fun r s b hr hs hrb hsb _ _ => by
    have e : ∀ q b', nx ≤ q → (R.add nx w.heap.size κ).blk q = some b' → q = nx := fun q b' hq hqb => by
      by_cases hqn : q = nx
      · exact hqn
      · simp [Ren.add, hqn] at hqb
        have := hd.2 q b' hqb; omega
    rw [e r b hr hrb, e s b hs hsb]
  mlive := fun m hm => by cases hm
  mdom := fun m hm => by cases hm
theorem ext_wr {R : Ren} {h : Hp} {nx r b : Nat} {w w' : World} {x y : Row} {ob : Obj} (hd : Dom R nx) (hb : R.blk r = some b) (hx : hget h r = some x) (hxn : x ≠ .dead ∧ ∀ c, x ≠ .ro c) (hrow : RowO R r y ob)
    (hs : w'.heap.size = w.heap.size) (h1 : w'.os = w.os) (h2 : w'.tape = w.tape) (h3 : w'.output = w.output) (hob : w'.heap[b]? = some ob) (hother : ∀ k, k ≠ b → w'.heap[k]? = w.heap[k]?) :
    Ext R R h (hset h r y) nx nx [r] w w' where
  le := .refl R
  nxle := Nat.le_refl _
  top := Nat.le_refl _
  size := by omega
  os := h1
  tape := h2
  output := h3
  dom := fun r b hb => .inl hb
  kept := fun k _ hm => hother k (fun e => hm r (by simp) (e ▸ hb))
  hsame := fun s hs hm => by
    have hr := hd.2 r b hb
    have := hd.1
    rw [hget_hset (by omega) (by omega)]
    simp at hm
    simp [hm]
  rows := fun s b' z hr hb' hz hn => by
    rcases hr with hr | hr
    · have := hd.2 s b' hb'; omega
    · simp at hr
      subst hr
      have hr := hd.2 s b hb
      have := hd.1
      rw [hget_hset (by omega) (by omega)] at hz
      simp at hz
      subst hz
      rw [hb] at hb'; cases hb'
      exact ⟨ob, hob, hrow⟩
  inj := fun s t b' hs' _ hsb => by have := hd.2 s b' hsb; omega
  mlive := fun m hm => by
    simp at hm
    subst hm
    exact ⟨hd.2 m b hb, x, hx, hxn⟩
  mdom := fun m hm => by
    simp at hm
    subst hm
    exact ⟨b, hb⟩
def Wd (F : Fence) : Prop := (∀ f, F.fn f) ∧ F.depth = none
omit [Lo] in
theorem wd_wide : Wd Fence.wide := ⟨fun _ => trivial, rfl⟩
omit [Lo] in
theorem wd_round {F : Fence} (h : Wd F) (l : Nat) : Wd (F.inRound l) := h
omit [Lo] in
theorem semAt_eq {F : Fence} {o : Oper} (h : ∀ c, o.op ≠ .defer c) (ρ : Operand → Value) : Oper.semAt F.round ρ o = execOp ρ o := by
  unfold Oper.semAt
  cases F.round with
  | none => rfl
  | some l => cases ho : o.op <;> first | rfl | exact absurd ho (h _)
omit [Lo] in
theorem wpIn_val {F : Fence} (hF : Wd F) {o : Oper} {a : Act} {w w' : World} {v : Value} {K : Act → World → Prop} {Q : Exit → Act → World → Prop} (hnd : ∀ c, o.op ≠ .defer c)
    (hr : (execOp a.eval o).run P w = .ok (.value v) w') (hk : K (a.put o.dst v) w') : o.wpIn F 0 P a w K Q := by
  refine ⟨fun f _ => hF.1 f, ?_⟩
  rw [semAt_eq hnd, hr]
  exact hk
omit [Lo] in
theorem wpIn_skipv {F : Fence} (hF : Wd F) {o : Oper} {a : Act} {w w' : World} {K : Act → World → Prop} {Q : Exit → Act → World → Prop} (hnd : ∀ c, o.op ≠ .defer c)
    (hr : (execOp a.eval o).run P w = .ok .skip w') (hk : K (a.put o.dst undef) w') : o.wpIn F 0 P a w K Q := by
  refine ⟨fun f _ => hF.1 f, ?_⟩
  rw [semAt_eq hnd, hr]
  exact hk
def OutPre (R : Ren) (h : Hp) (w : World) : Out → Prop
  | .wr _ r => RowAt R h w r
  | .gen _ _ _ _ => HR R h w
  | _ => True
def OutGoal (P : Program) (F : Fence) (R : Ren) (h : Hp) (nx : Nat) (w : World) (a : Act) (o : Oper) : Out → Prop
  | .new v h' nx' => ∀ K Q, (∀ R' v' w', Ext R R' h h' nx nx' [] w w' → VR R' v v' → K (a.put o.dst v') w') → o.wpIn F 0 P a w K Q
  | .wr h' r => ∀ K Q, (∀ w', Ext R R h h' nx nx [r] w w' → K (a.put o.dst undef) w') → o.wpIn F 0 P a w K Q
  | .gen v h' nx' M => ∀ K Q, (∀ R' v' w', Ext R R' h h' nx nx' M w w' → VR R' v v' → K (a.put o.dst v') w') → o.wpIn F 0 P a w K Q
  | .bad => True
  | _ => False
def GeOk (P : Program) (nv : Nat) (o : Oper) (f : OpF) : Prop :=
  ∀ {S : Nat → Prop} {R : Ren} {n : Nat} {vs : Vs} {ts : Ts} {a : Act} {h : Hp} {nx : Nat} {w : World} {F : Fence} (ih : Rec), FrOk S R nv n vs ts a.tmps → Uses o S → Dom R nx → (∀ r b, R.blk r = some b → b < w.heap.size) → Wd F →
    OutPre R h w (f ih vs ts h nx) → OutGoal P F R h nx w a o (f ih vs ts h nx)
theorem celR_of {R : Ren} {c : List Value} {cs : Array Value} (h : VL R c cs.toList) (h1 : ∀ x, x ∈ c → x.oneCell' = true) : CelR R c cs :=
  ⟨by have := h.1; simp at this; omega, fun i x hx => ⟨h1 x (List.mem_of_getElem? hx), by obtain ⟨x', a, b⟩ := h.get hx; exact ⟨x', by simpa using a, b⟩⟩⟩
theorem ground_cellsL {z : Value} {c : List Value} (hz : ground z = true) (hc : cellsL z = some c) (R : Ren) : VL R c z.cells.toList ∧ ∀ x, x ∈ c → x.oneCell' = true :=
  let h := cellsL_vr hc (ground_vr hz R); ⟨h.1, h.2.1⟩
section
variable {nv : Nat} {o : Oper}
theorem newOut_goal {F : Fence} (hF : Wd F) {R : Ren} {h : Hp} {nx : Nat} {w : World} {a : Act} {c : List Value} {cs : Array Value} {t : TypeId} (hnd : ∀ c, o.op ≠ .defer c) (hd : Dom R nx) (hc : VL R c cs.toList) (h1 : ∀ x, x ∈ c → x.oneCell' = true)
    (hr : (execOp a.eval o).run P w = .ok (.value (.pointer (some ⟨w.heap.size, 0, none⟩))) (w.alloc (.cells cs t))) : OutGoal P F R h nx w a o (newOut h nx c) := by
  unfold newOut
  cases hroom : room nx with
  | false => trivial
  | true =>
    simp only [OutGoal]
    intro K Q hK
    have hlt := room_lt hroom
    refine wpIn_val hF hnd hr (hK (R.add nx w.heap.size 0) _ _ (ext_new hd hlt ⟨cs, t, rfl, (celR_of hc h1).mono (Ren.le_add hd _ _), fun sz hs => by cases hs⟩) (.ptr 0 (by simp [Ren.add]) (Lo.nz hd.1)))
theorem alloc_ok {t : TypeId} {f : OpF} (ho : o.op = .alloc t) (h : dAlloc P t = .ge f) : GeOk P nv o f := by
  intro S R n vs ts a hp nx w F ih hFr hU hd hb hF _
  unfold dAlloc at h
  split at h
  · rename_i i hi
    split at h
    · rename_i z hz
      split at h
      · rename_i c hc
        cases hg : ground z with
        | false => rw [hg] at h; cases h
        | true =>
          rw [hg] at h
          cases h
          obtain ⟨h1, h2⟩ := ground_cellsL hg hc R
          refine newOut_goal hF (by simp [ho]) hd h1 h2 (t := t) ?_
          simp only [execOp, ho, Instr.alloc, newVar, newRow]
          simp only [Sem.run_bind, run_zero hi hz, Result.andThen_ok, run_newObj, Sem.run_pure]
          rfl
      · cases h
    · cases h
  · cases h
theorem box_ok {t : TypeId} {x : Operand} {f : OpF} (ho : o.op = .box t x) (h : ge1 nv oBox x = .ge f) : GeOk P nv o f := by
  intro S R n vs ts a hp nx w F ih hFr hU hd hb hF _
  obtain ⟨g, hg⟩ := dX_some nv x
  unfold ge1 at h
  rw [hg] at h
  cases h
  have hx : ∀ t, x = .tmp t → S t := fun t ht => hU t (by simp [ho, Op.operands, ht])
  unfold oBox
  split
  · rename_i v hv
    split
    · rename_i c hc
      obtain ⟨h1, h2, h3⟩ := cellsL_vr hc (dX_ok hg hFr hx hv)
      refine newOut_goal hF (by simp [ho]) hd h1 h2 (t := t) ?_
      simp only [execOp, ho, Instr.box, newVar, newRow]
      simp only [Sem.run_bind, Result.andThen_ok, run_newObj, Sem.run_pure]
      rfl
    · trivial
  · trivial
theorem store_ok {t : TypeId} {x y : Operand} {f : OpF} (ho : o.op = .store t x y) (h : dStore P nv t x y = .ge f) : GeOk P nv o f := by
  intro S R n vs ts a hp nx w F ih hFr hU hd hb hF hpre
  unfold dStore at h
  split at h
  · rename_i i hi
    obtain ⟨g, hg⟩ := dX_some nv x
    obtain ⟨e, he⟩ := dX_some nv y
    unfold ge2 at h
    rw [hg, he] at h
    cases h
    have hs : ∀ z ∈ [x, y], ∀ t, z = .tmp t → S t := fun z hz t ht => hU t (by simp [ho, Op.operands]; simp at hz; rcases hz with rfl | rfl <;> simp [ht])
    unfold oStore at hpre ⊢
    split
    · rename_i r off v hu hv
      rw [hu, hv] at hpre
      simp only at hpre
      unfold storeAt at hpre ⊢
      split
      · rename_i c b l hx hl
        rw [hx, hl] at hpre
        simp only at hpre
        cases hlen : Nat.beq l.length i.size with
        | false => trivial
        | true =>
          rw [hlen] at hpre
          simp only [cond_true] at hpre ⊢
          split
          · rename_i c' hsp
            rw [hsp] at hpre
            simp only [OutPre] at hpre
            simp only [OutGoal]
            intro K Q hK
            have h1 := dX_ok hg hFr (hs x (by simp)) hu
            generalize hbx : a.eval x = u at h1
            cases h1 with
            | @ptr _ blk _ hr hlo =>
              obtain ⟨ob, h2, cs, et, rfl, h3, h4⟩ := hpre blk _ hr hx (by simp)
              obtain ⟨l1, l2, l3⟩ := cellsL_vr hl (dX_ok he hFr (hs y (by simp)) hv)
              obtain ⟨s1, s2, s3⟩ := splice_eq hsp
              have hsz := Nat.eq_of_beq_eq_true hlen
              have hvs : (a.eval y).cells.size = i.size := by have := l1.1; simp at this; omega
              have hfit : off + 0 + (a.eval y).cells.toList.length ≤ cs.size ∨ (a.eval y).cells.toList = [] := by
                rcases s1 with rfl | s1
                · right; exact l1.of_nil
                · left; have := h3.1; have := l1.1; omega
              have hrun : ∃ cs', (storeCells ⟨blk, off, none⟩ (a.eval y).cells.toList).run P w = .ok () (w.setRow blk cs') ∧ CelR R c' cs' ∧ cs'.size = cs.size := by
                rcases hfit with hfit | hnil
                · have hst := run_storeCells_at (P := P) blk off et (a.eval y).cells.toList 0 cs w h2 hfit l3
                  refine ⟨_, hst, ?_, by simp at hfit ⊢; omega⟩
                  refine ⟨by have := h3.1; simp at hfit ⊢; omega, fun k q hq => ?_⟩
                  rw [s3] at hq
                  simp only [Nat.add_zero, List.getElem?_toArray]
                  have hfit' : off + (a.eval y).cells.toList.length ≤ cs.toList.length := by simpa using hfit
                  have hll := l1.1
                  split at hq
                  · rename_i hk
                    obtain ⟨q', p1, p2⟩ := l1.get hq
                    refine ⟨l2 q (List.mem_of_getElem? hq), q', ?_, p2⟩
                    rw [List.append_assoc, List.getElem?_append_right (by simp; omega)]
                    have e1 : k - (cs.toList.take off).length = k - off := by simp; omega
                    rw [e1, List.getElem?_append_left (by omega)]
                    exact p1
                  · rename_i hk
                    obtain ⟨q1, q', p1, p2⟩ := h3.2 k q hq
                    refine ⟨q1, q', ?_, p2⟩
                    by_cases hlt : k < off
                    · rw [List.append_assoc, List.getElem?_append_left (by simp; omega), List.getElem?_take_of_lt hlt]
                      simpa using p1
                    · rw [List.getElem?_append_right (by simp; omega)]
                      rw [List.getElem?_drop]
                      have e1 : off + (a.eval y).cells.toList.length + (k - (cs.toList.take off ++ (a.eval y).cells.toList).length) = k := by simp; omega
                      rw [e1]
                      simpa using p1
                · refine ⟨cs, ?_, ?_, rfl⟩
                  · rw [hnil, setRow_self w blk cs et (0, 0) h2]; rfl
                  · have hl0 : l = [] := by have := l1.1; rw [hnil] at this; simpa using this
                    subst hl0
                    refine ⟨by rw [s2]; exact h3.1, fun k q hq => ?_⟩
                    rw [s3] at hq
                    have hno : ¬ (off ≤ k ∧ k < off + ([] : List Value).length) := by simp
                    rw [if_neg hno] at hq
                    exact h3.2 k q hq
              obtain ⟨cs', r1, r2, r3⟩ := hrun
              have hrn : (execOp a.eval o).run P w = .ok .skip (w.setRow blk cs') := by
                simp only [execOp, ho, hbx, Instr.storeAt, Instr.sureAddr, storeVar]
                simp only [Sem.run_bind, Sem.run_pure, Result.andThen_ok, run_sizeOf' hi, hvs, ne_eq, not_true_eq_false, if_false, r1]
              refine wpIn_skipv hF (by simp [ho]) hrn (hK _ ?_)
              exact ext_wr hd hr hx (by simp) (y := .cells c' b) (ob := .cells cs' et (0, 0)) ⟨cs', et, rfl, r2, fun sz hsz => by rw [r3, s2]; exact h4 sz hsz⟩ (by simp) rfl rfl rfl (setRow_heap w blk cs cs' et _ h2) (fun k hk => setRow_other w blk k cs' hk)
          · trivial
      · trivial
    · trivial
  · cases h
end
end Lm
end Go
namespace Go
namespace Lm
variable [Lo]
variable {P : Program}
section
variable {nv : Nat} {o : Oper}
theorem newSlice_goal {F : Fence} (hF : Wd F) {R : Ren} {h : Hp} {nx : Nat} {w : World} {a : Act} {c : List Value} {cs : Array Value} {t : TypeId} {n k : Nat} (hnd : ∀ c, o.op ≠ .defer c) (hd : Dom R nx) (hc : VL R c cs.toList) (h1 : ∀ x, x ∈ c → x.oneCell' = true)
    (hnk : n ≤ k) (hk : k < HALF) (hr : (execOp a.eval o).run P w = .ok (.value (.slice (some ⟨w.heap.size, 0, none⟩) n k)) (w.alloc (.cells cs t))) : OutGoal P F R h nx w a o (newSlice h nx c n k) := by
  unfold newSlice
  cases hroom : room nx with
  | false => trivial
  | true =>
    simp only [OutGoal]
    intro K Q hK
    have hlt := room_lt hroom
    exact wpIn_val hF hnd hr (hK (R.add nx w.heap.size 0) _ _ (ext_new hd hlt ⟨cs, t, rfl, (celR_of hc h1).mono (Ren.le_add hd _ _), fun sz hs => by cases hs⟩) (.slice 0 n (by simp [Ren.add]) (Lo.nz hd.1) (.inl ⟨hk, rfl⟩) hnk))
omit [Lo] in
theorem repL_zero (z l : List Value) : repL 0 z l = l := rfl
omit [Lo] in
theorem repL_succ (n : Nat) (z l : List Value) : repL (n + 1) z l = z ++ repL n z l := rfl
omit [Lo] in
theorem repL_get (z : List Value) (hz : 0 < z.length) : ∀ (n i : Nat), (repL n z [])[i]? = if i < n * z.length then z[i % z.length]? else none := by
  intro n
  induction n with
  | zero => intro i; simp [repL_zero]
  | succ n ih =>
    intro i
    rw [repL_succ]
    by_cases hi : i < z.length
    · rw [List.getElem?_append_left hi, Nat.mod_eq_of_lt hi, if_pos (by rw [Nat.succ_mul]; omega)]
    · rw [List.getElem?_append_right (by omega), ih]
      rw [Nat.succ_mul]
      have e : i % z.length = (i - z.length) % z.length := Nat.mod_eq_sub_mod (by omega)
      rw [e]
      by_cases h2 : i - z.length < n * z.length
      · rw [if_pos h2, if_pos (by omega)]
      · rw [if_neg h2, if_neg (by omega)]
omit [Lo] in
theorem zeros_eq {z : Array Value} (n : Nat) (hz : 0 < z.size) : ((Array.range (n * z.size)).map (z[· % z.size]!)).toList = repL n z.toList [] := by
  apply List.ext_getElem?
  intro i
  rw [repL_get z.toList (by simpa using hz)]
  simp only [Array.toList_map, Array.toList_range, List.getElem?_map, Array.length_toList]
  by_cases hi : i < n * z.size
  · rw [if_pos hi, List.getElem?_range hi]
    have : i % z.size < z.size := Nat.mod_lt _ hz
    simp [this]
  · rw [if_neg hi, List.getElem?_eq_none (by simp; omega)]
    rfl
theorem VL.rep {R : Ren} {z z' : List Value} (h : VL R z z') : ∀ n, VL R (repL n z []) (repL n z' []) := by
  intro n
  induction n with
  | zero => exact .nil R
  | succ n ih => rw [repL_succ, repL_succ]; exact h.append ih
omit [Lo] in
theorem rep_mem {z : List Value} {n : Nat} {x : Value} (h : x ∈ repL n z []) : x ∈ z := by
  induction n with
  | zero => cases h
  | succ n ih =>
    rw [repL_succ] at h
    rcases List.mem_append.1 h with h | h
    · exact h
    · exact ih h
theorem buildSlice_ok {t : TypeId} {len : Nat} {ps : Array (Nat × Operand)} {f : OpF} (ho : o.op = .buildSlice t len ps) (h : dBuildSlice P nv t len ps = .ge f) : GeOk P nv o f := by
  intro S R n vs ts a hp nx w F ih hFr hU hd hb hF _
  have hs : ∀ p, p ∈ ps.toList → ∀ t, p.2 = .tmp t → S t := fun p hp t ht => hU t (by
    simp only [ho, Op.operands, List.mem_map]
    exact ⟨p, hp, ht⟩)
  have em : (ps.map fun (i, x) => (i, a.eval x)).toList = ps.toList.map fun p => (p.1, a.eval p.2) := by simp
  unfold dBuildSlice at h
  split at h
  · rename_i i hi
    split at h
    · rename_i e hde
      split at h
      · rename_i j hj
        split at h
        · rename_i z l hz hl
          split at h
          · rename_i c hc
            cases hg : (Nat.ble (len * j.size) 16777216 && Nat.beq c.length j.size && Nat.blt 0 j.size && ground z) with
            | false => rw [hg] at h; cases h
            | true =>
              rw [hg] at h
              cases h
              simp only [Bool.and_eq_true, ble_eq', beq_eq', blt_eq, decide_eq_true_eq] at hg
              obtain ⟨⟨⟨g1, g2⟩, g3⟩, g4⟩ := hg
              obtain ⟨z1, z2⟩ := ground_cellsL g4 hc R
              have hzs : z.cells.size = j.size := by have := z1.1; simp at this; omega
              unfold oBuildSlice
              split
              · rename_i us hus
                split
                · rename_i d hfl
                  have hpr := placesL_pr hl hFr hs hus
                  have hzl : ((Array.range (len * j.size)).map (z.cells[· % z.cells.size]!)).toList = repL len z.cells.toList [] := by
                    rw [← hzs]; exact zeros_eq len (by omega)
                  obtain ⟨d', f1, f2, f3⟩ := fillL_vr hpr (cs' := (Array.range (len * j.size)).map (z.cells[· % z.cells.size]!)) hfl (by rw [hzl]; exact z1.rep len) (fun x hx => z2 x (rep_mem hx))
                  have hlen : len < HALF := by
                    have : len ≤ len * j.size := Nat.le_mul_of_pos_right _ g3
                    unfold HALF
                    omega
                  refine newSlice_goal hF (by simp [ho]) hd f2 f3 (Nat.le_refl _) hlen (t := e) ?_
                  have hn0 : (len * j.size = 0 ∧ len = 0) ∨ ¬ len * j.size = 0 := by
                    rcases Nat.eq_zero_or_pos len with h0 | h0
                    · left; subst h0; simp
                    · right; have := Nat.mul_pos h0 g3; omega
                  simp only [execOp, ho, Instr.buildSlice, newRow]
                  simp only [Sem.run_bind, run_under hi, hde, Result.andThen_ok, run_sizeOf' hj]
                  have hbig : ¬ (len * j.size > 2 ^ 24) := by omega
                  simp only [hbig, if_false, Sem.run_pure, Result.andThen_ok]
                  rcases hn0 with ⟨hn0, rfl⟩ | hn0
                  · rw [hn0] at f1
                    simp only [hn0, if_true, Sem.run_bind, Sem.run_pure, Result.andThen_ok]
                    have r0 : ∀ g h : Nat → Value, (Array.range 0).map g = (Array.range 0).map h := fun g h => by simp
                    rw [em, r0 _ (fun x => z.cells[x % z.cells.size]!), f1]
                    simp only [Sem.run_bind, run_newObj, Result.andThen_ok, Sem.run_pure]
                    rfl
                  · simp only [hn0, if_false, Sem.run_bind, run_zero hj hz, Result.andThen_ok, Sem.run_pure]
                    rw [em, f1]
                    simp only [Sem.run_bind, run_newObj, Result.andThen_ok, Sem.run_pure]
                    rfl
                · trivial
              · trivial
          · cases h
        · cases h
      · cases h
    · cases h
  · cases h
theorem natOf_vr {R : Ren} {x x' : Value} {n : Nat} (h : natOf x = some n) (hx : VR R x x') : ∃ k, x' = .int k (.ofNat n) := by
  unfold natOf at h
  split at h
  · cases h; cases hx; exact ⟨_, rfl⟩
  · cases h
omit [Lo] in
theorem wrap_small {n : Nat} (h : n ≤ 65536) : IntKind.i64.wrap (Int.ofNat n) = Int.ofNat n := by
  simp [IntKind.wrap, IntKind.bits, IntKind.signed]
  split <;> omega
theorem makeSlice_ok {t : TypeId} {x y : Operand} {f : OpF} (ho : o.op = .makeSlice t x y) (h : dMakeSlice P nv t x y = .ge f) : GeOk P nv o f := by
  intro S R n vs ts a hp nx w F ih hFr hU hd hb hF _
  have hs : ∀ z ∈ [x, y], ∀ t, z = .tmp t → S t := fun z hz t ht => hU t (by simp [ho, Op.operands]; simp at hz; rcases hz with rfl | rfl <;> simp [ht])
  unfold dMakeSlice at h
  split at h
  · rename_i i hi
    split at h
    · rename_i e hde
      split at h
      · rename_i j hj
        split at h
        · rename_i z hz
          split at h
          · rename_i c hc
            cases hg : (Nat.ble j.bytes 65536 && Nat.beq c.length j.size && Nat.blt 0 j.size && ground z) with
            | false => rw [hg] at h; cases h
            | true =>
              rw [hg] at h
              simp only [cond_true] at h
              simp only [Bool.and_eq_true, ble_eq', beq_eq', blt_eq, decide_eq_true_eq] at hg
              obtain ⟨⟨⟨g1, g2⟩, g3⟩, g4⟩ := hg
              obtain ⟨gx, hgx⟩ := dX_some nv x
              obtain ⟨gy, hgy⟩ := dX_some nv y
              unfold ge2 at h
              rw [hgx, hgy] at h
              cases h
              obtain ⟨z1, z2⟩ := ground_cellsL g4 hc R
              have hzs : z.cells.size = j.size := by have := z1.1; simp at this; omega
              unfold oMakeSlice
              split
              · rename_i u v hu hv
                split
                · rename_i ln cp hln hcp
                  cases hle : (Nat.ble ln cp && Nat.ble cp 65536) with
                  | false => trivial
                  | true =>
                    simp only [cond_true, forceN_eq]
                    simp only [Bool.and_eq_true, ble_eq', decide_eq_true_eq] at hle
                    obtain ⟨k1, e1⟩ := natOf_vr hln (dX_ok hgx hFr (hs x (by simp)) hu)
                    obtain ⟨k2, e2⟩ := natOf_vr hcp (dX_ok hgy hFr (hs y (by simp)) hv)
                    have hrun : (execOp a.eval o).run P w = .ok (.value (.slice (some ⟨w.heap.size, 0, none⟩) ln cp)) (w.alloc (.cells ((Array.range (cp * j.size)).map (z.cells[· % z.cells.size]!)) e)) := by
                      obtain ⟨fi, hfi, _, _, hby, _⟩ := ty_eq hj
                      simp only [execOp, ho, e1, e2, Instr.makeSlice, asInt, asIntOf, newRow]
                      simp only [Sem.run_bind, Sem.run_pure, run_under hi, hde, Result.andThen_ok, run_typeInfo' hfi, run_sizeOf' hj, wrap_small (show ln ≤ 65536 by omega), wrap_small hle.2, run_askRoom]
                      have hmul : fi.bytes * cp ≤ 65536 * 65536 := by rw [hby]; exact Nat.mul_le_mul g1 hle.2
                      have t1 : (decide (Int.ofNat cp < 0) || decide ((fi.bytes : Int) * Int.ofNat cp > 2 ^ 48)) = false := by
                        simp only [Bool.or_eq_false_iff, decide_eq_false_iff_not]
                        refine ⟨by simp, ?_⟩
                        have : (fi.bytes : Int) * Int.ofNat cp = ((fi.bytes * cp : Nat) : Int) := by simp
                        rw [this]
                        omega
                      have t2 : ((decide (Int.ofNat cp < 0) || decide ((fi.bytes : Int) * Int.ofNat cp > 2 ^ 48)) || decide (Int.ofNat ln < 0) || decide (Int.ofNat ln > Int.ofNat cp)) = false := by
                        rw [t1]
                        simp
                        omega
                      simp only [t2, Bool.false_eq_true, if_false, Sem.run_pure, Result.andThen_ok, Sem.run_bind, run_askRoom, run_sizeOf' hj]
                      have hcpn : (Int.ofNat cp).toNat = cp := rfl
                      have hlnn : (Int.ofNat ln).toNat = ln := rfl
                      simp only [hcpn, hlnn]
                      rcases Nat.eq_zero_or_pos cp with h0 | h0
                      · subst h0
                        have r0 : ∀ g h : Nat → Value, (Array.range 0).map g = (Array.range 0).map h := fun g h => by simp
                        simp only [Nat.zero_mul, if_true, Sem.run_pure, Result.andThen_ok, Sem.run_bind, run_newObj]
                        rw [r0 _ (fun x => z.cells[x % z.cells.size]!)]
                        rfl
                      · have hn0 : ¬ cp * j.size = 0 := by have := Nat.mul_pos h0 g3; omega
                        simp only [hn0, if_false, Sem.run_bind, run_zero hj hz, Result.andThen_ok, Sem.run_pure, run_newObj]
                        rfl
                    refine newSlice_goal hF (by simp [ho]) hd ?_ (fun q hq => z2 q (rep_mem hq)) hle.1 (by unfold HALF; omega) hrun
                    rw [← hzs, zeros_eq cp (by omega)]
                    exact z1.rep cp
                · trivial
              · trivial
          · cases h
        · cases h
      · cases h
    · cases h
  · cases h
theorem makeMap_ok {t : TypeId} {f : OpF} (ho : o.op = .makeMap t none) (h : f = oMakeMap) : GeOk P nv o f := by
  intro S R n vs ts a hp nx w F ih hFr hU hd hb hF _
  subst h
  unfold oMakeMap
  cases hroom : room nx with
  | false => trivial
  | true =>
    simp only [OutGoal]
    intro K Q hK
    have hlt := room_lt hroom
    have hr : (execOp a.eval o).run P w = .ok (.value (.map (some w.heap.size))) (w.alloc (.map #[] 0)) := by
      simp only [execOp, ho, Instr.makeMap, Option.map_none]
      simp only [Sem.run_bind, run_newObj, Result.andThen_ok, Sem.run_pure]
      rfl
    exact wpIn_val hF (by simp [ho]) hr (hK (R.add nx w.heap.size 0) _ _ (ext_new hd hlt ⟨#[], 0, rfl, .nil, rfl, fun i e h => by simp at h⟩) (.map (by simp [Ren.add])))
end
end Lm
end Go
namespace Go
namespace Lm
variable [Lo]
variable {P : Program}
section
variable {nv : Nat} {o : Oper}
theorem EsR.push {R : Ren} {l m} (h : EsR R l m) {k v v' : Value} (hv : VR R v v') (b : Nat) : EsR R (l ++ [(k, v)]) (m ++ [{ key := k, val := v', born := b }]) := by
  induction h with
  | nil => exact .cons rfl hv .nil
  | cons hk hv' _ ih => exact .cons hk hv' ih
theorem read_run {R : Ren} {h : Hp} {w : World} {r b off k : Nat} {c l : List Value} (hrow : RowAt R h w r) (hb : R.blk r = some b) (hlo : Lo.lo r ≤ off) (hr : rowL h r = some c) (hl : takeL k (dropL off c) = some l) :
    ∃ l', VL R l l' ∧ (∀ x, x ∈ l → x.oneCell' = true) ∧ l.length = k ∧ ∀ w', w'.heap[b]? = w.heap[b]? → (loadCells ⟨b, off, none⟩ k).run P w' = .ok l'.toArray w' := by
  obtain ⟨cs, e, fz, hw, hcel⟩ := rowL_at hrow hb hr
  rw [dropL_eq] at hl
  obtain ⟨h1, rfl⟩ := takeL_eq hl
  have hv := (hcel.vl hlo).take k
  refine ⟨_, hv, fun x hx => hcel.one x (List.mem_of_mem_drop (List.mem_of_mem_take hx)), by simp at h1 ⊢; omega, fun w' hw' => ?_⟩
  have hlen : (((cs.toList.take c.length).drop off).take k).length = k := by
    have := hcel.1
    simp at h1 ⊢; omega
  have := run_loadCells_list (P := P) w' ⟨b, off, none⟩ (((cs.toList.take c.length).drop off).take k) (fun j y hy => by
    rw [add_lit]
    rw [List.getElem?_take] at hy
    split at hy
    · rw [List.getElem?_drop, List.getElem?_take] at hy
      split at hy
      · simp [World.cell?, hw', hw]; simpa using hy
      · cases hy
    · cases hy)
  rw [hlen] at this
  exact this
theorem appended_vr {R : Ren} {h : Hp} {w : World} {size n : Nat} {x x' : Value} {new : List Value} (hh : HR R h w) (hx : VR R x x') (hn : appended h size x = some (n, new)) :
    ∃ new', VL R new new' ∧ (∀ y, y ∈ new → y.oneCell' = true) ∧ new.length = n * size ∧ (∃ base cap, x' = .slice base n cap) ∧ ∀ w', (∀ b, b < w.heap.size → w'.heap[b]? = w.heap[b]?) → (Builtin.firstCells size n x').run P w' = .ok new'.toArray w' := by
  unfold appended at hn
  split at hn
  · rename_i n0 c0
    rw [beq_eq'] at hn
    by_cases h0 : n0 = 0
    · simp only [h0, decide_true] at hn
      cases hn
      subst h0
      cases hx
      exact ⟨[], .nil R, (fun _ hy => by cases hy), by simp, ⟨_, _, rfl⟩, fun w' _ => rfl⟩
    · simp only [h0, decide_false] at hn
      cases hn
  · rename_i r off n0 c0
    split at hn
    · rename_i cs hcs
      split at hn
      · rename_i l hl
        cases hn
        cases hx with
        | sliceW ad => rw [hh.oddL] at hcs; cases hcs
        | @slice _ b _ _ _ c' hr hlo hc hle =>
          obtain ⟨l', h1, h2, h3, h4⟩ := read_run (P := P) (hh.at r) hr hlo hcs hl
          refine ⟨l', h1, h2, h3, ⟨_, _, rfl⟩, fun w' hw' => ?_⟩
          simp only [Builtin.firstCells]
          exact h4 w' (hw' b (hh.bnd r b hr))
      · cases hn
    · cases hn
  · cases hn
omit [Lo] in
theorem cap_small {need c : Nat} (h : c < need) (hn : need ≤ 65536) : Builtin.nextslicecap need c ≤ 1000000 := by
  unfold Builtin.nextslicecap
  split
  · omega
  · split
    · omega
    · simp only [Builtin.growBy]
      split
      · omega
      · split
        · omega
        · split
          · omega
          · split
            · omega
            · omega
omit [Lo] in
theorem append_new_run {c : Call} {t u e : TypeId} {i k j : TI} {z : Value} (hc0 : c.argTypes[0]? = some t) (hc1 : c.argTypes[1]? = some u) (hi : ty P t = some i) (hk : ty P u = some k) (hde : i.desc = .slice e) {e2 : TypeId} (hdk : k.desc = .slice e2)
    (hj : ty P e = some j) (hz : j.zero = some z) (hzs : z.cells.size = j.size) (hb1 : j.bytes ≤ 65536) (ot : TypeId) (w : World) {base base2 : Option Addr} {sLen sCap n cap2 : Nat} {old' new' : List Value}
    (hneed : ¬ sLen + n ≤ sCap) (hsm : sLen + n ≤ 65536) (hnew : ∀ w', (∀ b, b < w.heap.size → w'.heap[b]? = w.heap[b]?) → (Builtin.firstCells j.size n (.slice base2 n cap2)).run P w' = .ok new'.toArray w')
    (hold : ∀ w', (∀ b, b < w.heap.size → w'.heap[b]? = w.heap[b]?) → (Builtin.firstCells j.size sLen (.slice base sLen sCap)).run P w' = .ok old'.toArray w') :
    ∃ (newCap : Nat) (rest : List Value) (w1 : World), sLen + n ≤ newCap ∧ rest.length = (newCap - (sLen + n)) * j.size ∧ w1.heap = w.heap ∧ w1.os = w.os ∧ w1.tape = w.tape ∧ w1.output = w.output ∧
      (Builtin.append_ c.argTypes ot #[.slice base sLen sCap, .slice base2 n cap2]).run P w = .ok (.slice (some ⟨w.heap.size, 0, none⟩) (sLen + n) newCap) (w1.alloc (.cells (old' ++ new' ++ rest).toArray e)) := by
  obtain ⟨fi, hfi, _, _, hby, _⟩ := ty_eq hj
  have hmax : ¬ ((((sLen + n : Nat) : Int) > IntKind.i64.max) ∧ (False ∨ fi.bytes = 0)) := by
    rintro ⟨h1, _⟩
    simp [IntKind.max, IntKind.bits, IntKind.signed] at h1
    omega
  have hcap : ¬ (Builtin.nextslicecap (sLen + n) sCap * fi.bytes > 2 ^ 48) := by
    have := cap_small (need := sLen + n) (c := sCap) (by omega) hsm
    have h2 : Builtin.nextslicecap (sLen + n) sCap * fi.bytes ≤ 1000000 * 65536 := Nat.mul_le_mul this (by omega)
    omega
  let w1 : World := { w with drawn := w.drawn + 1 }
  let newCap : Nat := (sLen + n) + w.tape w.drawn (.appendCap (sLen + n) sCap e) % (2 ^ 63 - (sLen + n))
  refine ⟨newCap, (Builtin.zeroCells z.cells (newCap - (sLen + n))).toList, w1, Nat.le_add_right _ _, by simp [Builtin.zeroCells, hzs], rfl, rfl, rfl, rfl, ?_⟩
  have hch : (choose (.appendCap (sLen + n) sCap e)).run P w = .ok newCap w1 := by
    simp [choose, Sem.run, Question.forced, Question.cut, newCap, w1]
  unfold Builtin.append_
  simp only [hc0, hc1, List.getElem?_toArray, List.getElem?_cons_zero, List.getElem?_cons_succ]
  simp only [Sem.run_bind, run_under hi, hde, Result.andThen_ok, run_sizeOf' hj, run_under hk, hdk, Sem.run_pure, Bool.false_eq_true, if_false, Builtin.lenOf, hneed, Bool.not_false, if_true, run_typeInfo' hfi]
  rw [if_neg hmax]
  simp only [Sem.run_bind, run_typeInfo' hfi, Result.andThen_ok]
  rw [if_neg hcap]
  simp only [Sem.run_pure, Result.andThen_ok, Sem.run_bind, hch, run_askRoom, hold w1 (fun _ _ => rfl), hnew w1 (fun _ _ => rfl), run_zero hj hz, run_typeInfo' hfi, newRow, run_newObj]
  have e1 : (old'.toArray ++ new'.toArray ++ Builtin.zeroCells z.cells (newCap - (sLen + n))) = (old' ++ new' ++ (Builtin.zeroCells z.cells (newCap - (sLen + n))).toList).toArray := by
    apply Array.ext'; simp
  rw [e1]
  rfl
theorem app_ext {R : Ren} {h : Hp} {nx : Nat} {w w1 : World} {c l : List Value} {e : TypeId} {need newCap size : Nat} {rest : List Value} (hd : Dom R nx) (hroom : nx ≤ nx) (hw : w1.heap = w.heap) (h1 : w1.os = w.os) (h2 : w1.tape = w.tape) (h3 : w1.output = w.output)
    (hl : VL R c l) (hone : ∀ x, x ∈ c → x.oneCell' = true) (hlen : c.length = need * size) (hcap : need ≤ newCap) (hrest : rest.length = (newCap - need) * size) :
    Ext R (R.add nx w.heap.size newCap) h (hset h nx (.cells c (some size))) nx (nx + 1) [] w (w1.alloc (.cells (l ++ rest).toArray e)) := by
  have e1 := ext_new (h := h) (nx := nx) (κ := newCap) (w := w1) (x := .cells c (some size)) (ob := .cells (l ++ rest).toArray e) hd hroom ⟨_, _, rfl, by
    refine ⟨by have := hl.1; simp; omega, fun i x hx => ⟨hone x (List.mem_of_getElem? hx), ?_⟩⟩
    obtain ⟨x', p1, p2⟩ := hl.get hx
    have hi := (List.getElem?_eq_some_iff.1 p1).1
    exact ⟨x', by simp only [List.getElem?_toArray]; rw [List.getElem?_append_left hi]; exact p1, p2.mono (Ren.le_add hd _ _)⟩, fun sz hsz => by
    cases hsz
    have hl1 := hl.1
    have : newCap * size = need * size + (newCap - need) * size := by rw [← Nat.add_mul]; congr 1; omega
    simp [Ren.add]
    omega⟩
  rw [hw] at e1
  exact ⟨e1.le, e1.nxle, e1.top, by have := e1.size; rw [hw] at this; exact this, e1.os.trans h1, e1.tape.trans h2, e1.output.trans h3, fun r b hb => by have := e1.dom r b hb; rw [hw] at this; exact this,
    fun b hb hm => by rw [← hw]; exact e1.kept b (by rw [hw]; exact hb) hm, e1.hsame, e1.rows, e1.inj, e1.mlive, e1.mdom⟩
omit [Lo] in
theorem append_in_run {c : Call} {t u e : TypeId} {i k j : TI} (hc0 : c.argTypes[0]? = some t) (hc1 : c.argTypes[1]? = some u) (hi : ty P t = some i) (hk : ty P u = some k) (hde : i.desc = .slice e) {e2 : TypeId} (hdk : k.desc = .slice e2)
    (hj : ty P e = some j) (ot : TypeId) (w w' : World) {base base2 : Option Addr} {sLen sCap n cap2 : Nat} {new' : List Value}
    (hneed : sLen + n ≤ sCap) (hnew : (Builtin.firstCells j.size n (.slice base2 n cap2)).run P w = .ok new'.toArray w) (hst : ∀ a, base = some a → (storeCells (a.add (sLen * j.size)) new').run P w = .ok () w') (hst0 : base = none → w' = w) :
    (Builtin.append_ c.argTypes ot #[.slice base sLen sCap, .slice base2 n cap2]).run P w = .ok (.slice base (sLen + n) sCap) w' := by
  unfold Builtin.append_
  simp only [hc0, hc1, List.getElem?_toArray, List.getElem?_cons_zero, List.getElem?_cons_succ]
  simp only [Sem.run_bind, run_under hi, hde, Result.andThen_ok, run_sizeOf' hj, run_under hk, hdk, Sem.run_pure, Bool.false_eq_true, if_false, Builtin.lenOf, hneed, Bool.not_false, if_true, hnew]
  cases base with
  | none => rw [hst0 rfl]; rfl
  | some a =>
    simp only [Sem.run_bind, hst a rfl, Result.andThen_ok, Sem.run_pure]
omit [Lo] in
theorem capOk_loose {R : Ren} {r c' : Nat} (h : capOk R r SENT c') : c' = R.cap r := by
  rcases h with ⟨h1, _⟩ | ⟨_, _, h3⟩
  · exact absurd h1 (by decide)
  · simpa using h3
theorem splice_row {R : Ren} {c c1 l : List Value} {cs : Array Value} {l' : List Value} {b off : Nat} {et : TypeId} {w : World} (h2 : w.heap[b]? = some (.cells cs et (0, 0))) (h3 : CelR R c cs) (hsp : splice c off l = some c1) (hl : l ≠ [])
    (l1 : VL R l l') (l2 : ∀ x, x ∈ l → x.oneCell' = true) (l3 : ∀ x, x ∈ l' → x.oneCell' = true) :
    ∃ cs', (storeCells ⟨b, off, none⟩ l').run P w = .ok () (w.setRow b cs') ∧ CelR R c1 cs' ∧ cs'.size = cs.size ∧ c1.length = c.length := by
  obtain ⟨s1, s2, s3⟩ := splice_eq hsp
  have s1' : off + l.length ≤ c.length := s1.resolve_left hl
  have hll := l1.1
  have hfit : off + 0 + l'.length ≤ cs.size := by have := h3.1; omega
  have hst := run_storeCells_at (P := P) b off et l' 0 cs w h2 hfit l3
  refine ⟨_, hst, ⟨by have := h3.1; simp at hfit ⊢; omega, fun k q hq => ?_⟩, by simp at hfit ⊢; omega, s2⟩
  rw [s3] at hq
  simp only [Nat.add_zero, List.getElem?_toArray]
  have hfit' : off + l'.length ≤ cs.toList.length := by simpa using hfit
  split at hq
  · rename_i hk
    obtain ⟨q', p1, p2⟩ := l1.get hq
    refine ⟨l2 q (List.mem_of_getElem? hq), q', ?_, p2⟩
    rw [List.append_assoc, List.getElem?_append_right (by simp; omega)]
    have e1 : k - (cs.toList.take off).length = k - off := by simp; omega
    rw [e1, List.getElem?_append_left (by omega)]
    exact p1
  · rename_i hk
    obtain ⟨q1, q', p1, p2⟩ := h3.2 k q hq
    refine ⟨q1, q', ?_, p2⟩
    by_cases hlt : k < off
    · rw [List.append_assoc, List.getElem?_append_left (by simp; omega), List.getElem?_take_of_lt hlt]
      simpa using p1
    · rw [List.getElem?_append_right (by simp; omega)]
      rw [List.getElem?_drop]
      have e1 : off + l'.length + (k - (cs.toList.take off ++ l').length) = k := by simp; omega
      rw [e1]
      simpa using p1
theorem grow_row {R : Ren} {c l : List Value} {cs : Array Value} {l' : List Value} {b : Nat} {et : TypeId} {w : World} (h2 : w.heap[b]? = some (.cells cs et (0, 0))) (h3 : CelR R c cs) (hfit : c.length + l.length ≤ cs.size)
    (l1 : VL R l l') (l2 : ∀ x, x ∈ l → x.oneCell' = true) (l3 : ∀ x, x ∈ l' → x.oneCell' = true) :
    ∃ cs', (storeCells ⟨b, c.length, none⟩ l').run P w = .ok () (w.setRow b cs') ∧ CelR R (c ++ l) cs' ∧ cs'.size = cs.size := by
  have hll := l1.1
  have hst := run_storeCells_at (P := P) b c.length et l' 0 cs w h2 (by omega) l3
  have hfit' : c.length + l'.length ≤ cs.toList.length := by simp; omega
  refine ⟨_, hst, ⟨by simp at hfit' ⊢; omega, fun k q hq => ?_⟩, by simp at hfit' ⊢; omega⟩
  simp only [Nat.add_zero, List.getElem?_toArray]
  by_cases hk : k < c.length
  · rw [List.getElem?_append_left hk] at hq
    obtain ⟨q1, q', p1, p2⟩ := h3.2 k q hq
    refine ⟨q1, q', ?_, p2⟩
    rw [List.append_assoc, List.getElem?_append_left (by simp; omega), List.getElem?_take_of_lt hk]
    simpa using p1
  · rw [List.getElem?_append_right (by omega)] at hq
    obtain ⟨q', p1, p2⟩ := l1.get hq
    refine ⟨l2 q (List.mem_of_getElem? hq), q', ?_, p2⟩
    have hkl := (List.getElem?_eq_some_iff.1 p1).1
    rw [List.append_assoc, List.getElem?_append_right (by simp; omega)]
    have e1 : k - (cs.toList.take c.length).length = k - c.length := by simp; omega
    rw [e1, List.getElem?_append_left (by omega)]
    exact p1
theorem one_of_vl {R : Ren} {l l' : List Value} (h : VL R l l') (h1 : ∀ x, x ∈ l → x.oneCell' = true) : ∀ x, x ∈ l' → x.oneCell' = true := fun x hx => by
  obtain ⟨i, hi⟩ := List.mem_iff_getElem?.1 hx
  have hl : i < l.length := by rw [h.1]; exact (List.getElem?_eq_some_iff.1 hi).1
  rw [(h.2 i l[i] x (List.getElem?_eq_getElem hl) hi).oneCell]
  exact h1 _ (List.getElem_mem hl)
theorem grow_ext {R : Ren} {h : Hp} {nx r b κ : Nat} {w w' : World} {x y : Row} {ob : Obj} (hd : Dom R nx) (hroom : nx ≤ nx) (hb : R.blk r = some b) (hx : hget h r = some x) (hxn : x ≠ .dead ∧ ∀ c, x ≠ .ro c) (hrow : RowO (R.add nx b κ) nx y ob) (hbw : b < w.heap.size)
    (hs : w'.heap.size = w.heap.size) (h1 : w'.os = w.os) (h2 : w'.tape = w.tape) (h3 : w'.output = w.output) (hob : w'.heap[b]? = some ob) (hother : ∀ k, k ≠ b → w'.heap[k]? = w.heap[k]?) :
    Ext R (R.add nx b κ) h (hset (hset h r .dead) nx y) nx (nx + 1) [r] w w' := by
  have hrn := hd.2 r b hb
  have hg : ∀ s, s ≤ s → hget (hset (hset h r .dead) nx y) s = if s = nx then some y else if s = r then some .dead else hget h s := fun s hs => by
    rw [hget_hset hroom hs, hget_hset (by omega) hs]
  have e : ∀ q b', nx ≤ q → (R.add nx b κ).blk q = some b' → q = nx ∧ b' = b := fun q b' hq hqb => by
    by_cases hqn : q = nx
    · subst hqn; simp [Ren.add] at hqb; exact ⟨rfl, hqb.symm⟩
    · simp [Ren.add, hqn] at hqb
      have := hd.2 q b' hqb; omega
  refine ⟨Ren.le_add hd _ _, Nat.le_succ _, Nat.le_refl _, by omega, h1, h2, h3, fun q b' hq => ?_, fun k _ hm => hother k (fun e => hm r (by simp) (e ▸ hb)), fun s hs' hm => ?_, fun q b' z hr hqb hz hn => ?_, fun s t b' hs' ht' hsb htb _ _ => by rw [(e s b' hs' hsb).1, (e t b' ht' htb).1], fun m hm => ?_, fun m hm => (by simp at hm; subst hm; exact ⟨b, hb⟩)⟩
  · by_cases hqn : q = nx
    · subst hqn
      have := (e q b' (Nat.le_refl _) hq).2
      subst this
      refine .inr ⟨Nat.le_refl _, Nat.lt_succ_self _, by omega, .inr ⟨r, by simp, hb, fun hl => ?_⟩⟩
      obtain ⟨z, p1, p2⟩ := hl
      rw [hg r (by omega), if_neg (by omega), if_pos rfl] at p1
      cases p1
      exact p2 rfl
    · simp [Ren.add, hqn] at hq
      exact .inl hq
  · simp at hm
    rw [hg s (by omega), if_neg (by omega), if_neg hm]
  · by_cases hqn : q = nx
    · subst hqn
      have := (e q b' (Nat.le_refl _) hqb).2
      subst this
      rw [hg q hroom, if_pos rfl] at hz
      cases hz
      exact ⟨ob, hob, hrow⟩
    · rcases hr with hr | hr
      · exact absurd (e q b' hr hqb).1 hqn
      · simp at hr
        subst hr
        rw [hg q (by omega), if_neg hqn, if_pos rfl] at hz
        cases hz
        exact absurd rfl hn
  · simp at hm
    subst hm
    exact ⟨hrn, x, hx, hxn⟩
theorem append_ok {c : Call} {t u : TypeId} {s x : Operand} {i k j : TI} {e e2 : TypeId} {z : Value} {gs gx : OpV} (ho : o.op = .call c) (hb : c.callee = .builtin .append) (hc0 : c.argTypes[0]? = some t) (hc1 : c.argTypes[1]? = some u) (ha : c.args = #[s, x])
    (hi : ty P t = some i) (hk : ty P u = some k) (hde : i.desc = .slice e) (hdk : k.desc = .slice e2) (hj : ty P e = some j) (hz : j.zero = some z) (hzs : z.cells.size = j.size) (hb1 : j.bytes ≤ 65536) (hs1 : 1 ≤ j.size)
    (hgs : dX nv s = .mk gs) (hgx : dX nv x = .mk gx) : GeOk P nv o (oAppend j.size gs gx) := by
  intro S R n vs ts a hp nx w F ih hFr hU hd hbnd hF hpre
  have hUU := uses_builtin ho hb hU
  have hss : ∀ t, s = .tmp t → S t := fun t ht => hUU t (by simp [ha, ht])
  have hsx : ∀ t, x = .tmp t → S t := fun t ht => hUU t (by simp [ha, ht])
  obtain ⟨cs, ec⟩ := call_builtin ho hb a
  have hnd : ∀ c, o.op ≠ .defer c := by simp [ho]
  have run : ∀ (r : Value) (w' : World), (Builtin.append_ c.argTypes o.type #[a.eval s, a.eval x]).run P w = .ok r w' → (execOp a.eval o).run P w = .ok (.value r) w' := by
    intro r w' hr
    rw [ec]
    simp only [builtin, ha, List.map_toArray, List.map_cons, List.map_nil]
    rw [Sem.run_bind, hr]
    rfl
  unfold oAppend at hpre ⊢
  split
  · rename_i sv xv hs hx
    rw [hs, hx] at hpre
    simp only at hpre
    have hsv := dX_ok hgs hFr hss hs
    have hxv := dX_ok hgx hFr hsx hx
    split
    · rename_i m new hap
      rw [hap] at hpre
      simp only at hpre
      cases m with
      | zero =>
        replace hpre : OutPre R hp w (sameSl hp nx sv) := hpre
        show OutGoal P F R hp nx w a o (sameSl hp nx sv)
        unfold sameSl at hpre ⊢
        split
        · simp only [OutPre] at hpre
          simp only [OutGoal]
          intro K Q hK
          obtain ⟨new', n1, n2, n3, ⟨b2, c2, n4⟩, n5⟩ := appended_vr (P := P) hpre hxv hap
          have hn0 : new' = [] := by have := n1.1; rw [n3] at this; simp at this; exact List.eq_nil_of_length_eq_zero this.symm
          subst hn0
          generalize hbs : a.eval s = sa at hsv
          cases hsv
          refine wpIn_val hF hnd (run _ _ ?_) (hK R _ _ (Ext.refl R hp nx w hd) (.slice0 0 0))
          rw [hbs, n4]
          exact append_in_run hc0 hc1 hi hk hde hdk hj o.type w w (Nat.le_refl _) (by have := n5 w (fun _ _ => rfl); rw [n4] at this; exact this) (fun _ h => by cases h) (fun _ => rfl)
        · rename_i r off len cap
          simp only [OutPre] at hpre
          simp only [OutGoal]
          intro K Q hK
          obtain ⟨new', n1, n2, n3, ⟨b2, c2, n4⟩, n5⟩ := appended_vr (P := P) hpre hxv hap
          have hn0 : new' = [] := by have := n1.1; rw [n3] at this; simp at this; exact List.eq_nil_of_length_eq_zero this.symm
          subst hn0
          have hsv0 := hsv
          generalize hbs : a.eval s = sa at hsv
          cases hsv with
          | sliceW ad =>
            refine wpIn_val hF hnd (run _ _ ?_) (hK R _ _ (Ext.refl R hp nx w hd) (.sliceW ad))
            rw [hbs, n4]
            exact append_in_run hc0 hc1 hi hk hde hdk hj o.type w w (Nat.le_refl _) (by have := n5 w (fun _ _ => rfl); rw [n4] at this; exact this) (fun _ _ => rfl) (fun _ => rfl)
          | @slice _ b _ _ _ c' hr hlo hc hle =>
            refine wpIn_val hF hnd (run _ _ ?_) (hK R _ _ (Ext.refl R hp nx w hd) (.slice off len hr hlo hc hle))
            rw [hbs, n4]
            exact append_in_run hc0 hc1 hi hk hde hdk hj o.type w w hle (by have := n5 w (fun _ _ => rfl); rw [n4] at this; exact this) (fun _ _ => rfl) (fun _ => rfl)
        · trivial
      | succ m =>
        simp only at hpre ⊢
        cases hroom : room nx with
        | false => trivial
        | true =>
          rw [hroom] at hpre
          simp only at hpre ⊢
          have hlt := room_lt hroom
          unfold appTo at hpre ⊢
          split
          ·
            unfold small at hpre ⊢
            rw [ble_eq'] at hpre ⊢
            by_cases hsm : m + 1 ≤ 65536
            · simp only [hsm, decide_true, appNew, OutPre, OutGoal] at hpre ⊢
              intro K Q hK
              obtain ⟨new', n1, n2, n3, ⟨b2, c2, n4⟩, n5⟩ := appended_vr (P := P) hpre hxv hap
              generalize hbs : a.eval s = sa at hsv
              cases hsv
              obtain ⟨newCap, rest, w1, p1, p2, p3, p4, p5, p6, p7⟩ := append_new_run (P := P) (base := none) (base2 := b2) (sLen := 0) (sCap := 0) (n := m + 1) (cap2 := c2) (old' := []) (new' := new') hc0 hc1 hi hk hde hdk hj hz hzs hb1 o.type w (by omega) (by omega)
                (fun w' hw' => by have := n5 w' hw'; rw [n4] at this; exact this) (fun w' _ => rfl)
              simp only [Nat.zero_add, List.nil_append] at p1 p2 p7
              refine wpIn_val hF hnd (run _ _ (by rw [hbs, n4]; exact p7)) (hK (R.add nx w.heap.size newCap) _ _ (app_ext hd hlt p3 p4 p5 p6 n1 n2 n3 p1 p2) ?_)
              exact .slice 0 (m + 1) (by simp [Ren.add]) (Lo.nz hd.1) (.inr ⟨by decide, Nat.le_refl _, by simp [Ren.add]⟩) p1
            · simp only [hsm, decide_false]; trivial
          · rename_i r off len cap
            simp only at hpre
            split
            · rename_i cc bb hrow
              rw [hrow] at hpre
              simp only [forceN_eq] at hpre ⊢
              unfold small at hpre ⊢
              rw [ble_eq'] at hpre ⊢
              have hadd : Nat.add len (m + 1) = len + (m + 1) := rfl
              rw [hadd] at hpre ⊢
              by_cases hsm : len + (m + 1) ≤ 65536
              · simp only [hsm, decide_true] at hpre ⊢
                generalize hbs : a.eval s = sa at hsv
                cases hsv with
                | sliceW ad =>
                  exfalso
                  have e1 : Nat.blt 0 HALF = true := rfl
                  have e2 : Nat.blt 0 (0 + (m + 1)) = true := by rw [blt_eq]; simp
                  have e3 : takeL (Nat.mul 0 j.size) (dropL off cc) = some [] := by
                    have : Nat.mul 0 j.size = 0 := Nat.zero_mul _
                    rw [this]; exact takeL_zero _
                  rw [e1, e2, e3] at hpre
                  simp only [cond_true, appNew, OutPre] at hpre
                  have := HR.odd hpre _ hrow
                  cases this
                | @slice _ b _ _ _ c' hr hlo hc hle =>
                cases hH : Nat.blt cap HALF with
                | true =>
                  rw [hH] at hpre
                  simp only [cond_true] at hpre ⊢
                  rw [blt_eq] at hH
                  simp only [decide_eq_true_eq] at hH
                  have hcc : c' = cap := by rcases hc with hc | hc
                                            · exact hc.2
                                            · omega
                  subst hcc
                  cases hN : Nat.blt c' (len + (m + 1)) with
                  | true =>
                    rw [hN] at hpre
                    simp only [cond_true] at hpre ⊢
                    rw [blt_eq] at hN
                    simp only [decide_eq_true_eq] at hN
                    split
                    · rename_i old hold
                      rw [hold] at hpre
                      simp only [appNew, OutPre, OutGoal] at hpre ⊢
                      intro K Q hK
                      obtain ⟨new', n1, n2, n3, ⟨b2, c2, n4⟩, n5⟩ := appended_vr (P := P) hpre hxv hap
                      obtain ⟨old', q1, q2, q3, q4⟩ := read_run (P := P) (hpre.at r) hr hlo (show rowL hp r = some cc by unfold rowL; rw [hrow]) hold
                      obtain ⟨newCap, rest, w1, p1, p2, p3, p4, p5, p6, p7⟩ := append_new_run (P := P) (base := some ⟨b, off, none⟩) (base2 := b2) (sLen := len) (sCap := c') (n := m + 1) (cap2 := c2) (old' := old') (new' := new') hc0 hc1 hi hk hde hdk hj hz hzs hb1 o.type w (by omega) hsm
                        (fun w' hw' => by have := n5 w' hw'; rw [n4] at this; exact this) (fun w' hw' => q4 w' (hw' b (hpre.bnd r b hr)))
                      refine wpIn_val hF hnd (run _ _ (by rw [hbs, n4]; exact p7)) (hK (R.add nx w.heap.size newCap) _ _ (app_ext hd hlt p3 p4 p5 p6 (q1.append n1) (fun y hy => by
                        rcases List.mem_append.1 hy with hy | hy
                        · exact q2 y hy
                        · exact n2 y hy) (by rw [List.length_append, q3, n3]; exact (Nat.add_mul len (m + 1) j.size).symm) p1 p2) ?_)
                      exact .slice 0 (len + (m + 1)) (by simp [Ren.add]) (Lo.nz hd.1) (.inr ⟨by decide, Nat.le_refl _, by simp [Ren.add]⟩) p1
                    · trivial
                  | false =>
                    rw [hN] at hpre
                    simp only [cond_false] at hpre ⊢
                    rw [blt_eq] at hN
                    simp only [decide_eq_false_iff_not] at hN
                    split
                    · rename_i c1 hsp
                      rw [hsp] at hpre
                      simp only [OutPre, OutGoal] at hpre ⊢
                      intro K Q hK
                      obtain ⟨new', n1, n2, n3, ⟨b2, c2, n4⟩, n5⟩ := appended_vr (P := P) hpre hxv hap
                      obtain ⟨ob, o1, cs0, et, rfl, o2, o3⟩ := hpre.row r b _ hr hrow (by simp)
                      have hnn : new ≠ [] := fun e => by
                        rw [e] at n3
                        have h0 : 0 < (m + 1) * j.size := Nat.mul_pos (Nat.succ_pos m) hs1
                        have h1 : 0 = (m + 1) * j.size := n3
                        omega
                      obtain ⟨cs1, r1, r2, r3, r4⟩ := splice_row (P := P) o1 o2 hsp hnn n1 n2 (one_of_vl n1 n2)
                      refine wpIn_val hF hnd (run _ (w.setRow b cs1) ?_) (hK R _ _ ?_ (.slice off (len + (m + 1)) hr hlo (.inl ⟨hH, rfl⟩) (by omega)))
                      · rw [hbs, n4]
                        refine append_in_run hc0 hc1 hi hk hde hdk hj o.type w _ (by omega) (by have := n5 w (fun _ _ => rfl); rw [n4] at this; exact this) (fun a ha => ?_) (fun h => by cases h)
                        cases ha
                        rw [add_lit]
                        exact r1
                      · exact ext_wr hd hr hrow (by simp) (y := .cells c1 bb) (ob := .cells cs1 et (0, 0)) ⟨cs1, et, rfl, r2, fun sz hsz => by rw [r3, r4]; exact o3 sz hsz⟩ (by simp) rfl rfl rfl (setRow_heap w b cs0 cs1 et _ o1) (fun k hk => setRow_other w b k cs1 hk)
                    · trivial
                | false =>
                  rw [hH] at hpre
                  simp only [cond_false] at hpre ⊢
                  cases hB : (Nat.beq cap SENT && Nat.beq off 0 && Nat.beq (Nat.mul len j.size) cc.length && szOk bb j.size) with
                  | false => trivial
                  | true =>
                    rw [hB] at hpre
                    simp only [cond_true, appNew, OutPre, OutGoal] at hpre ⊢
                    simp only [Bool.and_eq_true, beq_eq', decide_eq_true_eq] at hB
                    obtain ⟨⟨⟨B1, B2⟩, B3⟩, B4⟩ := hB
                    subst B1 B2
                    replace B3 : len * j.size = cc.length := B3
                    have hbb : bb = some j.size := by
                      cases bb with
                      | none => cases B4
                      | some z => simp only [szOk, beq_eq', decide_eq_true_eq] at B4; rw [B4]
                    subst hbb
                    intro K Q hK
                    have hcc := capOk_loose hc
                    obtain ⟨new', n1, n2, n3, ⟨b2, c2, n4⟩, n5⟩ := appended_vr (P := P) hpre hxv hap
                    obtain ⟨ob, o1, cs0, et, rfl, o2, o3⟩ := hpre.row r b _ hr hrow (by simp)
                    obtain ⟨o4, o5⟩ := o3 j.size rfl
                    rw [← hcc] at o4 o5
                    by_cases hfit : len + (m + 1) ≤ c'
                    · have hfc : cc.length + new.length ≤ cs0.size := by
                        rw [← B3, n3, ← Nat.add_mul]
                        exact Nat.le_trans (Nat.mul_le_mul_right _ hfit) o4
                      obtain ⟨cs1, r1, r2, r3⟩ := grow_row (P := P) o1 o2 hfc n1 n2 (one_of_vl n1 n2)
                      refine wpIn_val hF hnd (run _ (w.setRow b cs1) ?_) (hK (R.add nx b c') _ _ ?_ (VR.slice (r := nx) (b := b) 0 (len + (m + 1)) (by simp [Ren.add]) (Lo.nz hd.1) (.inr ⟨by decide, Nat.le_refl _, by simp [Ren.add]⟩) hfit))
                      · rw [hbs, n4]
                        refine append_in_run hc0 hc1 hi hk hde hdk hj o.type w _ hfit (by have := n5 w (fun _ _ => rfl); rw [n4] at this; exact this) (fun a ha => ?_) (fun h => by cases h)
                        cases ha
                        rw [add_lit, B3, Nat.zero_add]
                        exact r1
                      · exact grow_ext hd hlt hr hrow (by simp) (ob := .cells cs1 et (0, 0)) ⟨cs1, et, rfl, r2.mono (Ren.le_add hd _ _), fun sz hsz => by
                          cases hsz
                          have : (cc ++ new).length = (len + (m + 1)) * j.size := by rw [List.length_append, ← B3, n3]; exact (Nat.add_mul len (m + 1) j.size).symm
                          rw [this, r3]
                          simp only [Ren.add, if_true]
                          exact ⟨o4, Nat.mul_le_mul_right _ hfit⟩⟩ (hpre.bnd r b hr) (by simp) rfl rfl rfl (setRow_heap w b cs0 cs1 et _ o1) (fun k hk => setRow_other w b k cs1 hk)
                    · have hold : takeL (len * j.size) (dropL 0 cc) = some cc := by
                        have : ∀ (l : List Value), takeL l.length l = some l := fun l => by
                          induction l with
                          | nil => rfl
                          | cons y l ih => rw [List.length_cons, takeL_cons, ih]
                        rw [B3, dropL_eq, List.drop_zero]
                        exact this cc
                      obtain ⟨old', q1, q2, q3, q4⟩ := read_run (P := P) (hpre.at r) hr hlo (show rowL hp r = some cc by unfold rowL; rw [hrow]) hold
                      obtain ⟨newCap, rest, w1, p1, p2, p3, p4, p5, p6, p7⟩ := append_new_run (P := P) (base := some ⟨b, 0, none⟩) (base2 := b2) (sLen := len) (sCap := c') (n := m + 1) (cap2 := c2) (old' := old') (new' := new') hc0 hc1 hi hk hde hdk hj hz hzs hb1 o.type w (by omega) hsm
                        (fun w' hw' => by have := n5 w' hw'; rw [n4] at this; exact this) (fun w' hw' => q4 w' (hw' b (hpre.bnd r b hr)))
                      have hkill : Ext R R hp (hset hp r .dead) nx nx [r] w w := ext_wr hd hr hrow (by simp) (y := .dead) (ob := .cells cs0 et (0, 0)) trivial rfl rfl rfl rfl o1 (fun _ _ => rfl)
                      have happ := app_ext (h := hset hp r .dead) (e := e) hd hlt p3 p4 p5 p6 (q1.append n1) (fun y hy => by
                        rcases List.mem_append.1 hy with hy | hy
                        · exact q2 y hy
                        · exact n2 y hy) (by rw [List.length_append, q3, n3]; exact (Nat.add_mul len (m + 1) j.size).symm) p1 p2
                      refine wpIn_val hF hnd (run _ _ (by rw [hbs, n4]; exact p7)) (hK (R.add nx w.heap.size newCap) _ _ (hkill.trans happ hd hpre) ?_)
                      exact .slice 0 (len + (m + 1)) (by simp [Ren.add]) (Lo.nz hd.1) (.inr ⟨by decide, Nat.le_refl _, by simp [Ren.add]⟩) p1
              · simp only [hsm, decide_false]; trivial
            · trivial
          · trivial
    · trivial
  · trivial
end
end Lm
end Go
namespace Go
namespace Lm
variable [Lo]
variable {P : Program}
section
variable {nv : Nat} {o : Oper}
omit [Lo] in
theorem ge2_no {k : OpV → OpV → OpF} {x y : Operand} {f : OpV} : ge2 nv k x y ≠ .pv f := by
  obtain ⟨g, hg⟩ := dX_some nv x
  obtain ⟨e, he⟩ := dX_some nv y
  unfold ge2; rw [hg, he]; simp
inductive CallForm (P : Program) (nv : Nat) (o : Oper) (f : OpF) : Prop where
  | fn (c : Call) (k : FuncId) (l : List OpV) (ho : o.op = .call c) (hc : c.callee = .value (.func k)) (hl : dXs nv c.args.toList = .mk l) (hb : hasBody P k = true) (hf : f = oCallF k l)
  | val (c : Call) (x : Operand) (g : OpV) (l : List OpV) (ho : o.op = .call c) (hc : c.callee = .value x) (hg : dX nv x = .mk g) (hl : dXs nv c.args.toList = .mk l) (hf : f = oCallV g l)
omit [Lo] in
theorem dXs_some (nv : Nat) (l : List Operand) : ∃ m, dXs nv l = .mk m := by
  cases h : dXs nv l with
  | mk m => exact ⟨m, rfl⟩
omit [Lo] in
theorem dXs_two {l : List Operand} {f g : OpV} (h : dXs nv l = .mk [f, g]) : ∃ x y, l = [x, y] ∧ dX nv x = .mk f ∧ dX nv y = .mk g := by
  cases l with
  | nil => cases h
  | cons x l =>
    obtain ⟨fx, hx⟩ := dX_some nv x
    have e : dXs nv (x :: l) = match dX nv x, dXs nv l with | .mk f, .mk l => .mk (f :: l) := rfl
    rw [e, hx] at h
    cases l with
    | nil => cases h
    | cons y l =>
      obtain ⟨fy, hy⟩ := dX_some nv y
      have e2 : dXs nv (y :: l) = match dX nv y, dXs nv l with | .mk f, .mk l => .mk (f :: l) := rfl
      rw [e2, hy] at h
      cases l with
      | nil => cases h; exact ⟨x, y, rfl, hx, hy⟩
      | cons w l =>
        obtain ⟨fw, hw⟩ := dX_some nv w
        obtain ⟨m, hm⟩ := dXs_some nv l
        have e3 : dXs nv (w :: l) = match dX nv w, dXs nv l with | .mk f, .mk l => .mk (f :: l) := rfl
        rw [e3, hw, hm] at h
        cases h
omit [Lo] in
theorem dXs_one {l : List Operand} {f : OpV} (h : dXs nv l = .mk [f]) : ∃ x, l = [x] ∧ dX nv x = .mk f := by
  cases l with
  | nil => cases h
  | cons x l =>
    obtain ⟨fx, hx⟩ := dX_some nv x
    have e : dXs nv (x :: l) = match dX nv x, dXs nv l with | .mk f, .mk l => .mk (f :: l) := rfl
    rw [e, hx] at h
    cases l with
    | nil => cases h; exact ⟨x, rfl, hx⟩
    | cons y l =>
      obtain ⟨fy, hy⟩ := dX_some nv y
      obtain ⟨m, hm⟩ := dXs_some nv l
      have e2 : dXs nv (y :: l) = match dX nv y, dXs nv l with | .mk f, .mk l => .mk (f :: l) := rfl
      rw [e2, hy, hm] at h
      cases h
omit [Lo] in
theorem arr_of_toList {α : Type} {xs : Array α} {l : List α} (h : xs.toList = l) : xs = l.toArray := by
  apply Array.ext'; simp [h]
theorem call_pv {c : Call} {f : OpV} (ho : o.op = .call c) (h : dCall P nv c = .pv f) : PvOk P nv o f := by
  unfold dCall at h
  obtain ⟨l, hl⟩ := dXs_some nv c.args.toList
  rw [hl] at h
  simp only at h
  split at h
  · rename_i b hc
    unfold dBuiltin at h
    split at h
    · rename_i x t ts hts
      obtain ⟨y, hy, hx⟩ := dXs_one hl
      have ht : c.argTypes[0]? = some t := by rw [← Array.getElem?_toList, hts]; rfl
      split at h
      · rename_i i hi
        split at h
        · rename_i e hd; cases h; exact @len_ok _ P nv o _ c t y ho hc ht (arr_of_toList hy) i hi _ hx (.inl ⟨e, hd, rfl⟩)
        · rename_i hd; cases h; exact @len_ok _ P nv o _ c t y ho hc ht (arr_of_toList hy) i hi _ hx (.inr (.inl ⟨hd, rfl⟩))
        · rename_i n e hd; cases h; exact @len_ok _ P nv o _ c t y ho hc ht (arr_of_toList hy) i hi _ hx (.inr (.inr ⟨n, e, hd, rfl⟩))
        · cases h
        · cases h
      · cases h
    · split at h
      · split at h
        · split at h
          · split at h
            · rw [Bool.cond_eq_ite] at h
              split at h <;> cases h
            · cases h
          · cases h
        · cases h
      · cases h
    · cases h; exact minmax_ok ho hc (.inl rfl) hl rfl
    · cases h; exact minmax_ok ho hc (.inr rfl) hl rfl
    · cases h
  · rename_i fid hc
    cases hb : hasBody P fid with
    | false => rw [hb] at h; cases h
    | true => rw [hb] at h; cases h
  · rename_i x _ hc
    obtain ⟨g, hg⟩ := dX_some nv x
    rw [hg] at h
    cases h
  · cases h
theorem dOp_pv {f : OpV} (h : dOp P nv o.op = .pv f) : PvOk P nv o f := by
  cases ho : o.op <;> rw [ho] at h <;> simp only [dOp] at h <;> first
    | (cases h; done)
    | exact move_ok (.inl ho) h
    | exact move_ok (.inr ho) h
    | exact pick_ok ho h
    | exact bin_ok ho h
    | exact un_ok ho h
    | exact conv_ok ho h
    | exact extract_ok ho h
    | exact nil_ok ho h
    | exact field_ok ho h
    | exact fieldAddr_ok ho h
    | exact indexAddr_ok ho h
    | exact index_ok ho h
    | exact makeFunc_ok ho h
    | exact build_ok ho h
    | exact slice_ok ho h
    | exact call_pv ho h
    | skip
  case alloc => unfold dAlloc at h; (repeat' (first | split at h | (rw [Bool.cond_eq_ite] at h; split at h))); all_goals (cases h)
  case buildSlice => unfold dBuildSlice at h; (repeat' (first | split at h | (rw [Bool.cond_eq_ite] at h; split at h))); all_goals (cases h)
  case load => unfold dLoad at h; (repeat' (first | split at h | (rw [Bool.cond_eq_ite] at h; split at h))); all_goals (cases h)
  case store => unfold dStore at h; (repeat' (first | split at h | (rw [Bool.cond_eq_ite] at h; split at h))); all_goals (first | (cases h; done) | exact absurd h ge2_no)
  case makeMap t r => cases r <;> cases h
  case makeSlice => unfold dMakeSlice at h; (repeat' (first | split at h | (rw [Bool.cond_eq_ite] at h; split at h))); all_goals (first | (cases h; done) | exact absurd h ge2_no)
omit [Lo] in
theorem pv1_no {k : OpV → OpV} {x : Operand} : (∀ f, pv1 nv k x ≠ .ge f) ∧ ∀ f, pv1 nv k x ≠ .ld f := by
  obtain ⟨g, hg⟩ := dX_some nv x
  unfold pv1; rw [hg]; exact ⟨fun f => by simp, fun f => by simp⟩
omit [Lo] in
theorem pv2_no {k : OpV → OpV → OpV} {x y : Operand} : (∀ f, pv2 nv k x y ≠ .ge f) ∧ ∀ f, pv2 nv k x y ≠ .ld f := by
  obtain ⟨g, hg⟩ := dX_some nv x
  obtain ⟨e, he⟩ := dX_some nv y
  unfold pv2; rw [hg, he]; exact ⟨fun f => by simp, fun f => by simp⟩
omit [Lo] in
theorem pv3_no {k : OpV → OpV → OpV → OpV} {x y z : Operand} : (∀ f, pv3 nv k x y z ≠ .ge f) ∧ ∀ f, pv3 nv k x y z ≠ .ld f := by
  obtain ⟨g, hg⟩ := dX_some nv x
  obtain ⟨e, he⟩ := dX_some nv y
  obtain ⟨d, hd⟩ := dX_some nv z
  unfold pv3; rw [hg, he, hd]; exact ⟨fun f => by simp, fun f => by simp⟩
omit [Lo] in
theorem ge_ld1 {k : OpV → OpF} {x : Operand} {f : OpL} : ge1 nv k x ≠ .ld f := by
  obtain ⟨g, hg⟩ := dX_some nv x
  unfold ge1; rw [hg]; simp
omit [Lo] in
theorem ge_ld2 {k : OpV → OpV → OpF} {x y : Operand} {f : OpL} : ge2 nv k x y ≠ .ld f := by
  obtain ⟨g, hg⟩ := dX_some nv x
  obtain ⟨e, he⟩ := dX_some nv y
  unfold ge2; rw [hg, he]; simp
theorem call_ge {c : Call} {f : OpF} (ho : o.op = .call c) (h : dCall P nv c = .ge f) : GeOk P nv o f ∨ CallForm P nv o f := by
  unfold dCall at h
  obtain ⟨l, hl⟩ := dXs_some nv c.args.toList
  rw [hl] at h
  simp only at h
  split at h
  · rename_i b hc
    unfold dBuiltin at h
    split at h
    · (repeat' split at h) <;> cases h
    · rename_i s x t u ts hts
      obtain ⟨ys, yx, hy, hs, hx⟩ := dXs_two hl
      have ht : c.argTypes[0]? = some t := by rw [← Array.getElem?_toList, hts]; rfl
      have hu : c.argTypes[1]? = some u := by rw [← Array.getElem?_toList, hts]; rfl
      split at h
      · rename_i i k hi hk
        split at h
        · rename_i e e2 hd hd2
          split at h
          · rename_i j hj
            split at h
            · rename_i z hz
              rw [Bool.cond_eq_ite] at h
              split at h
              · rename_i hcond
                cases h
                simp only [Bool.and_eq_true, ble_eq', beq_eq', decide_eq_true_eq] at hcond
                obtain ⟨⟨⟨q1, q2⟩, q3⟩, q4⟩ := hcond
                exact .inl (append_ok ho hc ht hu (arr_of_toList hy) hi hk hd hd2 hj hz q2 q3 q1 hs hx)
              · cases h
            · cases h
          · cases h
        · cases h
      · cases h
    · cases h
    · cases h
    · cases h
  · rename_i fid hc
    cases hb : hasBody P fid with
    | false => rw [hb] at h; cases h
    | true => rw [hb] at h; cases h; exact .inr (.fn c fid l ho hc hl hb rfl)
  · rename_i x _ hc
    obtain ⟨g, hg⟩ := dX_some nv x
    rw [hg] at h
    cases h
    exact .inr (.val c x g l ho hc hg hl rfl)
  · cases h
theorem dOp_ge {f : OpF} (h : dOp P nv o.op = .ge f) : GeOk P nv o f ∨ CallForm P nv o f := by
  cases ho : o.op <;> rw [ho] at h <;> simp only [dOp] at h <;> first
    | (cases h; done)
    | exact absurd h (pv1_no.1 _)
    | exact absurd h (pv2_no.1 _)
    | exact absurd h (pv3_no.1 _)
    | exact .inl (alloc_ok ho h)
    | exact .inl (box_ok ho h)
    | exact .inl (buildSlice_ok ho h)
    | exact .inl (store_ok ho h)
    | exact .inl (makeSlice_ok ho h)
    | exact call_ge ho h
    | skip
  case build => unfold dBuild at h; (repeat' (first | split at h | (rw [Bool.cond_eq_ite] at h; split at h))); all_goals (cases h)
  case load => unfold dLoad at h; (repeat' (first | split at h | (rw [Bool.cond_eq_ite] at h; split at h))); all_goals (cases h)
  case makeFunc => unfold dMakeFunc at h; (repeat' (first | split at h | (rw [Bool.cond_eq_ite] at h; split at h))); all_goals (cases h)
  case makeMap t r => cases r with
    | none => cases h; exact .inl (makeMap_ok ho rfl)
    | some _ => cases h
  case slice => unfold dSlice at h; (repeat' (first | split at h | (rw [Bool.cond_eq_ite] at h; split at h))); all_goals (first | (cases h; done) | exact absurd h (pv1_no.1 _))
  case fieldAddr => unfold dFieldAddr at h; (repeat' (first | split at h | (rw [Bool.cond_eq_ite] at h; split at h))); all_goals (first | (cases h; done) | exact absurd h (pv1_no.1 _))
  case field => unfold dField at h; (repeat' (first | split at h | (rw [Bool.cond_eq_ite] at h; split at h))); all_goals (first | (cases h; done) | exact absurd h (pv1_no.1 _))
  case indexAddr => unfold dIndexAddr at h; (repeat' (first | split at h | (rw [Bool.cond_eq_ite] at h; split at h))); all_goals (first | (cases h; done) | exact absurd h (pv2_no.1 _))
  case index => unfold dIndex at h; (repeat' (first | split at h | (rw [Bool.cond_eq_ite] at h; split at h))); all_goals (first | (cases h; done) | exact absurd h (pv2_no.1 _))
theorem lenMap_ok {c : Call} {t : TypeId} {x : Operand} (ho : o.op = .call c) (hb : c.callee = .builtin .len) (ht : c.argTypes[0]? = some t) (hx : c.args = #[x]) {i : TI} (hi : ty P t = some i) {kt e : TypeId} (hd : i.desc = .map kt e) {g : OpV} (hg : dX nv x = .mk g) : LdOk P nv o (oLenMap g) := by
  intro S R n vs ts a hp w v r hF hU hv hrow
  have hxs : ∀ t, x = .tmp t → S t := fun t h => uses_builtin ho hb hU t (by simp [hx, h])
  unfold oLenMap at hv
  split at hv
  · rename_i r' hu
    split at hv
    · rename_i es ck hr
      cases hv
      have h1 := dX_ok hg hF hxs hu
      generalize hbb : a.eval x = u at h1
      cases h1 with
      | @map _ b hrb =>
        obtain ⟨ob, h2, es', ck', rfl, h3, _⟩ := hrow b _ hrb hr (by simp)
        have hl := h3.len
        refine ⟨_, .int _ _, ?_⟩
        have hget : (getObj b).run P w = .ok (.map es' ck') w := by simp [getObj, Sem.run, h2]
        obtain ⟨cs, ec⟩ := call_builtin ho hb a
        rw [ec]
        simp only [builtin, hx, List.map_toArray, List.map_cons, List.map_nil, hbb]
        have hr2 : (Builtin.len_ c.argTypes o.type #[.map (some b)]).run P w = .ok (goInt es'.size) w := by
          unfold Builtin.len_
          simp only [ht, List.getElem?_toArray, List.getElem?_cons_zero]
          simp only [Sem.run_bind, run_under hi, hd, Result.andThen_ok, hget, Sem.run_pure]
        rw [Sem.run_bind, hr2]
        have : es'.size = es.length := by simpa using hl
        rw [this]
        rfl
    · cases hv
  · cases hv
theorem dOp_ld {f : OpL} (h : dOp P nv o.op = .ld f) : LdOk P nv o f := by
  cases ho : o.op <;> rw [ho] at h <;> simp only [dOp] at h <;> first
    | (cases h; done)
    | exact absurd h (pv1_no.2 _)
    | exact absurd h (pv2_no.2 _)
    | exact absurd h (pv3_no.2 _)
    | exact absurd h ge_ld1
    | exact load_ok ho h
    | skip
  case alloc => unfold dAlloc at h; (repeat' (first | split at h | (rw [Bool.cond_eq_ite] at h; split at h))); all_goals (cases h)
  case build => unfold dBuild at h; (repeat' (first | split at h | (rw [Bool.cond_eq_ite] at h; split at h))); all_goals (cases h)
  case buildSlice => unfold dBuildSlice at h; (repeat' (first | split at h | (rw [Bool.cond_eq_ite] at h; split at h))); all_goals (cases h)
  case store => unfold dStore at h; (repeat' (first | split at h | (rw [Bool.cond_eq_ite] at h; split at h))); all_goals (first | (cases h; done) | exact absurd h ge_ld2)
  case makeFunc => unfold dMakeFunc at h; (repeat' (first | split at h | (rw [Bool.cond_eq_ite] at h; split at h))); all_goals (cases h)
  case makeMap t r => cases r <;> cases h
  case makeSlice => unfold dMakeSlice at h; (repeat' (first | split at h | (rw [Bool.cond_eq_ite] at h; split at h))); all_goals (first | (cases h; done) | exact absurd h ge_ld2)
  case slice => unfold dSlice at h; (repeat' (first | split at h | (rw [Bool.cond_eq_ite] at h; split at h))); all_goals (first | (cases h; done) | exact absurd h (pv1_no.2 _))
  case fieldAddr => unfold dFieldAddr at h; (repeat' (first | split at h | (rw [Bool.cond_eq_ite] at h; split at h))); all_goals (first | (cases h; done) | exact absurd h (pv1_no.2 _))
  case field => unfold dField at h; (repeat' (first | split at h | (rw [Bool.cond_eq_ite] at h; split at h))); all_goals (first | (cases h; done) | exact absurd h (pv1_no.2 _))
  case indexAddr => unfold dIndexAddr at h; (repeat' (first | split at h | (rw [Bool.cond_eq_ite] at h; split at h))); all_goals (first | (cases h; done) | exact absurd h (pv2_no.2 _))
  case index => unfold dIndex at h; (repeat' (first | split at h | (rw [Bool.cond_eq_ite] at h; split at h))); all_goals (first | (cases h; done) | exact absurd h (pv2_no.2 _))
  case call c =>
    unfold dCall at h
    obtain ⟨l, hl⟩ := dXs_some nv c.args.toList
    rw [hl] at h
    simp only at h
    split at h
    · rename_i b hc
      unfold dBuiltin at h
      split at h
      · rename_i x t ts hts
        obtain ⟨y, hy, hx⟩ := dXs_one hl
        have ht : c.argTypes[0]? = some t := by rw [← Array.getElem?_toList, hts]; rfl
        split at h
        · rename_i i hi
          split at h
          · cases h
          · cases h
          · cases h
          · rename_i kt e hd; cases h; exact @lenMap_ok _ P nv o c t y ho hc ht (arr_of_toList hy) i hi kt e hd _ hx
          · cases h
        · cases h
      all_goals ((repeat' (first | split at h | (rw [Bool.cond_eq_ite] at h; split at h))) <;> cases h)
    · rw [Bool.cond_eq_ite] at h; split at h <;> cases h
    · rename_i x _ hc
      obtain ⟨g, hg⟩ := dX_some nv x
      rw [hg] at h
      cases h
    · cases h
end
end Lm
end Go
namespace Go
namespace Lm
variable [Lo]
variable {P : Program}
theorem VR.undef (R : Ren) : VR R undef undef := .tuple rfl (fun i x x' h => by simp at h)
inductive DR (n0 : Nat) (R : Ren) : List Nat → List Deferred → Prop where
  | nil : DR n0 R [] []
  | cons {d b : Nat} {D : List Nat} {ds : List Deferred} (h : R.blk d = some b) (hn : n0 ≤ d) (t : DR n0 R D ds) : DR n0 R (d :: D) ({ target := .collected b, args := #[] } :: ds)
omit [Lo] in
theorem DR.mono {n0 : Nat} {R S : Ren} (h : R.le S) {D : List Nat} {ds : List Deferred} (k : DR n0 R D ds) : DR n0 S D ds := by
  induction k with
  | nil => exact .nil
  | cons hb hn _ ih => exact .cons (h _ _ hb).1 hn ih
structure Base where
  R : Ren
  h : Hp
  nx : Nat
  w : World
structure Base.Ok (B : Base) : Prop where
  hr : HR B.R B.h B.w
  dom : Dom B.R B.nx
  gl : ∀ g, g < NG → B.R.blk g = some g
def RdOk (R : Ren) (F : Fence) (rd : Option Nat) : Prop := match rd with | none => F.round = none | some l => ∃ b, F.round = some b ∧ R.blk l = some b
omit [Lo] in
theorem RdOk.mono {R S : Ren} (h : R.le S) {F : Fence} {rd : Option Nat} (k : RdOk R F rd) : RdOk S F rd := by
  cases rd with
  | none => exact k
  | some l => obtain ⟨b, h1, h2⟩ := k; exact ⟨b, h1, (h _ _ h2).1⟩
structure St (B : Base) (F : Fence) (nv n : Nat) (R : Ren) (z : Z) (vs : Vs) (ts : Ts) (h : Hp) (nx : Nat) (a : Act) (w : World) : Prop where
  n0 : z.n0 = B.nx
  ext : Ext B.R R B.h h B.nx nx z.log B.w w
  fr : FrOk (fun _ => True) R nv n vs ts a.tmps
  dfr : DR B.nx R z.D a.defers
  rd : RdOk R F z.rd
section
variable {B : Base} {F : Fence} {nv n : Nat}
theorem St.hr (hB : B.Ok) {R z vs ts h nx a w} (s : St B F nv n R z vs ts h nx a w) : HR R h w := s.ext.hr hB.dom hB.hr
theorem St.dom (hB : B.Ok) {R z vs ts h nx a w} (s : St B F nv n R z vs ts h nx a w) : Dom R nx := s.ext.domNew hB.dom
theorem FrOk.mono {S : Nat → Prop} {R R' : Ren} (hle : R.le R') {vs : Vs} {ts : Ts} {tm : Array Value} (h : FrOk S R nv n vs ts tm) : FrOk S R' nv n vs ts tm :=
  ⟨h.size, h.nvle, fun t v a b c => let ⟨v', x, y⟩ := h.var t v a b c; ⟨v', x, y.mono hle⟩, fun t v a b c => let ⟨v', x, y⟩ := h.tmp t v a b c; ⟨v', x, y.mono hle⟩,
    fun g hg => (hle _ _ (h.glob g hg)).1⟩
theorem FrOk.nots {S : Nat → Prop} {R : Ren} {vs : Vs} {ts : Ts} {tm : Array Value} (h : FrOk S R nv n vs ts tm) : FrOk S R nv n vs [] tm :=
  ⟨h.size, h.nvle, h.var, fun t v _ _ c => (by cases c), h.glob⟩
theorem St.nots {R z vs ts h nx a w} (s : St B F nv n R z vs ts h nx a w) : St B F nv n R z vs [] h nx a w := ⟨s.n0, s.ext, s.fr.nots, s.dfr, s.rd⟩
def Good (B : Base) (F : Fence) (nv n : Nat) (Q : Exit → Act → World → Prop) : R → Prop
  | .nor z vs h nx => ∀ R a w, St B F nv n R z vs [] h nx a w → Q .normal a w
  | .exi id z vs h nx => ∀ R a w, St B F nv n R z vs [] h nx a w → Q (.exit id) a w
  | .ret z vs h nx => ∀ R a w, St B F nv n R z vs [] h nx a w → Q .ret a w
  | _ => False
def KS (B : Base) (F : Fence) (nv n : Nat) (ih : Rec) (k : K) (KQ : Act → World → Prop) (Q : Exit → Act → World → Prop) : Prop :=
  ∀ R z vs ts h nx a w, St B F nv n R z vs ts h nx a w → Good B F nv n Q (k ih z vs ts h nx) → KQ a w
theorem ks_nor (ih : Rec) (Q : Exit → Act → World → Prop) : KS B F nv n ih kNor (Q .normal) Q := fun R z vs ts h nx a w s g => g R a w s.nots
omit [Lo] in
theorem dDst_cases {dst : Option Nat} {d : Dst} (h : dDst nv n dst = some d) : (dst = none ∧ d = .no) ∨ ∃ t, dst = some t ∧ t < n ∧ ((nv ≤ t ∧ d = .tmp t) ∨ (t < nv ∧ ∃ s, d = .var s ∧ ∀ v vs, s v vs = Lv.set VD t v vs)) := by
  unfold dDst at h
  cases dst with
  | none => cases h; exact .inl ⟨rfl, rfl⟩
  | some t =>
    simp only [blt_eq] at h
    by_cases h1 : t < n
    · simp only [h1, decide_true] at h
      by_cases h2 : t < nv
      · simp only [h2, decide_true] at h
        obtain ⟨s, hs, hp⟩ := mkSet_eq (α := Value) VD t
        rw [hs] at h
        cases h
        exact .inr ⟨t, rfl, h1, .inr ⟨h2, s, rfl, hp⟩⟩
      · simp only [h2, decide_false] at h
        cases h
        exact .inr ⟨t, rfl, h1, .inl ⟨by omega, rfl⟩⟩
    · simp only [h1, decide_false] at h
      cases h
theorem put_ok {S : Nat → Prop} {dst : Option Nat} {d : Dst} (hd : dDst nv n dst = some d) {R : Ren} {vs : Vs} {ts : Ts} {a : Act} (hF : FrOk S R nv n vs ts a.tmps) {v v' : Value} (hv : VR R v v') :
    (∃ vs' ts', (∀ k ih z h nx, putK d v k ih z vs ts h nx = k ih z vs' ts' h nx) ∧ FrOk S R nv n vs' ts' (a.put dst v').tmps) ∧ (a.put dst v').defers = a.defers := by
  rcases dDst_cases hd with ⟨rfl, rfl⟩ | ⟨t, rfl, ht, ⟨h2, rfl⟩ | ⟨h2, s, rfl, hs⟩⟩
  · exact ⟨⟨vs, ts, fun _ _ _ _ _ => rfl, hF⟩, rfl⟩
  · refine ⟨⟨vs, (t, v) :: ts, fun _ _ _ _ _ => rfl, ⟨by simp [Act.put, hF.size], hF.nvle, fun u x hu hn hx => ?_, fun u x hu hn hx => ?_, hF.glob⟩⟩, rfl⟩
    · obtain ⟨x', h1, h3⟩ := hF.var u x hu hn hx
      exact ⟨x', by simp only [Act.put]; rw [Array.getElem?_setIfInBounds_ne (by omega)]; exact h1, h3⟩
    · rw [find_cons] at hx
      by_cases e : t = u
      · subst e
        simp only [if_true] at hx
        cases hx
        exact ⟨v', by simp [Act.put, hF.size, ht], hv⟩
      · simp only [e, if_false] at hx
        obtain ⟨x', h1, h3⟩ := hF.tmp u x hu hn hx
        exact ⟨x', by simp only [Act.put]; rw [Array.getElem?_setIfInBounds_ne e]; exact h1, h3⟩
  · refine ⟨⟨s v vs, ts, fun _ _ _ _ _ => rfl, ⟨by simp [Act.put, hF.size], hF.nvle, fun u x hu hn hx => ?_, fun u x hu hn hx => ?_, hF.glob⟩⟩, rfl⟩
    · have := hF.nvle
      have hvd : (2 : Nat) ^ VD = 64 := rfl
      rw [hs, Lv.get_set VD t u v vs (by omega) (by omega)] at hx
      by_cases e : u = t
      · subst e
        simp only [if_true] at hx
        cases hx
        exact ⟨v', by simp [Act.put, hF.size, ht], hv⟩
      · simp only [e, if_false] at hx
        obtain ⟨x', h1, h3⟩ := hF.var u x hu hn hx
        exact ⟨x', by simp only [Act.put]; rw [Array.getElem?_setIfInBounds_ne (fun q => e q.symm)]; exact h1, h3⟩
    · obtain ⟨x', h1, h3⟩ := hF.tmp u x hu hn hx
      exact ⟨x', by simp only [Act.put]; rw [Array.getElem?_setIfInBounds_ne (by omega)]; exact h1, h3⟩
theorem St.put {R z vs ts h nx a w} (s : St B F nv n R z vs ts h nx a w) {dst : Option Nat} {d : Dst} (hd : dDst nv n dst = some d) {v v' : Value} (hv : VR R v v') :
    ∃ vs' ts', (∀ k ih z h nx, putK d v k ih z vs ts h nx = k ih z vs' ts' h nx) ∧ St B F nv n R z vs' ts' h nx (a.put dst v') w := by
  obtain ⟨⟨vs', ts', h1, h2⟩, h3⟩ := put_ok hd s.fr hv
  exact ⟨vs', ts', h1, s.n0, s.ext, h2, by rw [h3]; exact s.dfr, s.rd⟩
theorem St.step (hB : B.Ok) {R R' z vs ts h h' nx nx' a w w' M} (s : St B F nv n R z vs ts h nx a w) (e : Ext R R' h h' nx nx' M w w') : St B F nv n R' (logZ z M) vs ts h' nx' a w' :=
  ⟨s.n0, by have := s.ext.trans e hB.dom hB.hr; rw [← s.n0] at this; simpa [logZ, s.n0] using this, s.fr.mono e.le, s.dfr.mono e.le, s.rd.mono e.le⟩
theorem St.step0 (hB : B.Ok) {R R' z vs ts h h' nx nx' a w w'} (s : St B F nv n R z vs ts h nx a w) (e : Ext R R' h h' nx nx' [] w w') : St B F nv n R' z vs ts h' nx' a w' := s.step hB e
theorem KS.put {ih : Rec} {k : K} {KQ Q} (hk : KS B F nv n ih k KQ Q) {R z vs ts h nx a w} (s : St B F nv n R z vs ts h nx a w) {dst : Option Nat} {d : Dst} (hd : dDst nv n dst = some d) {v v' : Value} (hv : VR R v v')
    (g : Good B F nv n Q (putK d v k ih z vs ts h nx)) : KQ (a.put dst v') w := by
  obtain ⟨vs', ts', h1, h2⟩ := s.put hd hv
  rw [h1] at g
  exact hk _ _ _ _ _ _ _ _ h2 g
def GeI (P : Program) (nv : Nat) (o : Oper) (f : OpF) (ih : Rec) : Prop :=
  ∀ {S : Nat → Prop} {R : Ren} {n : Nat} {vs : Vs} {ts : Ts} {a : Act} {h : Hp} {nx : Nat} {w : World} {F : Fence}, FrOk S R nv n vs ts a.tmps → Uses o S → Dom R nx → (∀ r b, R.blk r = some b → b < w.heap.size) → Wd F →
    OutPre R h w (f ih vs ts h nx) → OutGoal P F R h nx w a o (f ih vs ts h nx)
theorem outPre_hr {R : Ren} {h : Hp} {w : World} (hh : HR R h w) (o : Out) : OutPre R h w o := by
  cases o <;> first | trivial | exact hh.at _ | exact hh
def AllGe (P : Program) (ih : Rec) : Prop := ∀ nv o f, dOp P nv o.op = .ge f → GeI P nv o f ih
omit [Lo] in
theorem no_defer {o : Oper} (h : dOp P nv o.op ≠ .bad) : ∀ c, o.op ≠ .defer c := fun c hc => h (by rw [hc]; rfl)
theorem stepW_ok (hB : B.Ok) (hF : Wd F) {ih : Rec} (hge : AllGe P ih) {o : Oper} {d : Dst} (hd : dDst nv n o.dst = some d) {k s : K} (h : stepW d (dOp P nv o.op) k = .mk s) {KQ : Act → World → Prop} {Q Q' : Exit → Act → World → Prop}
    (hk : KS B F nv n ih k KQ Q) : KS B F nv n ih s (fun a w => o.wpIn F 0 P a w KQ Q') Q := by
  intro R z vs ts hp nx a w st g
  have hnd : ∀ c, o.op ≠ .defer c := no_defer (nv := nv) (P := P) (fun e => by rw [e] at h; unfold stepW at h; cases h)
  cases ho : dOp P nv o.op with
  | bad => rw [ho] at h; cases d <;> cases h
  | pv f =>
    rw [ho] at h
    have hpv : PvOk P nv o f := dOp_pv ho
    have fin : ∀ v, f vs ts = some v → Good B F nv n Q (putK d v k ih z vs ts hp nx) → o.wpIn F 0 P a w KQ Q' := fun v hv hg => by
      obtain ⟨v', h1, h2⟩ := hpv (a := a) st.fr (fun _ _ => trivial) hv
      exact wpIn_val hF hnd (h2 w) (hk.put st hd h1 hg)
    cases d with
    | no => cases h
    | var s' =>
      cases h
      unfold vVar at g
      split at g
      · rename_i v hv
        rw [forceLv_eq] at g
        exact fin v hv g
      · exact g.elim
    | tmp t =>
      cases h
      unfold vTmp at g
      split at g
      · rename_i v hv
        exact fin v hv g
      · exact g.elim
  | ld f =>
    rw [ho] at h
    have hpv : LdOk P nv o f := dOp_ld ho
    have fin : ∀ v r, f vs ts hp = .v v r → Good B F nv n Q (putK d v k ih z vs ts hp nx) → o.wpIn F 0 P a w KQ Q' := fun v r hv hg => by
      obtain ⟨v', h1, h2⟩ := hpv (a := a) st.fr (fun _ _ => trivial) hv ((st.hr hB).at r)
      exact wpIn_val hF hnd h2 (hk.put st hd h1 hg)
    cases d with
    | no => cases h
    | var s' =>
      cases h
      unfold lVar at g
      split at g
      · rename_i v r hv
        rw [forceLv_eq] at g
        exact fin v r hv g
      · exact g.elim
    | tmp t =>
      cases h
      unfold lTmp at g
      split at g
      · rename_i v r hv
        exact fin v r hv g
      · exact g.elim
  | ge f =>
    rw [ho] at h
    have hs : s = gAny d f k := by cases d <;> (cases h; rfl)
    subst hs
    have hg := hge nv o f ho (a := a) (F := F) st.fr (fun _ _ => trivial) (st.dom hB) (st.hr hB).bnd hF (outPre_hr (st.hr hB) _)
    unfold gAny at g
    cases hout : f ih vs ts hp nx with
    | bad => rw [hout] at g; exact g.elim
    | pur v => rw [hout] at hg; exact hg.elim
    | rd v r => rw [hout] at hg; exact hg.elim
    | new v h' nx' =>
      rw [hout] at hg g
      simp only [outK, forceLv_eq] at g
      exact hg KQ Q' fun R' v' w' e hv => hk.put (st.step0 hB e) hd hv g
    | wr h' r =>
      rw [hout] at hg g
      simp only [outK, forceLv_eq] at g
      exact hg KQ Q' fun w' e => hk.put (st.step hB e) hd (VR.undef _) g
    | gen v h' nx' M =>
      rw [hout] at hg g
      cases M with
      | nil =>
        simp only [outK] at g
        exact hg KQ Q' fun R' v' w' e hv => hk.put (st.step0 hB e) hd hv g
      | cons r M =>
        simp only [outK, forceLv_eq] at g
        exact hg KQ Q' fun R' v' w' e hv => hk.put (st.step hB e) hd hv g
end
end Lm
end Go
namespace Go
namespace Lm
variable [Lo]
variable {P : Program}
section
variable {B : Base} {F : Fence} {nv n : Nat}
omit [Lo] in
theorem opAt_eq : ∀ (l : List Oper) (i : Nat), opAt l i = l[i]? := by
  intro l
  induction l with
  | nil => intro i; rfl
  | cons o l ih =>
    intro i
    cases i with
    | zero => rfl
    | succ i => exact (ih i).trans (by simp)
theorem dX_tmp {t : Nat} {x : OpV} (h : dX nv (.tmp t) = .mk x) {R : Ren} {vs : Vs} {ts : Ts} {tm : Array Value} {v : Value} (hF : FrOk (fun _ => True) R nv n vs ts tm) (hv : x vs ts = some v) :
    ∃ v', tm[t]? = some v' ∧ VR R v v' := by
  unfold dX at h
  simp only [blt_eq] at h
  by_cases ht : t < nv
  · simp only [ht, decide_true] at h
    unfold dVar at h
    obtain ⟨g, hg, hp⟩ := mkGet_eq (α := Value) VD t
    rw [hg] at h
    cases h
    exact hF.var t v trivial ht (by rw [← hp]; exact hv)
  · simp only [ht, decide_false] at h
    cases h
    exact hF.tmp t v trivial (Nat.le_of_not_lt ht) hv
theorem withG_ok (hF : Wd F) {ih : Rec} {ops : Array Oper} {o : Oper} {d : Dst} (hd : dDst nv n o.dst = some d) {k s f : K} (h : withG nv ops.toList o d k s = .mk f) {KQ : Act → World → Prop} {Q : Exit → Act → World → Prop} {X : Act → World → Prop}
    (hk : KS B F nv n ih k KQ Q) (hs : KS B F nv n ih s X Q) :
    KS B F nv n ih f (fun a w => if Region.wanted o (yielded ops a.tmps) then X a w else (∀ f, o.about P w a.eval = some f → F.fn f) ∧ KQ (a.put o.dst undef) w) Q := by
  intro R z vs ts hp nx a w st g
  unfold withG at h
  unfold Region.wanted
  cases hg : o.guard with
  | none =>
    rw [hg] at h
    cases h
    simp only [if_true]
    exact hs _ _ _ _ _ _ _ _ st g
  | some jb =>
    obtain ⟨j, b⟩ := jb
    rw [hg] at h
    simp only at h ⊢
    unfold gdX at h
    rw [opAt_eq] at h
    split at h
    · rename_i x hx
      cases h
      split at hx
      · rename_i g' hg'
        split at hx
        · rename_i t ht
          have hx' : dX nv (.tmp t) = .mk x := by injection hx
          have hget : ops[j]? = some g' := by rw [← Array.getElem?_toList]; exact hg'
          unfold gd at g
          have sk : Good B F nv n Q (putK d undef k ih z vs ts hp nx) → yielded ops a.tmps j ≠ some b →
              (if (yielded ops a.tmps j == some b) = true then X a w else (∀ f, o.about P w a.eval = some f → F.fn f) ∧ KQ (a.put o.dst undef) w) := fun hgood hy => by
            rw [if_neg (by simpa using hy)]
            exact ⟨fun f _ => hF.1 f, hk.put st hd (VR.undef R) hgood⟩
          split at g
          · rename_i y hy
            obtain ⟨v', h1, h2⟩ := dX_tmp hx' st.fr hy
            cases h2
            have hyl : yielded ops a.tmps j = some y := by simp [yielded, hget, ht, h1]
            by_cases e : y = b
            · subst e
              rw [if_pos (by rw [hyl]; simp)]
              simp only [beq_self_eq_true] at g
              exact hs _ _ _ _ _ _ _ _ st g
            · have e2 : (y == b) = false := by simpa using e
              rw [e2] at g
              exact sk g (by rw [hyl]; simpa using e)
          · rename_i v hne hv
            obtain ⟨v', h1, h2⟩ := dX_tmp hx' st.fr hv
            refine sk g ?_
            intro hy
            simp only [yielded, hget, Option.bind_some, ht, h1] at hy
            split at hy
            · rename_i hb; cases hb
              cases h2
              exact hne _ rfl
            · cases hy
          · exact g.elim
        · cases hx
      · cases hx
    · cases h
theorem dOps_ok (hB : B.Ok) (hF : Wd F) {ih : Rec} (hge : AllGe P ih) {ops : Array Oper} {k : K} {Q Q' : Exit → Act → World → Prop} (hk : KS B F nv n ih k (Q' .normal) Q) :
    ∀ (l : List Oper) {f : K}, dOps P nv n ops.toList k l = .mk f → KS B F nv n ih f (wpListIn F 0 P ops Q' l) Q := by
  intro l
  induction l with
  | nil => intro f h; cases h; exact hk
  | cons o l ihl =>
    intro f h
    have e : dOps P nv n ops.toList k (o :: l) = match dOps P nv n ops.toList k l, dDst nv n o.dst with
      | .mk k, some d => dOne P nv ops.toList o d k
      | _, _ => .bad := rfl
    rw [e] at h
    split at h
    · rename_i k' d hk' hd
      unfold dOne at h
      split at h
      · rename_i s hs
        exact withG_ok hF hd h (ihl hk') (stepW_ok hB hF hge hd hs (ihl hk'))
      · cases h
    · cases h
theorem ks_reg {ih : Rec} {k : K} {KQ Q} (h : KS B F nv n ih k KQ Q) : KS B F nv n ih (kReg k) KQ Q := fun R z vs ts hp nx a w st g => h _ _ _ _ _ _ _ _ st.nots g
omit [Lo] in
theorem then_then {X Y : Act → World → Prop} {Q : Exit → Act → World → Prop} {e : Exit} {a : Act} {w : World} (h : Exit.then X Q e a w) : Exit.then X (Exit.then Y Q) e a w := by
  cases e <;> exact h
omit [Lo] in
theorem wpIn_scope {c : Code} {Q : Exit → Act → World → Prop} {a : Act} {w : World} (h : c.wpIn F 0 P (Exit.noGoto Q) a w) : (Code.scope c).wpIn F 0 P Q a w := by
  intro b k cs hro hb hr
  have st : step P (lone (b.atR a (.code (.scope c) :: k)) cs w) = .next (lone (b.atR a (.code c :: .inScope c :: k)) cs w) := step_lone_go (by simp [stepG, stepG.exec, Frame.atR])
  have st2 : ∀ a₁ w₁, step P (lone (b.atR a₁ (.inScope c :: k)) cs w₁) = .next (lone (b.atR a₁ k) cs w₁) := fun a₁ w₁ => step_lone_go (by simp [stepG, stepG.exec, Frame.atR])
  have h0 : (lone (b.atR a (.code (.scope c) :: k)) cs w).fenced P F := fenced_calm hb hr rfl
  obtain ⟨e, a₁, w₁, hq, harr⟩ := h b (.inScope c :: k) cs hro hb hr
  cases e with
  | normal => exact ⟨.normal, a₁, w₁, hq, .head h0 st (StepsIn.trans harr (.one (fenced_calm hb hr rfl) (st2 _ _)))⟩
  | exit id =>
    have hx : exitTo id (.inScope c :: k) = exitTo id k := by simp [exitTo]
    exact ⟨.exit id, a₁, w₁, hq, fun k' hk => .head h0 st (harr.1 k' (by rw [hx]; exact hk)), fun hr' hk => let ⟨k₁, h1, h2⟩ := harr.2 hr' (by rw [hx]; exact hk); ⟨k₁, h1, .head h0 st h2⟩⟩
  | goto l => exact hq.elim
  | ret => exact ⟨_, a₁, w₁, hq, .of_steps (.one h0 st) harr⟩
  | panic ch => exact ⟨_, a₁, w₁, hq, .of_steps (.one h0 st) harr⟩
  | outgrown => exact ⟨_, a₁, w₁, hq, .of_steps (.one h0 st) harr⟩
omit [Lo] in
theorem wpIn_ext {c : Code} {Q Q' : Exit → Act → World → Prop} {a : Act} {w : World} (h : c.wpIn F 0 P Q a w) (hq : ∀ e a w, Q e a w → Q' e a w) : c.wpIn F 0 P Q' a w := Code.wpIn_mono hq h
theorem Good.mono {Q Q' : Exit → Act → World → Prop} {r : R} (h : Good B F nv n Q r) (hn : ∀ a w, Q .normal a w → Q' .normal a w) (he : ∀ i a w, Q (.exit i) a w → Q' (.exit i) a w) (hr : ∀ a w, Q .ret a w → Q' .ret a w) : Good B F nv n Q' r := by
  cases r with
  | no => exact h
  | nor z vs hp nx => exact fun R a w s => hn a w (h R a w s)
  | exi id z vs hp nx => exact fun R a w s => he id a w (h R a w s)
  | ret z vs hp nx => exact fun R a w s => hr a w (h R a w s)
  | val v hp nx M => exact h
def CodeOk (P : Program) (B : Base) (F : Fence) (nv n : Nat) (ih : Rec) (c : Code) : Prop :=
  ∀ {k f : K} {KQ : Act → World → Prop} {Q : Exit → Act → World → Prop}, dCode P nv n c k = .mk f → KS B F nv n ih k KQ Q → KS B F nv n ih f (fun a w => c.wpIn F 0 P (Exit.then KQ Q) a w) Q
theorem code_region_plain (hB : B.Ok) (hF : Wd F) {ih : Rec} (hge : AllGe P ih) (id : Nat) (ops : Array Oper) : CodeOk P B F nv n ih (.region id ops false) := by
  intro k f KQ Q h hk
  have e : dCode P nv n (.region id ops false) k = w1 kReg (dOps P nv n ops.toList k ops.toList) := rfl
  rw [e] at h
  unfold w1 at h
  split at h
  · rename_i g hg
    cases h
    intro R z vs ts hp nx a w st gd
    exact wpIn_region_list (ks_reg (dOps_ok (Q' := Exit.then KQ Q) hB hF hge hk ops.toList hg) _ _ _ _ _ _ _ _ st gd)
  · cases h
theorem code_seq {ih : Rec} {x y : Code} (hx : CodeOk P B F nv n ih x) (hy : CodeOk P B F nv n ih y) : CodeOk P B F nv n ih (.seq x y) := by
  intro k f KQ Q h hk
  have e : dCode P nv n (.seq x y) k = bindW (dCode P nv n y k) (dCode P nv n x) := rfl
  rw [e] at h
  unfold bindW at h
  split at h
  · rename_i g hg
    intro R z vs ts hp nx a w st gd
    exact wpIn_seq (wpIn_ext (hx h (hy hg hk) _ _ _ _ _ _ _ _ st gd) fun e a w q => then_then q)
  · cases h
theorem code_cond {ih : Rec} {c : Operand} {x y : Code} (hx : CodeOk P B F nv n ih x) (hy : CodeOk P B F nv n ih y) : CodeOk P B F nv n ih (.cond c x y) := by
  intro k f KQ Q h hk
  obtain ⟨g, hg⟩ := dX_some nv c
  have e : dCode P nv n (.cond c x y) k = match dX nv c with | .mk f => w2 (kCond f) (dCode P nv n x k) (dCode P nv n y k) := rfl
  rw [e, hg] at h
  simp only [w2] at h
  split at h
  · rename_i f1 f2 h1 h2
    cases h
    intro R z vs ts hp nx a w st gd
    unfold kCond at gd
    split at gd
    · rename_i t ht
      have hv := dX_ok (a := a) hg st.fr (fun _ _ => trivial) ht
      have hev : a.eval c = .bool t := by generalize a.eval c = q at hv; cases hv; rfl
      refine wpIn_cond hev ?_
      cases t with
      | true => exact hx h1 hk _ _ _ _ _ _ _ _ st gd
      | false => exact hy h2 hk _ _ _ _ _ _ _ _ st gd
    · exact gd.elim
  · cases h
theorem code_block {ih : Rec} {id : Nat} {x : Code} (hx : CodeOk P B F nv n ih x) : CodeOk P B F nv n ih (.block id x) := by
  intro k f KQ Q h hk
  have e : dCode P nv n (.block id x) k = w1 (fun f => kBlock id f k) (dCode P nv n x kNor) := rfl
  rw [e] at h
  unfold w1 at h
  split at h
  · rename_i g hg
    cases h
    intro R z vs ts hp nx a w st gd
    refine wpIn_block ?_
    have key := hx (Q := Exit.inBlock id (Exit.then KQ Q)) hg (ks_nor ih _) R z vs ts hp nx a w st ?_
    · exact wpIn_ext key fun e a w q => by cases e <;> exact q
    · unfold kBlock at gd
      dsimp only at gd
      cases hr : g ih z vs ts hp nx with
      | no => rw [hr] at gd; exact gd
      | val v h1 n1 M => rw [hr] at gd; exact gd
      | nor z1 vs1 h1 n1 => rw [hr] at gd; exact fun R' a' w' s' => hk _ _ _ _ _ _ _ _ s' gd
      | ret z1 vs1 h1 n1 => rw [hr] at gd; exact gd
      | exi j z1 vs1 h1 n1 =>
        rw [hr] at gd
        intro R' a' w' s'
        by_cases e : j = id
        · subst e
          simp only [Nat.beq_refl] at gd
          simp only [Exit.inBlock, if_true]
          exact hk _ _ _ _ _ _ _ _ s' gd
        · have e2 : Nat.beq j id = false := by cases hq : Nat.beq j id with | false => rfl | true => exact absurd (Nat.eq_of_beq_eq_true hq) e
          simp only [e2] at gd
          simp only [Exit.inBlock, e, if_false]
          exact gd R' a' w' s'
  · cases h
theorem code_loop {ih : Rec} {x : Code} (hx : CodeOk P B F nv n ih x) : CodeOk P B F nv n ih (.loop x) := by
  intro k f KQ Q h hk
  have e : dCode P nv n (.loop x) k = w1 kLoop (dCode P nv n x kNor) := rfl
  rw [e] at h
  unfold w1 at h
  split at h
  · rename_i g hg
    cases h
    have key : ∀ (i m : Nat) (R : Ren) z vs hp nx a w, St B F nv n R z vs [] hp nx a w →
        Good B F nv n (fun e a w => match e with | .normal => Code.roundsIn F 0 P x (Exit.then KQ Q) m a w | e => Exit.then KQ Q e a w) (rounds g i ih z vs hp nx) → Code.roundsIn F 0 P x (Exit.then KQ Q) (m + 2 ^ i) a w := by
      intro i
      induction i with
      | zero =>
        intro m R z vs hp nx a w st gd
        show Code.wpIn F 0 P x _ a w
        refine wpIn_ext (hx hg (ks_nor ih _) R z vs [] hp nx a w st gd) fun e a w q => ?_
        cases e <;> exact q
      | succ i ihi =>
        intro m R z vs hp nx a w st gd
        have e2 : rounds g (i + 1) ih z vs hp nx = match rounds g i ih z vs hp nx with
          | .nor z vs h nx => rounds g i ih z vs h nx
          | r => r := rfl
        rw [e2] at gd
        have e3 : m + 2 ^ (i + 1) = (m + 2 ^ i) + 2 ^ i := by rw [Nat.pow_succ]; omega
        rw [e3]
        refine ihi (m + 2 ^ i) R z vs hp nx a w st ?_
        cases hr : rounds g i ih z vs hp nx with
        | no => rw [hr] at gd; exact gd
        | val v h1 n1 M => rw [hr] at gd; exact gd
        | nor z1 vs1 h1 n1 => rw [hr] at gd; exact fun R' a' w' s' => ihi m _ _ _ _ _ _ _ s' gd
        | ret z1 vs1 h1 n1 => rw [hr] at gd; exact gd
        | exi j z1 vs1 h1 n1 => rw [hr] at gd; exact gd
    intro R z vs ts hp nx a w st gd
    refine wpIn_loop_rounds (0 + 2 ^ 62) (key 62 0 R z vs hp nx a w st.nots ?_)
    unfold kLoop at gd
    cases hr : rounds g 62 ih z vs hp nx with
    | no => rw [hr] at gd; exact gd
    | val v h1 n1 M => rw [hr] at gd; exact gd
    | nor z1 vs1 h1 n1 => rw [hr] at gd; exact gd.elim
    | ret z1 vs1 h1 n1 => rw [hr] at gd; exact gd
    | exi j z1 vs1 h1 n1 => rw [hr] at gd; exact gd
  · cases h
theorem code_exit {ih : Rec} (id : Nat) : CodeOk P B F nv n ih (.exit id) := by
  intro k f KQ Q h hk
  cases h
  intro R z vs ts hp nx a w st gd
  exact wpIn_exit (gd R a w st.nots)
theorem code_ret {ih : Rec} : CodeOk P B F nv n ih .ret := by
  intro k f KQ Q h hk
  cases h
  intro R z vs ts hp nx a w st gd
  exact wpIn_ret (gd R a w st.nots)
theorem code_skip {ih : Rec} : CodeOk P B F nv n ih .skip := by
  intro k f KQ Q h hk
  cases h
  intro R z vs ts hp nx a w st gd
  exact wpIn_skip (hk _ _ _ _ _ _ _ _ st gd)
theorem code_label {ih : Rec} (l : Nat) : CodeOk P B F nv n ih (.label l) := by
  intro k f KQ Q h hk
  cases h
  intro R z vs ts hp nx a w st gd
  exact wpIn_label (hk _ _ _ _ _ _ _ _ st gd)
theorem code_scope {ih : Rec} {x : Code} (hx : CodeOk P B F nv n ih x) : CodeOk P B F nv n ih (.scope x) := by
  intro k f KQ Q h hk R z vs ts hp nx a w st gd
  refine wpIn_scope ?_
  have hk' : KS B F nv n ih k KQ (Exit.noGoto Q) := fun R z vs ts hp nx a w st gd => hk _ _ _ _ _ _ _ _ st (gd.mono (fun _ _ q => q) (fun _ _ _ q => q) fun _ _ q => q)
  refine wpIn_ext (hx (k := k) h hk' R z vs ts hp nx a w st (gd.mono (fun _ _ q => q) (fun _ _ _ q => q) fun _ _ q => q)) fun e a w q => ?_
  cases e <;> exact q
end
end Lm
end Go
namespace Go
namespace Lm
variable [Lo]
variable {P : Program}
structure RecOk (P : Program) (ih : Rec) : Prop where
  body : ∀ {f : FuncId} {args : List Value} {h : Hp} {nx : Nat} {v : Value} {h' : Hp} {nx' : Nat} {M : List Nat}, ih (.call f args) h nx = .val v h' nx' M → hasBody P f = true
  call : ∀ {f : FuncId} {args : List Value} {h : Hp} {nx : Nat} {v : Value} {h' : Hp} {nx' : Nat} {M : List Nat}, ih (.call f args) h nx = .val v h' nx' M →
    ∀ {R : Ren} {w : World} {F : Fence} {args' : Array Value}, HR R h w → Dom R nx → (∀ g, g < NG → R.blk g = some g) → Wd F → VL R args args'.toList →
      CallsIn F 0 P f args' w (fun e w' => ∃ v' R', e = .returned v' ∧ VR R' v v' ∧ Ext R R' h h' nx nx' M w w')
  code : ∀ {c : Code} {nv n : Nat} {z : Z} {vs : Vs} {h : Hp} {nx : Nat} {B : Base} {F : Fence} {R : Ren} {a : Act} {w : World} {Q : Exit → Act → World → Prop}, B.Ok → Wd F → St B F nv n R z vs [] h nx a w →
    Good B F nv n Q (ih (.code c nv n z vs) h nx) → c.wpIn F 0 P (Exit.then (Q .normal) Q) a w
theorem Ext.drop {R R' : Ren} {h h' : Hp} {nx nx' : Nat} {w w' : World} (e : Ext R R' h h' nx nx' [] w w') (hd : Dom R nx) : Ext R R h h nx nx [] w w' where
  le := .refl R
  nxle := Nat.le_refl _
  top := Nat.le_refl _
  size := e.size
  os := e.os
  tape := e.tape
  output := e.output
  dom := fun r b hb => .inl hb
  kept := e.kept
  hsame := fun _ _ _ => rfl
  rows := fun r b x hr hb _ _ => by
    rcases hr with hr | hr
    · have := hd.2 r b hb; omega
    · simp at hr
  inj := fun r s b h1 _ h3 _ _ _ => by have := hd.2 r b h3; omega
  mlive := fun m hm => by simp at hm
  mdom := fun m hm => by simp at hm
omit [Lo] in
theorem flat_ground {v : Value} (h : flat v = true) : ground v = true := by cases v <;> first | exact h | (cases h; done)
structure CInv (R : Ren) (h : Hp) (nx : Nat) (w w1 : World) (R1 : Ren) (h1 : Hp) (R2 : Ren) (s : CS) : Prop where
  ext : Ext R R2 h s.h nx s.nx [] w w1
  used : ∀ r b, nx ≤ r → R2.blk r = some b → ∃ q, q ∈ s.used ∧ R1.blk q = some b ∧ nx ≤ q ∧ Live h1 q
omit [Lo] in
theorem nomem_out {l : Nat} {log : List Nat} (h : nomem l log = true) : l ∉ log := by
  induction log with
  | nil => simp
  | cons r log ih =>
    have e : nomem l (r :: log) = Bool.rec (nomem l log) false (Nat.beq r l) := rfl
    rw [e] at h
    cases hr : Nat.beq r l with
    | true => rw [hr] at h; cases h
    | false =>
      rw [hr] at h
      intro hm
      rcases List.mem_cons.1 hm with rfl | hm
      · rw [Nat.beq_refl] at hr; cases hr
      · exact ih h hm
theorem groundL_vl {R : Ren} {c : List Value} {cs : Array Value} (hg : groundL flat c = true) (h : CelR R c cs) (S : Ren) : CelR S c cs := by
  have hf := groundL_all hg
  refine ⟨h.1, fun i x hx => ⟨(h.2 i x hx).1, ?_⟩⟩
  obtain ⟨x', h1, h2⟩ := (h.2 i x hx).2
  have hxf := hf i x hx
  have hgx : ground x = true := flat_ground hxf
  refine ⟨x', h1, ?_⟩
  rw [ground_eq hgx h2]
  exact ground_vr hgx S
theorem cmp1_ok {R R1 R2 : Ren} {h h1 : Hp} {nx n1 : Nat} {w w1 : World} (hd : Dom R nx) (e : Ext R R1 h h1 nx n1 [] w w1) {s s' : CS} (I : CInv R h nx w w1 R1 h1 R2 s) {v v' u : Value} (hv : VR R1 v v') (hc : cmp1 h1 nx v s = some (u, s')) :
    ∃ R3, R2.le R3 ∧ VR R3 u v' ∧ CInv R h nx w w1 R1 h1 R3 s' := by
  unfold cmp1 at hc
  split at hc
  · rename_i r o n c
    rw [blt_eq] at hc
    cases hv with
    | sliceW ad =>
      have hr : Lo.odd < nx := Nat.lt_of_lt_of_le Lo.oddlt hd.1
      simp only [hr, decide_true, cond_true] at hc
      cases hc
      exact ⟨R2, .refl R2, .sliceW ad, I⟩
    | @slice _ bk _ _ _ c' hb hlo hcap hn =>
    by_cases hr : r < nx
    · simp only [hr, decide_true, cond_true] at hc
      cases hc
      have hbR : R.blk r = some bk := by
        rcases e.dom r bk hb with q | ⟨q, _⟩
        · exact q
        · omega
      refine ⟨R2, .refl R2, ?_, I⟩
      have h2 := (I.ext.le r bk hbR)
      refine .slice o n h2.1 hlo ?_ hn
      have h3 := (e.le r bk hbR).2
      rcases hcap with k | ⟨k1, k2, k3⟩
      · exact .inl k
      · exact .inr ⟨k1, k2, by rw [h2.2, ← h3]; exact k3⟩
    · simp only [hr, decide_false, cond_false] at hc
      cases hm : nomem r s.used with
      | false => rw [hm] at hc; cases hc
      | true =>
        rw [hm] at hc
        simp only [cond_true] at hc
        split at hc
        · rename_i cs b hrow
          cases hg : groundL flat cs with
          | false => rw [hg] at hc; cases hc
          | true =>
            rw [hg] at hc
            simp only [cond_true] at hc
            cases hc
            have hd2 := I.ext.domNew hd
            have hlive : Live h1 r := ⟨_, hrow, by simp⟩
            have hle := Ren.le_add hd2 bk (R1.cap r)
            have hnr : nx ≤ r := Nat.le_of_not_lt hr
            have hnx := I.ext.nxle
            obtain ⟨ob, ho1, ho2⟩ := e.rows r bk _ (.inl hnr) hb hrow (by simp)
            have hnew : ∀ q b, (R2.add s.nx bk (R1.cap r)).blk q = some b → (q = s.nx ∧ b = bk) ∨ (q ≠ s.nx ∧ R2.blk q = some b) := fun q b hq => by
              by_cases hqn : q = s.nx
              · subst hqn; simp [Ren.add] at hq; exact .inl ⟨rfl, hq.symm⟩
              · simp [Ren.add, hqn] at hq; exact .inr ⟨hqn, hq⟩
            have hcross : ∀ q, nx ≤ q → R2.blk q = some bk → False := fun q hq hqb => by
              obtain ⟨q0, q1, q2, q3, q4⟩ := I.used q bk hq hqb
              have := (e.inj q0 r bk q3 hnr q2 hb q4 ⟨_, hrow, by simp, fun c => by simp⟩).symm
              subst this
              exact nomem_out hm q1
            have hrowN : RowO (R2.add s.nx bk (R1.cap r)) s.nx (.cells cs b) ob := by
              obtain ⟨cs', et, z1, z2, z3⟩ := ho2
              exact ⟨cs', et, z1, groundL_vl hg z2 _, fun sz hsz => by simpa [Ren.add] using z3 sz hsz⟩
            refine ⟨R2.add s.nx bk (R1.cap r), hle, ?_, ⟨?_, ?_⟩⟩
            · refine .slice o n (by simp [Ren.add]) (by rw [Lo.new _ hd2.1]; exact Nat.zero_le _) ?_ hn
              rcases hcap with k | ⟨k1, k2, k3⟩
              · exact .inl k
              · exact .inr ⟨k1, k2, by simpa [Ren.add] using k3⟩
            · refine ⟨I.ext.le.trans hle, Nat.le_trans hnx (Nat.le_succ _), Nat.le_refl _, I.ext.size, I.ext.os, I.ext.tape, I.ext.output, fun q b' hq => ?_, I.ext.kept, fun q hq hqm => ?_, fun q b' x hq hqb hx hxn => ?_, fun p q b' hp hq hpb hqb lp lq => ?_, fun m hm => (by cases hm), fun m hm => (by cases hm)⟩
              · rcases hnew q b' hq with ⟨rfl, rfl⟩ | ⟨_, hq2⟩
                · rcases e.dom r b' hb with z | ⟨_, _, z3, z4⟩
                  · have := hd.2 r b' z; omega
                  · exact .inr ⟨hnx, Nat.lt_succ_self _, z3, .inl (z4.resolve_right fun ⟨m, hm, _⟩ => by cases hm)⟩
                · rcases I.ext.dom q b' hq2 with z | ⟨z1, z2, z3, z4⟩
                  · exact .inl z
                  · exact .inr ⟨z1, Nat.lt_succ_of_lt z2, z3, .inl (z4.resolve_right fun ⟨m, hm, _⟩ => by cases hm)⟩
              · show hget (hset s.h s.nx (.cells cs b)) q = _
                rw [hget_hset (Nat.le_refl _) (Nat.le_refl _), if_neg (by omega)]
                exact I.ext.hsame q hq hqm
              · rw [hget_hset (Nat.le_refl _) (Nat.le_refl _)] at hx
                rcases hnew q b' hqb with ⟨rfl, rfl⟩ | ⟨hqn, hq2⟩
                · rw [if_pos rfl] at hx
                  cases hx
                  exact ⟨ob, ho1, hrowN⟩
                · rw [if_neg hqn] at hx
                  obtain ⟨o2, y1, y2⟩ := I.ext.rows q b' x hq hq2 hx hxn
                  exact ⟨o2, y1, y2.mono hle hq2⟩
              · have old : ∀ q, q ≠ s.nx → Live (hset s.h s.nx (.cells cs b)) q → Live s.h q := fun q hqn ⟨x, hx, hxn⟩ => by
                  rw [hget_hset (Nat.le_refl _) (Nat.le_refl _), if_neg hqn] at hx
                  exact ⟨x, hx, hxn⟩
                have oldW : ∀ q, q ≠ s.nx → LiveW (hset s.h s.nx (.cells cs b)) q → LiveW s.h q := fun q hqn ⟨x, hx, hxn⟩ => by
                  rw [hget_hset (Nat.le_refl _) (Nat.le_refl _), if_neg hqn] at hx
                  exact ⟨x, hx, hxn⟩
                rcases hnew p b' hpb with ⟨rfl, rfl⟩ | ⟨hpn, hp2⟩ <;> rcases hnew q b' hqb with ⟨rfl, hbb⟩ | ⟨hqn, hq2⟩
                · rfl
                · exact (hcross q hq hq2).elim
                · subst hbb; exact (hcross p hp hp2).elim
                · exact I.ext.inj p q b' hp hq hp2 hq2 (old p hpn lp) (oldW q hqn lq)
            · intro q b' hq hqb
              rcases hnew q b' hqb with ⟨rfl, rfl⟩ | ⟨hqn, hq2⟩
              · exact ⟨r, List.mem_cons_self, hb, hnr, hlive⟩
              · obtain ⟨q0, q1, q2⟩ := I.used q b' hq hq2
                exact ⟨q0, List.mem_cons_of_mem _ q1, q2⟩
        · cases hc
  · cases hg : ground v with
    | false => rw [hg] at hc; cases hc
    | true =>
      rw [hg] at hc
      simp only [cond_true] at hc
      cases hc
      refine ⟨R2, .refl R2, ?_, I⟩
      rw [ground_eq hg hv]
      exact ground_vr hg R2
theorem cmpL_ok {g : Value → CS → Option (Value × CS)} {R R1 : Ren} {h h1 : Hp} {nx : Nat} {w w1 : World}
    (hg : ∀ {R2 : Ren} {s s' : CS} {v v' u : Value}, CInv R h nx w w1 R1 h1 R2 s → VR R1 v v' → g v s = some (u, s') → ∃ R3, R2.le R3 ∧ VR R3 u v' ∧ CInv R h nx w w1 R1 h1 R3 s') :
    ∀ {l l' us : List Value} {R2 : Ren} {s s' : CS}, CInv R h nx w w1 R1 h1 R2 s → VL R1 l l' → cmpL g l s = some (us, s') → ∃ R3, R2.le R3 ∧ VL R3 us l' ∧ CInv R h nx w w1 R1 h1 R3 s' := by
  intro l
  induction l with
  | nil =>
    intro l' us R2 s s' I hv hc
    cases hc
    rw [hv.of_nil]
    exact ⟨R2, .refl R2, .nil R2, I⟩
  | cons v l ih =>
    intro l' us R2 s s' I hv hc
    obtain ⟨v', l', rfl, h1, h2⟩ := hv.of_cons
    unfold cmpL at hc
    split at hc
    · rename_i u s1 hu
      obtain ⟨R3, a1, a2, a3⟩ := hg I h1 hu
      split at hc
      · rename_i us1 s2 hus
        cases hc
        obtain ⟨R4, b1, b2, b3⟩ := ih a3 h2 hus
        exact ⟨R4, a1.trans b1, .cons (a2.mono b1) b2, b3⟩
      · cases hc
    · cases hc
omit [Lo] in
theorem cmp1_one {h1 : Hp} {nx : Nat} {v u : Value} {s s' : CS} (hc : cmp1 h1 nx v s = some (u, s')) (h : v.oneCell' = true) : u.oneCell' = true := by
  unfold cmp1 at hc
  split at hc
  · rw [Bool.cond_eq_ite] at hc
    split at hc
    · cases hc; exact h
    · rw [Bool.cond_eq_ite] at hc
      split at hc
      · split at hc
        · rw [Bool.cond_eq_ite] at hc
          split at hc
          · cases hc; rfl
          · cases hc
        · cases hc
      · cases hc
  · rw [Bool.cond_eq_ite] at hc
    split at hc
    · cases hc; exact h
    · cases hc
omit [Lo] in
theorem cmpL_one {h1 : Hp} {nx : Nat} : ∀ {l us : List Value} {s s' : CS}, cmpL (cmp1 h1 nx) l s = some (us, s') → (∀ x, x ∈ l → x.oneCell' = true) → ∀ x, x ∈ us → x.oneCell' = true := by
  intro l
  induction l with
  | nil => intro us s s' hc _ x hx; cases hc; simp at hx
  | cons v l ih =>
    intro us s s' hc h x hx
    unfold cmpL at hc
    split at hc
    · rename_i u s1 hu
      split at hc
      · rename_i us1 s2 hus
        cases hc
        rcases List.mem_cons.1 hx with rfl | hx
        · exact cmp1_one hu (h v List.mem_cons_self)
        · exact ih hus (fun y hy => h y (List.mem_cons_of_mem _ hy)) x hx
      · cases hc
    · cases hc
theorem cmp2_ok {R R1 R2 : Ren} {h h1 : Hp} {nx n1 : Nat} {w w1 : World} (hd : Dom R nx) (e : Ext R R1 h h1 nx n1 [] w w1) {s s' : CS} {v v' u : Value} (I : CInv R h nx w w1 R1 h1 R2 s) (hv : VR R1 v v') (hc : cmp2 h1 nx v s = some (u, s')) :
    ∃ R3, R2.le R3 ∧ VR R3 u v' ∧ CInv R h nx w w1 R1 h1 R3 s' := by
  unfold cmp2 at hc
  split at hc
  · rename_i cs
    split at hc
    · rename_i l s2 hl
      cases hc
      cases hv with
      | @agg _ cs' hx hxs h1' =>
        obtain ⟨R3, b1, b2, b3⟩ := cmpL_ok (fun I hv hc => cmp1_ok hd e I hv hc) I (VL.of_arr hx hxs) hl
        refine ⟨R3, b1, ?_, b3⟩
        have hone := cmpL_one hl (fun x hx => by
          obtain ⟨i, hi⟩ := List.mem_iff_getElem?.1 hx
          exact h1' i x (by simpa using hi))
        have e2 : (Value.agg cs') = .agg cs'.toList.toArray := by simp
        rw [e2]
        exact .agg b2.arr.1 b2.arr.2 fun i x hx => hone x (List.mem_of_getElem? (by simpa using hx))
    · cases hc
  · exact cmp1_ok hd e I hv hc
theorem cmp3_ok {R R1 : Ren} {h h1 : Hp} {nx n1 : Nat} {w w1 : World} (hd : Dom R nx) (e : Ext R R1 h h1 nx n1 [] w w1) {s' : CS} {v v' u : Value} (hv : VR R1 v v') (hc : cmp3 h1 nx v ⟨h, nx, []⟩ = some (u, s')) :
    ∃ R3, VR R3 u v' ∧ Ext R R3 h s'.h nx s'.nx [] w w1 := by
  have I0 : CInv R h nx w w1 R1 h1 R ⟨h, nx, []⟩ := ⟨e.drop hd, fun r b hr hb => by have := hd.2 r b hb; omega⟩
  unfold cmp3 at hc
  split at hc
  · rename_i cs
    split at hc
    · rename_i l s2 hl
      cases hc
      cases hv with
      | @tuple _ cs' hx hxs =>
        obtain ⟨R3, b1, b2, b3⟩ := cmpL_ok (fun I hv hc => cmp2_ok hd e I hv hc) I0 (VL.of_arr hx hxs) hl
        refine ⟨R3, ?_, b3.ext⟩
        have e2 : (Value.tuple cs') = .tuple cs'.toList.toArray := by simp
        rw [e2]
        exact .tuple b2.arr.1 b2.arr.2
    · cases hc
  · obtain ⟨R3, _, b2, b3⟩ := cmp2_ok hd e I0 hv hc
    exact ⟨R3, b2, b3.ext⟩
def CallOut (P : Program) (F : Fence) (R : Ren) (f : FuncId) (args' : Array Value) (h : Hp) (nx : Nat) (w : World) : Out → Prop
  | .gen v h' nx' M => CallsIn F 0 P f args' w (fun e w' => ∃ v' R', e = .returned v' ∧ VR R' v v' ∧ Ext R R' h h' nx nx' M w w')
  | .bad => True
  | _ => False
theorem callF_ok {ih : Rec} (hr : RecOk P ih) {R : Ren} {w : World} {F : Fence} {f : FuncId} {us : List Value} {args' : Array Value} {h : Hp} {nx : Nat} (hh : HR R h w) (hd : Dom R nx) (hg : ∀ g, g < NG → R.blk g = some g) (hF : Wd F) (hv : VL R us args'.toList) :
    CallOut P F R f args' h nx w (callF f us ih h nx) := by
  unfold callF
  cases e : ih (.call f us) h nx with
  | no => trivial
  | nor z vs h1 n1 => trivial
  | exi id z vs h1 n1 => trivial
  | ret z vs h1 n1 => trivial
  | val v h1 n M =>
    have hc := hr.call e hh hd hg hF hv
    cases M with
    | cons r M => exact hc
    | nil =>
      simp only
      cases hgv : ground v with
      | false =>
        simp only
        split
        · rename_i u s hcmp
          exact hc.mono fun e w' q => by
            obtain ⟨v', R', h1, h2, h3⟩ := q
            obtain ⟨R3, b1, b2⟩ := cmp3_ok hd h3 h2 hcmp
            exact ⟨v', R3, h1, b1, b2⟩
        · exact hc
      | true =>
        exact hc.mono fun e w' q => by
          obtain ⟨v', R', h1, h2, h3⟩ := q
          refine ⟨v', R, h1, ?_, h3.drop hd⟩
          rw [ground_eq hgv h2]
          exact ground_vr hgv R
section
variable {nv : Nat} {o : Oper}
omit [Lo] in
theorem run_callFunc {f : FuncId} (h : hasBody P f = true) (args : Array Value) (w : World) : (callFunc f args).run P w = .ok (.enter f args) w := by
  unfold hasBody at h
  split at h
  · rename_i fn hf
    simp only [Bool.and_eq_true, Bool.not_eq_true'] at h
    have h1 : ¬ fn.name = "runtime.NumGoroutine" := by simpa using h.1
    have h2 : ¬ fn.body = none := fun e => by rw [e] at h; simp at h
    simp [callFunc, go_sem, hf, h1, h2]
  · cases h
theorem VL.app {R : Ren} {l l' m m' : List Value} (h : VL R l l') (k : VL R m m') : VL R (l ++ m) (l' ++ m') := by
  refine ⟨by simp [h.1, k.1], fun i x x' hx hx' => ?_⟩
  by_cases hi : i < l.length
  · rw [List.getElem?_append_left hi] at hx
    rw [List.getElem?_append_left (by rw [← h.1]; exact hi)] at hx'
    exact h.2 i x x' hx hx'
  · rw [List.getElem?_append_right (by omega)] at hx
    rw [List.getElem?_append_right (by rw [← h.1]; omega)] at hx'
    rw [← h.1] at hx'
    exact k.2 _ x x' hx hx'
omit [Lo] in
theorem run_call {c : Call} {x : Operand} {k : FuncId} {xs ys : Array Value} {a : Act} (ho : o.op = .call c) (hc : c.callee = .value x) (hv : a.eval x = .func (.func k) xs ys) (hb : hasBody P k = true) (w : World) :
    (execOp a.eval o).run P w = .ok (.enter k (xs ++ c.args.map a.eval ++ ys)) w := by
  have e : execOp a.eval o = (do let d ← resolve a.eval c o.type; invoke d.target d.args) := by simp only [execOp, ho]
  rw [e]
  simp only [resolve, hc, hv, Deferred.ofValue, invoke, Sem.run_bind, Sem.run_pure, Result.andThen]
  exact run_callFunc hb _ w
theorem enter_ok {F : Fence} (hF : Wd F) {a : Act} {w : World} {k : FuncId} {args' : Array Value} (hnd : ∀ c, o.op ≠ .defer c) (hrun : (execOp a.eval o).run P w = .ok (.enter k args') w) {R : Ren} {h : Hp} {nx : Nat} {out : Out}
    (hout : CallOut P F R k args' h nx w out) : OutGoal P F R h nx w a o out := by
  cases out with
  | bad => trivial
  | pur v => exact hout.elim
  | rd v r => exact hout.elim
  | new v h' nx' => exact hout.elim
  | wr h' r => exact hout.elim
  | gen v h' nx' M =>
    intro K Q hK
    refine ⟨fun f _ => hF.1 f, ?_⟩
    rw [semAt_eq hnd, hrun, Oper.uponIn_enter]
    refine ⟨fun h => (by rw [hF.2] at h; cases h), ?_⟩
    refine CallsIn.mono (n := 0) hout fun e w' q => ?_
    obtain ⟨v', R', h1, h2, h3⟩ := q
    subst h1
    exact hK R' v' w' h3 h2
theorem vl_map {a : Act} {R : Ren} {c : Call} {us : List Value} (h : VL R us (c.args.toList.map a.eval)) : VL R us (c.args.map a.eval).toList := by simpa using h
theorem vl_of_arr {R : Ren} {xs xs' : Array Value} (h : xs.size = xs'.size) (k : ∀ (i : Nat) x x', xs[i]? = some x → xs'[i]? = some x' → VR R x x') : VL R xs.toList xs'.toList :=
  ⟨by simpa using h, fun i x x' hx hx' => k i x x' (by simpa using hx) (by simpa using hx')⟩
def YieldOk (P : Program) (ih : Rec) : Prop := ∀ {R : Ren} {w : World} {F : Fence} {l b : Nat} {us : List Value} {args' : Array Value} {h : Hp} {nx : Nat} {a : Act} {o : Oper}, HR R h w → Dom R nx → (∀ g, g < NG → R.blk g = some g) → Wd F → VL R us args'.toList → R.blk l = some b →
  (∀ c, o.op ≠ .defer c) → (∀ w, (execOp a.eval o).run P w = (Instr.yield b args').run P w) → OutGoal P F R h nx w a o (yieldV l us ih h nx)
omit [Lo] in
theorem callF_form {f : FuncId} {us : List Value} {ih : Rec} {h : Hp} {nx : Nat} : callF f us ih h nx = .bad ∨ ∃ v h' nx' M, callF f us ih h nx = .gen v h' nx' M := by
  unfold callF
  split
  · rename_i v h1 n M _
    cases M with
    | cons r M => exact .inr ⟨_, _, _, _, rfl⟩
    | nil =>
      cases ground v with
      | true => exact .inr ⟨_, _, _, _, rfl⟩
      | false => simp only; split <;> exact .inr ⟨_, _, _, _, rfl⟩
  · exact .inl rfl
omit [Lo] in
theorem yieldV_form {l : Nat} {us : List Value} {ih : Rec} {h : Hp} {nx : Nat} : yieldV l us ih h nx = .bad ∨ ∃ v h' nx' M, yieldV l us ih h nx = .gen v h' nx' M := by
  unfold yieldV
  split
  · split
    · split
      · rename_i log _ _ _ _
        cases nomem l log with
        | false => exact .inl rfl
        | true =>
          simp only
          unfold yieldEnd
          split
          · rename_i log2 _ _ _ _
            cases nomem l log2 with
            | false => exact .inl rfl
            | true => exact .inr ⟨_, _, _, _, rfl⟩
          · rename_i log2 _ _ _ _
            cases nomem l log2 with
            | false => exact .inl rfl
            | true => exact .inr ⟨_, _, _, _, rfl⟩
          · rename_i log2 _ _ _ _
            cases nomem l log2 with
            | false => exact .inl rfl
            | true => exact .inr ⟨_, _, _, _, rfl⟩
          · exact .inl rfl
      · exact .inl rfl
    · exact .inl rfl
  · exact .inl rfl
omit [Lo] in
theorem uses_value {c : Call} {x : Operand} (ho : o.op = .call c) (hb : c.callee = .value x) {S : Nat → Prop} (hU : Uses o S) : (∀ t, Operand.tmp t ∈ c.args.toList → S t) ∧ ∀ t, x = .tmp t → S t := by
  refine ⟨fun t ht => hU t ?_, fun t ht => hU t ?_⟩
  · simp only [ho, Op.operands, Call.operands, hb]
    simp at ht ⊢
    exact .inr ht
  · simp only [ho, Op.operands, Call.operands, hb]
    simp [ht]
theorem call_ge_ok {ih : Rec} (hr : RecOk P ih) (hy : YieldOk P ih) {f : OpF} (h : CallForm P nv o f) : GeI P nv o f ih := by
  intro S R n vs ts a hp nx w F hfr hU hd hbnd hF hpre
  cases h with
  | fn c k l ho hc hl hb hf =>
    subst hf
    have hnd : ∀ c, o.op ≠ .defer c := fun c' hc' => by rw [ho] at hc'; cases hc'
    unfold oCallF at hpre ⊢
    split
    · rename_i us hus
      rw [hus] at hpre
      simp only at hpre
      have hv := vl_map (dXs_ok (a := a) hl hfr (uses_value ho hc hU).1 hus)
      have hrun := run_call (a := a) (k := k) (xs := #[]) (ys := #[]) ho hc rfl hb w
      simp only [Array.empty_append, Array.append_empty] at hrun
      rcases callF_form (f := k) (us := us) (ih := ih) (h := hp) (nx := nx) with e | ⟨v, h', nx', M, e⟩
      · rw [e]; trivial
      · have hh : HR R hp w := by rw [e] at hpre; exact hpre
        exact enter_ok hF hnd hrun (callF_ok hr hh hd hfr.glob hF hv)
    · trivial
  | val c x g l ho hc hg hl hf =>
    subst hf
    have hnd : ∀ c, o.op ≠ .defer c := fun c' hc' => by rw [ho] at hc'; cases hc'
    unfold oCallV at hpre ⊢
    split
    · rename_i k xs ys us hx hus
      rw [hx, hus] at hpre
      simp only at hpre
      have hv := vl_map (dXs_ok (a := a) hl hfr (uses_value ho hc hU).1 hus)
      have hx' := dX_ok (a := a) hg hfr (uses_value ho hc hU).2 hx
      generalize hq : a.eval x = q at hx'
      cases hx' with
      | fn _ h1 h2 h3 h4 =>
        rename_i xs' ys'
        rcases callF_form (f := k) (us := xs.toList ++ us ++ ys.toList) (ih := ih) (h := hp) (nx := nx) with e | ⟨v, h', nx', M, e⟩
        · rw [e]; trivial
        · have hh : HR R hp w := by rw [e] at hpre; exact hpre
          have hb : hasBody P k = true := by
            unfold callF at e
            cases hc2 : ih (.call k (xs.toList ++ us ++ ys.toList)) hp nx with
            | val _ _ _ _ => exact hr.body hc2
            | _ => rw [hc2] at e; cases e
          refine enter_ok hF hnd (run_call ho hc hq hb w) (callF_ok hr hh hd hfr.glob hF ?_)
          simp only [Array.toList_append]
          exact ((vl_of_arr h1 h2).app hv).app (vl_of_arr h3 h4)
    · rename_i l' xs ys us hx hus
      rw [hx, hus] at hpre
      simp only at hpre
      have hv := vl_map (dXs_ok (a := a) hl hfr (uses_value ho hc hU).1 hus)
      have hx' := dX_ok (a := a) hg hfr (uses_value ho hc hU).2 hx
      cases he : (xs.isEmpty && ys.isEmpty) with
      | false => trivial
      | true =>
        rw [he] at hpre
        simp only [cond_true] at hpre ⊢
        generalize hq : a.eval x = q at hx'
        cases hx' with
        | yld hb =>
          rcases yieldV_form (l := l') (us := us) (ih := ih) (h := hp) (nx := nx) with e | ⟨v, h', nx', M, e⟩
          · rw [e]; trivial
          · have hh : HR R hp w := by rw [e] at hpre; exact hpre
            refine hy hh hd hfr.glob hF hv hb hnd fun w => ?_
            have e : execOp a.eval o = (do let d ← resolve a.eval c o.type; invoke d.target d.args) := by simp only [execOp, ho]
            rw [e]
            simp only [resolve, hc, hq, Deferred.ofValue, invoke, Sem.run_bind, Sem.run_pure, Result.andThen, Array.empty_append]
    · trivial
theorem allGe_ok {ih : Rec} (hr : RecOk P ih) (hy : YieldOk P ih) : AllGe P ih := by
  intro nv o f h
  rcases dOp_ge h with hq | hq
  · intro S R n vs ts a hp nx w F hfr hU hd hbnd hF hpre
    exact hq ih hfr hU hd hbnd hF hpre
  · exact call_ge_ok hr hy hq
end
end Lm
end Go
namespace Go
namespace Lm
variable [Lo]
variable {P : Program}
omit [Lo] in
theorem nomem_eq {l : Nat} : ∀ {log : List Nat}, nomem l log = true → l ∉ log := by
  intro log
  induction log with
  | nil => intro _ h; simp at h
  | cons r log ih =>
    intro h hm
    have e : nomem l (r :: log) = Bool.rec (nomem l log) false (Nat.beq r l) := rfl
    rw [e] at h
    cases hb : Nat.beq r l with
    | true => rw [hb] at h; cases h
    | false =>
      rw [hb] at h
      rcases List.mem_cons.1 hm with q | q
      · subst q; simp at hb
      · exact ih h q
omit [Lo] in
theorem logs_one {n0 l : Nat} {log : List Nat} (h : l < n0) : logs n0 [l] log = l :: log := by
  show (Bool.rec log (l :: log) (Nat.blt l n0) : List Nat) = _
  rw [blt_eq]; simp [h]
omit [Lo] in
theorem logs_none {n0 l : Nat} {log : List Nat} (h : n0 ≤ l) : logs n0 [l] log = log := by
  show (Bool.rec log (l :: log) (Nat.blt l n0) : List Nat) = _
  rw [blt_eq]; simp [Nat.not_lt.2 h]
theorem FrV.set {R : Ren} {nv n : Nat} {vs : Vs} {tm : Array Value} (h : FrV R nv n vs tm) {p : Nat} (hp : p < nv) (hn : p < n) {v v' : Value} (hv : VR R v v') : FrV R nv n (Lv.set VD p v vs) (tm.setIfInBounds p v') := by
  refine ⟨by simp [h.1], h.2.1, fun t x ht hx => ?_⟩
  have := h.2.1
  have hvd : (2 : Nat) ^ VD = 64 := rfl
  rw [Lv.get_set VD p t v vs (by omega) (by omega)] at hx
  by_cases e : t = p
  · subst e
    simp only [if_true] at hx
    cases hx
    exact ⟨v', by simp [h.1, hn], hv⟩
  · simp only [e, if_false] at hx
    obtain ⟨x', h1, h3⟩ := h.2.2 t x ht hx
    exact ⟨x', by rw [Array.getElem?_setIfInBounds_ne (fun q => e q.symm)]; exact h1, h3⟩
theorem putAll_ok {R : Ren} {nv n : Nat} : ∀ {ps : List Nat} {us us' : List Value} {vs0 vs : Vs} {tm : Array Value}, putAll nv n ps us vs0 = some vs → VL R us us' → FrV R nv n vs0 tm →
    FrV R nv n vs ((ps.zip us').foldl (fun tm (t, a) => tm.setIfInBounds t a) tm) ∧ us'.length = ps.length := by
  intro ps
  induction ps with
  | nil =>
    intro us us' vs0 vs tm h hv hf
    cases us with
    | nil =>
      cases h
      have : us' = [] := List.length_eq_zero_iff.1 (by have := hv.1; simpa using this.symm)
      subst this
      exact ⟨hf, rfl⟩
    | cons u us => cases h
  | cons p ps ih =>
    intro us us' vs0 vs tm h hv hf
    cases us with
    | nil => cases h
    | cons u us =>
      cases us' with
      | nil => have := hv.1; simp at this
      | cons u' us' =>
        obtain ⟨h1, h2⟩ := hv.tail
        have e : putAll nv n (p :: ps) (u :: us) vs0 = bif Nat.blt p n && Nat.blt p nv then putAll nv n ps us (Lv.set VD p u vs0) else none := rfl
        rw [e, Bool.cond_eq_ite] at h
        split at h
        · rename_i hc
          simp only [Bool.and_eq_true, blt_eq, decide_eq_true_eq] at hc
          obtain ⟨h3, h4⟩ := ih h h2 (hf.set hc.2 hc.1 h1)
          exact ⟨h3, by simp [h4]⟩
        · cases h
theorem FrV.frOk {R : Ren} {nv n : Nat} {vs : Vs} {tm : Array Value} (h : FrV R nv n vs tm) (hg : ∀ g, g < NG → R.blk g = some g) : FrOk (fun _ => True) R nv n vs [] tm :=
  ⟨h.1, h.2.1, fun t v _ ht hv => h.2.2 t v ht hv, fun t v _ _ hv => (by cases hv), hg⟩
theorem FrOk.frV {R : Ren} {nv n : Nat} {vs : Vs} {ts : Ts} {tm : Array Value} (h : FrOk (fun _ => True) R nv n vs ts tm) : FrV R nv n vs tm :=
  ⟨h.size, h.nvle, fun t v ht hv => h.var t v trivial ht hv⟩
theorem loop_turn {R : Ren} {h : Hp} {nx l b : Nat} {w : World} {lp : Loop} {x y : Row} (hd : Dom R nx) (hb : R.blk l = some b) (hx : hget h l = some x) (hxn : x ≠ .dead ∧ ∀ c, x ≠ .ro c) (hob : w.heap[b]? = some (.loop lp)) {lp' : Loop} (hrow : RowO R l y (.loop lp')) :
    Ext R R h (hset h l y) nx nx [l] w (w.putObj b (.loop lp')) :=
  ext_wr hd hb hx hxn hrow World.putObj_size rfl rfl rfl (World.putObj_heap_same (Array.getElem?_eq_some_iff.1 hob).1) fun k hk => World.putObj_heap_other hk
def mkRow (jump : Option Code) (nv n : Nat) (F0 : Vs) (ps : List Nat) (asg body : Code) (d : Nat) : Row := .loop jump.isNone jump nv n F0 ps asg body d
theorem round_end {ih : Rec} {R1 R : Ren} {w w2 : World} {F : Fence} {l b : Nat} {nv n : Nat} {F0 : Vs} {ps : List Nat} {asg body : Code} {d : Nat} {h h1' : Hp} {nx n1 : Nat} {log log2 : List Nat}
    (hh : HR R h w) (hd : Dom R nx) (hb : R.blk l = some b) (hD1 : Dom R1 n1) (hR1 : HR R1 h1' w2) (hb1 : R1.blk l = some b) (hbusy : hget h1' l = some (.loop false none nv n F0 ps asg body d))
    (e2 : Ext R R1 h h1' nx n1 (l :: log) w w2) (hm2 : l ∉ log2)
    {z : Z} {vs : Vs} {h2 : Hp} {n2 : Nat} {R2 : Ren} {a : Act} {w3 : World} (hz : z.log = log2) (st : St ⟨R1, h1', n1, w2⟩ (F.inRound b) nv n R2 z vs [] h2 n2 a w3) (jump : Option Code)
    {X : Ending → World → Prop} (hX : ∀ v' R' w', Ext R R' h (hset h2 l (mkRow jump nv n F0 ps asg body d)) nx n2 (l :: logs nx log2 (l :: log)) w w' → VR R' (.bool jump.isNone) v' → X (.returned v') w') :
    ∃ v w', (Instr.endRound b jump).run P w3 = .ok v w' ∧ X (.returned v) w' := by
  have e3 := st.ext
  rw [hz] at e3
  have hl : l < nx := hd.2 l b hb
  have hl1 : l < n1 := hD1.2 l b hb1
  have hrow2 : hget h2 l = some (.loop false none nv n F0 ps asg body d) := by rw [e3.hsame l hl1 hm2]; exact hbusy
  have hb2 : R2.blk l = some b := (e3.le _ _ hb1).1
  have hD2 := e3.domNew hD1
  obtain ⟨ob, hob, lp, rfl, hst, hpe, hfv, hps, has, hbo, hdf⟩ := (e3.hr hD1 hR1).row l b _ hb2 hrow2 (by simp)
  refine ⟨_, _, run_endRound jump hob, ?_⟩
  have e4 := loop_turn (x := .loop false none nv n F0 ps asg body d) (y := mkRow jump nv n F0 ps asg body d) (lp' := { lp with state := if jump.isNone then .ready else .done, pending := jump }) hD2 hb2 hrow2 (by simp) hob
    ⟨_, rfl, by cases jump <;> rfl, rfl, hfv, hps, has, hbo, hdf⟩
  have := ((e2.trans e3 hd hh).trans e4 hd hh)
  rw [logs_one hl] at this
  exact hX _ R2 _ this (.bool _)
theorem yield_ok {ih : Rec} (hr : RecOk P ih) : YieldOk P ih := by
  intro R w F l b us args' h nx a o hh hd hg hF hv hb hnd hrun
  unfold yieldV
  split
  · rename_i nv n F0 ps asg body d hrow
    obtain ⟨ob, hob, lp, rfl, hst, hpe, hfv, hps, has, hbo, hdf⟩ := hh.row l b _ hb hrow (by simp)
    split
    · rename_i vs hput
      obtain ⟨hfr, hlen⟩ := putAll_ok hput hv hfv
      split
      · rename_i zn zr log vs1 h1 n1 hasg
        cases hm : nomem l log with
        | false => trivial
        | true =>
          have hm1 := nomem_eq hm
          have hsz : args'.size = lp.params.size := by rw [← hps] at hlen; simpa using hlen
          have hfold : (lp.params.zip args').foldl (fun tm (t, a) => tm.setIfInBounds t a) lp.tmps = (ps.zip args'.toList).foldl (fun tm (t, a) => tm.setIfInBounds t a) lp.tmps := by
            rw [← Array.foldl_toList, Array.toList_zip, hps]
          show OutGoal P F R h nx w a o (yieldEnd l nv n F0 ps asg body d nx log (ih (.code body nv n ⟨n1, some l, [], []⟩ vs1) (hset h1 l (.loop false none nv n F0 ps asg body d)) n1))
          have main : ∀ (v : Value) (h' : Hp) (nx' : Nat) (M : List Nat),
              (∀ (X : Ending → World → Prop) (R1 : Ren) (w2 : World) (a1 : Act), Dom R1 n1 → HR R1 (hset h1 l (.loop false none nv n F0 ps asg body d)) w2 → R1.blk l = some b → Ext R R1 h (hset h1 l (.loop false none nv n F0 ps asg body d)) nx n1 (l :: log) w w2 →
                (∀ v' R' w', Ext R R' h h' nx nx' M w w' → VR R' v v' → X (.returned v') w') →
                Good ⟨R1, hset h1 l (.loop false none nv n F0 ps asg body d), n1, w2⟩ (F.inRound b) nv n (roundPost P b X) (ih (.code body nv n ⟨n1, some l, [], []⟩ vs1) (hset h1 l (.loop false none nv n F0 ps asg body d)) n1)) →
              OutGoal P F R h nx w a o (.gen v h' nx' M) := by
            intro v h' nx' M hmain K Q hK
            refine ⟨fun f _ => hF.1 f, ?_⟩
            rw [semAt_eq hnd, hrun, run_yield hob hsz, Oper.uponIn_round]
            refine ⟨fun h => (by rw [hF.2] at h; cases h), ?_⟩
            refine roundIn_of_wpIn (n := 0) (hF.1 _) ?_
            rw [hfold, has, hbo]
            have key := hr.code (c := asg) (B := ⟨R, h, nx, w⟩) (F := F.inRound b) (nv := nv) (n := n) (z := ⟨nx, some l, [], []⟩) (vs := vs) (h := h) (nx := nx) (R := R) (w := w)
              (a := { tmps := (ps.zip args'.toList).foldl (fun tm (t, a) => tm.setIfInBounds t a) lp.tmps, defers := [] })
              (Q := fun e a₁ w₁ => match e with
                | .normal => ∃ w₂, (Instr.beginRound b).run P w₁ = .ok () w₂ ∧ body.wpIn (F.inRound b) 0 P (roundPost P b fun
                    | .returned v, w'' => K (a.put o.dst v) w''
                    | .panicked chain, w'' => Q (.panic chain) a w''
                    | .outgrown, _ => LetsOut Q) a₁ w₂
                | _ => False) ⟨hh, hd, hg⟩ (wd_round hF b) ⟨rfl, Ext.refl _ _ _ _ hd, hfr.frOk hg, .nil, ⟨b, rfl, hb⟩⟩ ?_
            · exact wpIn_ext key fun e a w q => by cases e <;> exact q
            · rw [hasg]
              intro R1 a1 w1 s1
              have e1 := s1.ext
              have hl : l < nx := hd.2 l b hb
              have hD1 : Dom R1 n1 := e1.domNew hd
              have hR1 : HR R1 h1 w1 := e1.hr hd hh
              have hb1 : R1.blk l = some b := (e1.le _ _ hb).1
              have hrow1 : hget h1 l = some (.loop true none nv n F0 ps asg body d) := by rw [e1.hsame l hl hm1]; exact hrow
              obtain ⟨ob1, hob1, lp1, rfl, hst1, hpe1, hfv1, hps1, has1, hbo1, hdf1⟩ := hR1.row l b _ hb1 hrow1 (by simp)
              refine ⟨_, run_beginRound hob1 hst1, ?_⟩
              have e2 := loop_turn (x := .loop true none nv n F0 ps asg body d) (y := .loop false none nv n F0 ps asg body d) (lp' := { lp1 with state := .busy }) hD1 hb1 hrow1 (by simp) hob1
                ⟨_, rfl, rfl, hpe1, hfv1, hps1, has1, hbo1, hdf1⟩
              have hR2 := e2.hr hD1 hR1
              have e12 := e1.trans e2 hd hh
              rw [logs_one hl] at e12
              have gl1 : ∀ g, g < NG → R1.blk g = some g := fun g hg' => (e1.le _ _ (hg g hg')).1
              have hdf0 : a1.defers = [] := by have := s1.dfr; cases hq : a1.defers with | nil => rfl | cons x y => rw [hq] at this; cases this
              refine wpIn_ext (hr.code (B := ⟨R1, hset h1 l (.loop false none nv n F0 ps asg body d), n1, w1.putObj b (.loop { lp1 with state := .busy })⟩) (F := F.inRound b) (nv := nv) (n := n) (z := ⟨n1, some l, [], []⟩) (vs := vs1) (R := R1) (Q := roundPost P b fun
                    | .returned v, w'' => K (a.put o.dst v) w''
                    | .panicked chain, w'' => Q (.panic chain) a w''
                    | .outgrown, _ => LetsOut Q) ⟨hR2, hD1, gl1⟩ (wd_round hF b) ⟨rfl, Ext.refl _ _ _ _ hD1, s1.fr, by rw [hdf0]; exact .nil, ⟨b, rfl, hb1⟩⟩ ?_) fun e a w q => by cases e <;> exact q
              exact hmain _ R1 _ a1 hD1 hR2 hb1 e12 fun v' R' w' e5 hv' => hK R' v' w' e5 hv'
          have hbusy : hget (hset h1 l (.loop false none nv n F0 ps asg body d)) l = some (.loop false none nv n F0 ps asg body d) := by
            have := hd.2 l b hb; have := hd.1
            rw [hget_hset (by omega) (by omega)]; simp
          unfold yieldEnd
          split
          · rename_i z2n z2r log2 vs2 h2 n2 hbody
            cases hn2 : nomem l log2 with
            | false => trivial
            | true =>
              refine main _ _ _ _ fun X R1 w2 a1 hD1 hR1 hb1 e12 hX => ?_
              rw [hbody]
              intro R2 a2 w3 s2
              exact round_end (ih := ih) (jump := none) hh hd hb hD1 hR1 hb1 hbusy e12 (nomem_eq hn2) rfl s2 hX
          · rename_i id z2n z2r log2 vs2 h2 n2 hbody
            cases hn2 : nomem l log2 with
            | false => trivial
            | true =>
              refine main _ _ _ _ fun X R1 w2 a1 hD1 hR1 hb1 e12 hX => ?_
              rw [hbody]
              intro R2 a2 w3 s2
              exact round_end (ih := ih) (jump := some (.exit id)) hh hd hb hD1 hR1 hb1 hbusy e12 (nomem_eq hn2) rfl s2 hX
          · rename_i z2n z2r log2 vs2 h2 n2 hbody
            cases hn2 : nomem l log2 with
            | false => trivial
            | true =>
              refine main _ _ _ _ fun X R1 w2 a1 hD1 hR1 hb1 e12 hX => ?_
              rw [hbody]
              intro R2 a2 w3 s2
              exact round_end (ih := ih) (jump := some .ret) hh hd hb hD1 hR1 hb1 hbusy e12 (nomem_eq hn2) rfl s2 hX
          · trivial
      · trivial
    · trivial
  · trivial
end Lm
end Go
namespace Go
namespace Lm
variable [Lo]
variable {P : Program}
section
variable {B : Base} {F : Fence} {nv n : Nat}
theorem range_call (hB : B.Ok) (hF : Wd F) {ih : Rec} (hr : RecOk P ih) {k : K} {KQ : Act → World → Prop} {Q : Exit → Act → World → Prop} (hk : KS B F nv n ih k KQ Q)
    {R : Ren} {z : Z} {vs : Vs} {h : Hp} {nx : Nat} {a : Act} {w : World} (st : St B F nv n R z vs [] h nx a w) {l bl : Nat} {ps : List Nat} {asg body : Code} {d : Nat}
    (hb : R.blk l = some bl) (hl : B.nx ≤ l) {f : FuncId} {xs ys xs' ys' : Array Value} (hx : VL R xs.toList xs'.toList) (hy : VL R ys.toList ys'.toList)
    (g : Good B F nv n Q (rangeEnd l (callF f (xs.toList ++ [(.func (.yield l) #[] #[] : Value)] ++ ys.toList) ih h nx) k ih z vs)) :
    hasBody P f = true ∧ CallsIn F 0 P f (xs' ++ #[(.func (.yield bl) #[] #[] : Value)] ++ ys') w (rangePost F 0 P bl (Exit.then KQ Q) a) := by
  have hv : VL R (xs.toList ++ [(.func (.yield l) #[] #[] : Value)] ++ ys.toList) (xs' ++ #[(.func (.yield bl) #[] #[] : Value)] ++ ys').toList := by
    simp only [Array.toList_append]
    exact (hx.app (.cons (.yld hb) (.nil R))).app hy
  have hco := callF_ok (f := f) hr (st.hr hB) (st.dom hB) st.fr.glob hF hv
  cases hcf : callF f (xs.toList ++ [(.func (.yield l) #[] #[] : Value)] ++ ys.toList) ih h nx with
  | bad => rw [hcf] at g; exact g.elim
  | pur v => rw [hcf] at g; exact g.elim
  | rd v r => rw [hcf] at g; exact g.elim
  | new v h2 n2 => rw [hcf] at g; exact g.elim
  | wr h2 r => rw [hcf] at g; exact g.elim
  | gen v h2 n2 M =>
    have hbody : hasBody P f = true := by
      unfold callF at hcf
      split at hcf
      · rename_i e; exact hr.body e
      · cases hcf
    refine ⟨hbody, ?_⟩
    rw [hcf] at hco g
    refine CallsIn.mono (n := 0) hco fun e w2 q => ?_
    obtain ⟨v', R2, h1, h2', h3⟩ := q
    subst h1
    have s2 := st.step hB h3
    have hb2 : R2.blk l = some bl := (h3.le _ _ hb).1
    have hlz : z.n0 ≤ l := by rw [st.n0]; exact hl
    have hlog : ∀ z1 : Z, z1.n0 = z.n0 → logZ z1 [l] = z1 := fun z1 e => by
      unfold logZ; rw [logs_none (by rw [e]; exact hlz)]
    have turn : ∀ (ready : Bool) (pend : Option Code) nv1 n1 F1 ps1 a1 b1 d1, hget h2 l = some (.loop ready pend nv1 n1 F1 ps1 a1 b1 d1) → (ready = false → pend.isSome = true) →
        ∃ w4, (Instr.endLoop bl).run P w2 = .ok pend w4 ∧ St B F nv n R2 (logZ z M) vs [] (hset h2 l .dead) n2 a w4 := by
      intro ready pend nv1 n1 F1 ps1 a1 b1 d1 hrow hp
      obtain ⟨ob, hob, lp, rfl, hst, hpe, hfv, hps, has, hbo, hdf⟩ := (s2.hr hB).row l bl _ hb2 hrow (by simp)
      refine ⟨w2.putObj bl (.loop { lp with state := .exhausted }), ?_, ?_⟩
      · have := run_endLoop (P := P) hob (by
          rw [hst]
          cases ready with
          | true => simp
          | false =>
            have := hp rfl
            cases pend with
            | none => cases this
            | some c => simp)
        exact this.trans (by rw [hpe])
      · have e4 := loop_turn (x := .loop ready pend nv1 n1 F1 ps1 a1 b1 d1) (y := .dead) (lp' := { lp with state := .exhausted }) (s2.dom hB) hb2 hrow (by simp) hob trivial
        have s3 := s2.step hB e4
        rw [hlog (logZ z M) rfl] at s3
        exact s3
    unfold rangeEnd at g
    simp only at g
    split at g
    · rename_i hrow
      obtain ⟨w4, h5, s3⟩ := turn _ _ _ _ _ _ _ _ _ hrow (fun e => by cases e)
      exact ⟨none, w4, h5, hk _ _ _ _ _ _ _ _ s3 g⟩
    · rename_i hrow
      obtain ⟨w4, h5, s3⟩ := turn _ _ _ _ _ _ _ _ _ hrow (fun e => rfl)
      exact ⟨some .ret, w4, h5, wpIn_ret (g _ _ _ s3)⟩
    · rename_i id _ _ _ _ _ _ _ hrow
      obtain ⟨w4, h5, s3⟩ := turn _ _ _ _ _ _ _ _ _ hrow (fun e => rfl)
      exact ⟨some (.exit id), w4, h5, wpIn_exit (g _ _ _ s3)⟩
    · exact g.elim
theorem fn_vr {R : Ren} {f : FuncId} {xs ys : Array Value} {v : Value} (h : VR R (.func (.func f) xs ys) v) : ∃ xs' ys', v = .func (.func f) xs' ys' ∧ VL R xs.toList xs'.toList ∧ VL R ys.toList ys'.toList := by
  cases h with
  | fn _ h1 h2 h3 h4 => exact ⟨_, _, rfl, vl_of_arr h1 h2, vl_of_arr h3 h4⟩
omit [Lo] in
theorem add_blk {R : Ren} {nx b κ : Nat} : (R.add nx b κ).blk nx = some b := by simp [Ren.add]
theorem code_range (hB : B.Ok) (hF : Wd F) {ih : Rec} (hr : RecOk P ih) (g : Operand) (ps : Array Nat) (asg body : Code) : CodeOk P B F nv n ih (.rangeFunc g ps asg body) := by
  intro k f KQ Q h hk
  obtain ⟨fg, hg⟩ := dX_some nv g
  have e : dCode P nv n (.rangeFunc g ps asg body) k = match dX nv g with | .mk f => .mk (kRange nv n f ps.toList asg body k) := rfl
  rw [e, hg] at h
  cases h
  intro R z vs ts hp nx a w st gd
  unfold kRange at gd
  split at gd
  rotate_left
  · exact gd.elim
  rename_i gv hgv
  have hgv' := dX_ok (a := a) hg st.fr (fun _ _ => trivial) hgv
  have hev : ∀ ds, Act.eval { a with defers := ds } = a.eval := fun ds => rfl
  have fin : ∀ (l bl : Nat) (mark : List Deferred) (w1 : World) (z1 : Z) (h1 : Hp) (d : Nat) (R1 : Ren), R.le R1 → (∀ fn, (Instr.enterLoop fn a.tmps ps asg body F.round).run P w = .ok (bl, mark) (w1.alloc (.loop { state := .ready, pending := none, fn, tmps := a.tmps, params := ps, assign := asg, body, defers := (R1.blk d).getD 0 }))) →
      bl = w1.heap.size → B.nx ≤ l → St B F nv n R1 z1 vs [] h1 l { a with defers := mark ++ a.defers } w1 → (∃ bd, R1.blk d = some bd) →
      Good B F nv n Q (rangeGo nv n ps.toList asg body k gv d ih z1 vs h1 l) → (Code.rangeFunc g ps asg body).wpIn F 0 P (Exit.then KQ Q) a w := by
    intro l bl mark w1 z1 h1 d R1 hle hent hbl hl st1 hd hgo
    obtain ⟨bd, hbd⟩ := hd
    rw [hbd] at hent
    simp only [Option.getD_some] at hent
    subst hbl
    unfold rangeGo at hgo
    split at hgo
    · rename_i fid xs ys
      obtain ⟨xs', ys', hq, hx, hy⟩ := fn_vr hgv'
      cases hroom : room l with
      | false => rw [hroom] at hgo; exact hgo.elim
      | true =>
        rw [hroom] at hgo
        have hlt := room_lt hroom
        refine wpIn_rangeFunc fun fn hfn => ?_
        have hD1 := st1.dom hB
        have e2 := ext_new (κ := 0) (h := h1) (x := .loop true none nv n vs ps.toList asg body d) (w := w1) (ob := .loop { state := .ready, pending := none, fn, tmps := a.tmps, params := ps, assign := asg, body, defers := bd }) hD1 hlt
          ⟨_, rfl, rfl, rfl, st1.fr.frV.mono (Ren.le_add hD1 _ _), rfl, rfl, rfl, ((Ren.le_add hD1 w1.heap.size 0) _ _ hbd).1⟩
        have s2 := st1.step0 hB e2
        have hle2 := hle.trans e2.le
        obtain ⟨hbody, hcall⟩ := range_call hB hF hr hk s2 (ps := ps.toList) (asg := asg) (body := body) (d := d) add_blk hl (hx.mono hle2) (hy.mono hle2) hgo
        generalize hW : w1.alloc (.loop { state := .ready, pending := none, fn, tmps := a.tmps, params := ps, assign := asg, body, defers := bd }) = W at e2 s2 hcall
        have hent' := hent fn
        rw [hW] at hent'
        have c1 : (resolve a.eval (rangeCall g w1.heap.size) 0).run P W = .ok { target := .fn (.func fid) ys', args := xs' ++ #[(.func (.yield w1.heap.size) #[] #[] : Value)] } W := by
          simp only [resolve, hq, Deferred.ofValue, Sem.run_pure]
          simp [Act.eval]
        have c2 : (invoke (.fn (.func fid) ys') (xs' ++ #[(.func (.yield w1.heap.size) #[] #[] : Value)])).run P W = .ok (.enter fid (xs' ++ #[(.func (.yield w1.heap.size) #[] #[] : Value)] ++ ys')) W := run_callFunc hbody _ _
        exact ⟨w1.heap.size, mark, W, _, W, fid, _, W, hent', c1, fun f' _ => hF.1 f', c2, fun h => (by rw [hF.2] at h; cases h), hcall⟩
    · exact hgo.elim
  cases hrd : z.rd with
  | none =>
    rw [hrd] at gd
    simp only at gd
    have hro : F.round = none := by have := st.rd; rw [hrd] at this; exact this
    cases hroom : room nx with
    | false => rw [hroom] at gd; exact gd.elim
    | true =>
      rw [hroom] at gd
      have hlt := room_lt hroom
      have hD := st.dom hB
      have e1 := ext_new (κ := 0) (h := hp) (x := .deferred) (w := w) (ob := .deferred (some [])) hD hlt rfl
      have s1 := st.nots.step0 hB e1
      refine fin (Nat.succ nx) (w.heap.size + 1) [{ target := .collected w.heap.size, args := #[] }] (w.alloc (.deferred (some []))) ⟨z.n0, z.rd, nx :: z.D, z.log⟩ (hset hp nx .deferred) nx (R.add nx w.heap.size 0) e1.le ?_ (World.size_alloc _ _).symm
        (by have := st.ext.nxle; omega) ⟨s1.n0, s1.ext, s1.fr, .cons add_blk st.ext.nxle s1.dfr, s1.rd⟩ ⟨_, add_blk⟩ (by rw [hrd]; exact gd)
      intro fn
      rw [hro, add_blk]
      exact run_enterLoop_outer _ _ _ _ _
  | some l0 =>
    rw [hrd] at gd
    simp only at gd
    obtain ⟨b0, hro, hb0⟩ : ∃ b, F.round = some b ∧ R.blk l0 = some b := by have := st.rd; rw [hrd] at this; exact this
    split at gd
    · rename_i d hrow
      obtain ⟨ob, hob, lp, rfl, hst, hpe, hfv, hps, has, hbo, hdf⟩ := (st.hr hB).row l0 b0 _ hb0 hrow (by simp)
      refine fin nx w.heap.size [] w z hp d R (.refl R) ?_ rfl (by have := st.ext.nxle; omega) st.nots ⟨_, hdf⟩ gd
      intro fn
      rw [hro, hdf]
      exact run_enterLoop_inner hob _ _ _ _ _
    · exact gd.elim
end
end Lm
end Go
