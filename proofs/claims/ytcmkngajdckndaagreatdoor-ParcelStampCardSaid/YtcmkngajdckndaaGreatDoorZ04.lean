/- Rules by which a run of that machine is computed; A machine that takes letters for numbers and lists: what it answers, the program answers (its operations, steps, calls, loops, lists of a world); The program's functions as the machine runs them, and closed facts of its types. Conditions: none. -/
import Derived.Test.YtcmkngajdckndaaGreatDoorZ03
import Derived.Below
import Derived.Test.YtcmkngajdckndaaGreatDoorProg
import Derived.KernelRfl
set_option linter.unusedVariables false
set_option linter.unusedSimpArgs false
noncomputable section
namespace Go
namespace Lm
variable {P : Program}
structure SOp where
  dst : Option Nat
  op : Op
  g : Option (Nat × Bool)
inductive SC where
  | skip
  | reg (l : List SOp)
  | regD (l : List SOp) (bef : List Nat)
  | seq (a b : SC)
  | cond (x : Operand) (a b : SC)
  | block (id : Nat) (a : SC)
  | loop (a : SC)
  | range (g : Operand) (ps : List Nat) (asg body : Code)
  | exit (id : Nat)
  | ret
  | bad
def sop (ops : Array Oper) (o : Oper) : SOp :=
  ⟨o.dst, o.op, match o.guard with
    | none => none
    | some (j, b) => (match ops[j]? with
      | some g => (match g.dst with | some t => some (t, b) | none => some (1000000000, b))
      | none => some (1000000000, b))⟩
def strip : Code → SC
  | .skip => .skip
  | .region _ ops draw => bif draw then .regD (ops.toList.map (sop ops)) (Region.before ops).toList else .reg (ops.toList.map (sop ops))
  | .seq a b => .seq (strip a) (strip b)
  | .cond x a b => .cond x (strip a) (strip b)
  | .block id a => .block id (strip a)
  | .loop a => .loop (strip a)
  | .rangeFunc g ps asg body => .range g ps.toList asg body
  | .exit id => .exit id
  | .scope a => strip a
  | .label _ => .skip
  | .goto _ => .bad
  | .ret => .ret
  | .refuse _ => .bad
def opV (nv : Nat) (x : Operand) (vs : Vs) : Option Value := match dX nv x with | .mk f => f vs []
def rOp (P : Program) (nv : Nat) (ih : Rec) (op : Op) (vs : Vs) (h : Hp) (nx : Nat) : Out := runO (dOp P nv op) ih vs [] h nx
def sOne (P : Program) (nv : Nat) (ih : Rec) (o : SOp) (z : Z) (vs : Vs) (h : Hp) (nx : Nat) : RO :=
  match o.g with
  | none => rOut o.dst z vs h nx (rOp P nv ih o.op vs h nx)
  | some (t, b) => (match opV nv (.tmp t) vs with
    | some (.bool y) => bif y == b then rOut o.dst z vs h nx (rOp P nv ih o.op vs h nx) else .st z (put o.dst undef vs) h nx
    | some _ => .st z (put o.dst undef vs) h nx
    | none => .no)
def sOps (P : Program) (nv : Nat) (ih : Rec) : List SOp → Z → Vs → Hp → Nat → RO
  | [], z, vs, h, nx => .st z vs h nx
  | o :: l, z, vs, h, nx => (match sOne P nv ih o z vs h nx with | .st z vs h nx => sOps P nv ih l z vs h nx | .no => .no)
def sRec (P : Program) (nv : Nat) (ih : Rec) (o : SOp) (vs : Vs) (h : Hp) (nx : Nat) : Rec1 :=
  match o.g with
  | none => recOf (altO (dOp P nv o.op) vs [] h) h (rOp P nv ih o.op vs h nx)
  | some (t, b) => (match opV nv (.tmp t) vs with
    | some (.bool y) => bif y == b then recOf (altO (dOp P nv o.op) vs [] h) h (rOp P nv ih o.op vs h nx) else ⟨[], some [], never, h⟩
    | _ => ⟨[], some [], never, h⟩)
def apartB (bef : List Nat) (rs : List Rec1) : Bool :=
  rs.zipIdx.all fun (r, k) => (match r.M with
    | [] => true
    | M => rs.zipIdx.all fun (q, j) => Nat.beq j k || (bef.getD (max j k) 0).testBit (min j k) || (match q.T with | some T => disj T M | none => false) || (Nat.blt j k && q.A r.H))
def sOpsD (P : Program) (nv : Nat) (ih : Rec) (bef : List Nat) : List SOp → List Rec1 → Z → Vs → Hp → Nat → RO
  | [], rs, z, vs, h, nx => bif apartB bef rs.reverse then .st z vs h nx else .no
  | o :: l, rs, z, vs, h, nx => (match sOne P nv ih o z vs h nx with
    | .st z' vs' h' nx' => sOpsD P nv ih bef l (sRec P nv ih o vs h nx :: rs) z' vs' h' nx'
    | .no => .no)
def sC (P : Program) (nv n : Nat) (ih : Rec) : SC → Z → Vs → Hp → Nat → R
  | .skip, z, vs, h, nx => .nor z vs h nx
  | .reg l, z, vs, h, nx => roR (sOps P nv ih l z vs h nx)
  | .regD l bef, z, vs, h, nx => roR (sOpsD P nv ih bef l [] z vs h nx)
  | .seq a b, z, vs, h, nx => bindR (sC P nv n ih a z vs h nx) (sC P nv n ih b)
  | .cond x a b, z, vs, h, nx => (match opV nv x vs with
      | some (.bool t) => bif t then sC P nv n ih a z vs h nx else sC P nv n ih b z vs h nx
      | _ => .no)
  | .block id a, z, vs, h, nx => (match sC P nv n ih a z vs h nx with
    | .exi j z vs h nx => bif Nat.beq j id then .nor z vs h nx else .exi j z vs h nx
    | r => r)
  | .loop a, z, vs, h, nx => loopR (sC P nv n ih a) z vs h nx
  | .range g ps asg body, z, vs, h, nx => (match dX nv g with | .mk f => kRange nv n f ps asg body kNor ih z vs [] h nx)
  | .exit id, z, vs, h, nx => .exi id z vs h nx
  | .ret, z, vs, h, nx => .ret z vs h nx
  | .bad, _, _, _, _ => .no
theorem opV_big {nv t : Nat} (h : nv ≤ t) (vs : Vs) : opV nv (.tmp t) vs = none := by
  unfold opV dX
  simp only [blt_eq]
  have : ¬ t < nv := by omega
  simp only [this, decide_false]
  rfl
theorem guard_eq {nv : Nat} (hnv : nv ≤ 1000000000) (ops : Array Oper) (o : Oper) (vs : Vs) :
    rGuard nv ops.toList o.guard vs = match (sop ops o).g with
      | none => some true
      | some (t, b) => (match opV nv (.tmp t) vs with | some (.bool y) => some (y == b) | some _ => some false | none => none) := by
  unfold rGuard sop
  cases o.guard with
  | none => rfl
  | some jb =>
    obtain ⟨j, b⟩ := jb
    simp only
    unfold gdX
    rw [opAt_eq, Array.getElem?_toList]
    cases hj : ops[j]? with
    | none => simp only [opV_big hnv]
    | some g =>
      simp only
      cases hg : g.dst with
      | none => simp only [opV_big hnv]
      | some t =>
        simp only
        unfold opV
        cases dX nv (.tmp t) with
        | mk x => rfl
theorem one_eq {nv : Nat} (hnv : nv ≤ 1000000000) {ih : Rec} (ops : Array Oper) (o : Oper) (z : Z) (vs : Vs) (h : Hp) (nx : Nat) : rOne P nv ih ops.toList o z vs h nx = sOne P nv ih (sop ops o) z vs h nx := by
  unfold rOne sOne
  rw [guard_eq hnv]
  cases hg : (sop ops o).g with
  | none => rfl
  | some tb =>
    obtain ⟨t, b⟩ := tb
    simp only
    cases opV nv (.tmp t) vs with
    | none => rfl
    | some v =>
      cases v with
      | bool y =>
        simp only
        cases y == b <;> rfl
      | _ => rfl
theorem rec_eq {nv : Nat} (hnv : nv ≤ 1000000000) {ih : Rec} (ops : Array Oper) (o : Oper) (vs : Vs) (h : Hp) (nx : Nat) : rRec P nv ih ops.toList o vs h nx = sRec P nv ih (sop ops o) vs h nx := by
  unfold rRec sRec
  rw [guard_eq hnv]
  cases hg : (sop ops o).g with
  | none => rfl
  | some tb =>
    obtain ⟨t, b⟩ := tb
    simp only
    cases opV nv (.tmp t) vs with
    | none => rfl
    | some v =>
      cases v with
      | bool y =>
        simp only
        cases y == b <;> rfl
      | _ => rfl
theorem ops_eq {nv : Nat} (hnv : nv ≤ 1000000000) {ih : Rec} (ops : Array Oper) (l : List Oper) (z : Z) (vs : Vs) (h : Hp) (nx : Nat) : rOps P nv ih ops.toList l z vs h nx = sOps P nv ih (l.map (sop ops)) z vs h nx := by
  induction l generalizing z vs h nx with
  | nil => rfl
  | cons o l ihl =>
    rw [List.map_cons]
    conv => lhs; unfold rOps
    conv => rhs; unfold sOps
    rw [one_eq hnv]
    cases sOne P nv ih (sop ops o) z vs h nx with
    | no => rfl
    | st z vs h nx => exact ihl z vs h nx
theorem apart_eq (ops : Array Oper) (rs : List Rec1) : apartR ops rs = apartB (Region.before ops).toList rs := by
  unfold apartR apartB apart1
  congr 1
  funext x
  obtain ⟨r, k⟩ := x
  simp only
  have e : ∀ i, (Region.before ops).toList.getD i 0 = (Region.before ops).getD i 0 := fun i => by simp [List.getD_eq_getElem?_getD, Array.getD_eq_getD_getElem?]
  cases r.M with
  | nil => rfl
  | cons a M => simp only [e]; rfl
theorem opsD_eq {nv : Nat} (hnv : nv ≤ 1000000000) {ih : Rec} (ops : Array Oper) (l : List Oper) (rs : List Rec1) (z : Z) (vs : Vs) (h : Hp) (nx : Nat) : rOpsD P nv ih ops l rs z vs h nx = sOpsD P nv ih (Region.before ops).toList (l.map (sop ops)) rs z vs h nx := by
  induction l generalizing rs z vs h nx with
  | nil => unfold rOpsD; rw [List.map_nil]; unfold sOpsD; rw [apart_eq]
  | cons o l ihl =>
    rw [List.map_cons]
    conv => lhs; unfold rOpsD
    conv => rhs; unfold sOpsD
    rw [one_eq hnv, rec_eq hnv]
    cases sOne P nv ih (sop ops o) z vs h nx with
    | no => rfl
    | st z vs h nx => exact ihl _ z vs h nx
theorem roundsD_congr {b b' : Z → Vs → Hp → Nat → R} (h : ∀ z vs hp nx, b z vs hp nx = b' z vs hp nx) : b = b' := by
  funext z vs hp nx; exact h z vs hp nx
theorem strip_eq {nv n : Nat} (hnv : nv ≤ 1000000000) {ih : Rec} (c : Code) (z : Z) (vs : Vs) (h : Hp) (nx : Nat) : rC P nv n ih c z vs h nx = sC P nv n ih (strip c) z vs h nx := by
  induction c generalizing z vs h nx with
  | skip => rfl
  | region id ops draw =>
    rw [rC_region]
    cases draw with
    | true =>
      have e : strip (.region id ops true) = .regD (ops.toList.map (sop ops)) (Region.before ops).toList := rfl
      rw [e]
      show roR (rOpsD P nv ih ops ops.toList [] z vs h nx) = roR _
      rw [opsD_eq hnv]
    | false =>
      have e : strip (.region id ops false) = .reg (ops.toList.map (sop ops)) := rfl
      rw [e]
      show roR (rOps P nv ih ops.toList ops.toList z vs h nx) = roR _
      rw [ops_eq hnv]
  | seq a b iha ihb =>
    rw [rC_seq]
    show _ = bindR (sC P nv n ih (strip a) z vs h nx) (sC P nv n ih (strip b))
    rw [iha, roundsD_congr ihb]
  | cond x a b iha ihb =>
    rw [rC_cond]
    show _ = (match opV nv x vs with
      | some (.bool t) => bif t then sC P nv n ih (strip a) z vs h nx else sC P nv n ih (strip b) z vs h nx
      | _ => .no)
    unfold opV
    cases dX nv x with
    | mk f =>
      simp only [iha, ihb]
      cases f vs [] with
      | none => rfl
      | some v => cases v <;> rfl
  | block id a iha =>
    rw [rC_block]
    show _ = (match sC P nv n ih (strip a) z vs h nx with
      | .exi j z vs h nx => bif Nat.beq j id then R.nor z vs h nx else R.exi j z vs h nx
      | r => r)
    rw [iha]
    cases sC P nv n ih (strip a) z vs h nx <;> rfl
  | loop a iha =>
    rw [rC_loop]
    show _ = loopR (sC P nv n ih (strip a)) z vs h nx
    rw [roundsD_congr iha]
  | rangeFunc g ps a b _ _ => rfl
  | exit id => rfl
  | scope a iha => exact iha z vs h nx
  | label l => rfl
  | goto l => rfl
  | ret => rfl
  | refuse s => rfl
end Lm
end Go
namespace Go
namespace Lm
variable {P : Program} {nv : Nat} {ih : Rec} {vs : Vs} {h : Hp} {nx : Nat}
theorem opV_of {x : Operand} {f : OpV} (hx : dX nv x = .mk f) : f vs [] = opV nv x vs := by unfold opV; rw [hx]
theorem opV_tmp (t : Nat) (ht : t < nv) : opV nv (.tmp t) vs = vs t := by
  unfold opV dX
  simp only [blt_eq, ht, decide_true]
  rfl
theorem opV_int (k : IntKind) (i : Int) : opV nv (.const (.int k i)) vs = some (.int k i) := rfl
theorem opV_bool (b : Bool) : opV nv (.const (.bool b)) vs = some (.bool b) := rfl
theorem opV_str (s : ByteArray) : opV nv (.const (.string s)) vs = some (.string s) := rfl
theorem opV_nil (n c : Nat) : opV nv (.const (.slice none n c)) vs = some (.slice none n c) := rfl
theorem opV_map0 : opV nv (.const (.map none)) vs = some (.map none) := rfl
theorem opV_fn0 : opV nv (.const .nilFunc) vs = some .nilFunc := rfl
theorem opV_func (f : FuncId) : opV nv (.func f) vs = some (.func (.func f) #[] #[]) := rfl
theorem opV_global (g : Nat) (hg : g < NG) : opV nv (.global g) vs = some (.pointer (some ⟨g, 0, none⟩)) := by
  unfold opV dX
  simp only [blt_eq, hg, decide_true]
  rfl
def outP (v : Option Value) : Out := match v with | some v => .pur v | none => .bad
def rdO (r : Nat) (v : Option Value) : Out := match v with | some v => .rd v r | none => .bad
theorem outP_some (v : Value) : outP (some v) = .pur v := rfl
theorem rdO_some (r : Nat) (v : Value) : rdO r (some v) = .rd v r := rfl
theorem room_true (n : Nat) : room n = true := by unfold room; rw [ble_eq']; simp
theorem put_if (t : Nat) (v : Value) (j : Nat) : put (some t) v vs j = if j = t then some v else vs j := rfl
theorem put_get (t : Nat) (v : Value) (j : Nat) : put (some t) v vs j = bif decide (j = t) then some v else vs j := by
  rw [put_if]
  by_cases q : j = t <;> simp [q]
theorem put_same (t : Nat) (v : Value) : put (some t) v vs t = some v := by rw [put_if]; simp
theorem put_none (v : Value) : put none v vs = vs := rfl
theorem hget_same (r : Nat) (x : Row) : hget (hset h r x) r = some x := by rw [hget_hset (Nat.le_refl _) (Nat.le_refl _)]; simp
theorem hget_other {r s : Nat} (x : Row) (hn : s ≠ r) : hget (hset h r x) s = hget h s := by rw [hget_hset (Nat.le_refl _) (Nat.le_refl _)]; simp [hn]
theorem newOut_eq (cs : List Value) : newOut h nx cs = .new (.pointer (some ⟨nx, 0, none⟩)) (hset h nx (.cells cs none)) (nx + 1) := by unfold newOut; rw [room_true]
theorem newSlice_eq (cs : List Value) (n c : Nat) : newSlice h nx cs n c = .new (.slice (some ⟨nx, 0, none⟩) n c) (hset h nx (.cells cs none)) (nx + 1) := by unfold newSlice; rw [room_true]
theorem pv1_run (k : OpV → OpV) (x : Operand) (g : Option Value → Option Value) (hk : ∀ f : OpV, k f vs [] = g (f vs [])) : runO (pv1 nv k x) ih vs [] h nx = outP (g (opV nv x vs)) := by
  unfold pv1 opV
  cases dX nv x with
  | mk f => show outP (k f vs []) = _; rw [hk]
theorem pv2_run (k : OpV → OpV → OpV) (x y : Operand) (g : Option Value → Option Value → Option Value) (hk : ∀ f e : OpV, k f e vs [] = g (f vs []) (e vs [])) : runO (pv2 nv k x y) ih vs [] h nx = outP (g (opV nv x vs) (opV nv y vs)) := by
  unfold pv2 opV
  cases dX nv x with
  | mk f => cases dX nv y with
    | mk e => show outP (k f e vs []) = _; rw [hk]
theorem pv3_run (k : OpV → OpV → OpV → OpV) (x y z : Operand) (g : Option Value → Option Value → Option Value → Option Value) (hk : ∀ f e d : OpV, k f e d vs [] = g (f vs []) (e vs []) (d vs [])) : runO (pv3 nv k x y z) ih vs [] h nx = outP (g (opV nv x vs) (opV nv y vs) (opV nv z vs)) := by
  unfold pv3 opV
  cases dX nv x with
  | mk f => cases dX nv y with
    | mk e => cases dX nv z with
      | mk d => show outP (k f e d vs []) = _; rw [hk]
theorem o_move (x : Operand) : rOp P nv ih (.move x) vs h nx = outP (opV nv x vs) := pv1_run oMove x id fun _ => rfl
theorem o_assign (x : Operand) : rOp P nv ih (.assign x) vs h nx = outP (opV nv x vs) := pv1_run oMove x id fun _ => rfl
def pickV (b x y : Option Value) : Option Value := match b with | some (.bool t) => bif t then x else y | _ => none
theorem o_pick (b x y : Operand) : rOp P nv ih (.pick b x y) vs h nx = outP (pickV (opV nv b vs) (opV nv x vs) (opV nv y vs)) := pv3_run oPick b x y pickV fun f e d => by
  unfold oPick pickV
  cases f vs [] with
  | none => rfl
  | some v => cases v with
    | bool t => cases t <;> rfl
    | _ => rfl
theorem pickV_eq (t : Bool) (x y : Option Value) : pickV (some (.bool t)) x y = bif t then x else y := rfl
def tyS (P : Program) (t : TypeId) : Option (Bool × Nat) := match ty P t with | some i => some (i.agg, i.size) | none => none
def tyZ (P : Program) (t : TypeId) : Option (List Value) := match ty P t with
  | some i => (match i.zero with | some z => (match cellsL z with | some cs => bif ground z then some cs else none | none => none) | none => none)
  | none => none
def offF (P : Program) (t : TypeId) (f : Nat) : Option Nat := match ty P t with
  | some i => (match i.desc with | .struct fs => (match fieldAtP P fs f with | some (off, size) => bif Nat.blt 0 size then some off else none | none => none) | _ => none)
  | none => none
def fieldF (P : Program) (t : TypeId) (f : Nat) : Option ((Bool × Nat) × Nat) := match ty P t with
  | some i => (match i.desc with | .struct fs => (match fs[f]? with | some f => (match ty P f.type with | some j => some ((j.agg, j.size), f.offset) | none => none) | none => none) | _ => none)
  | none => none
def elemF (P : Program) (t : TypeId) : Option (Option Nat × Bool × Nat) := match ty P t with
  | some i => (match i.desc with
    | .array n e => (match ty P e with | some j => some (some n, j.agg, j.size) | none => none)
    | .slice e => (match ty P e with | some j => some (none, j.agg, j.size) | none => none)
    | _ => none)
  | none => none
theorem o_alloc (t : TypeId) : rOp P nv ih (.alloc t) vs h nx = match tyZ P t with | some cs => .new (.pointer (some ⟨nx, 0, none⟩)) (hset h nx (.cells cs none)) (nx + 1) | none => .bad := by
  unfold rOp
  show runO (dAlloc P t) ih vs [] h nx = _
  unfold dAlloc tyZ
  cases ty P t with
  | none => rfl
  | some i =>
    simp only
    cases i.zero with
    | none => rfl
    | some z =>
      simp only
      cases cellsL z with
      | none => rfl
      | some cs =>
        simp only
        cases ground z with
        | false => rfl
        | true => exact newOut_eq cs
def boxO (h : Hp) (nx : Nat) (v : Option Value) : Out := match v with | some v => (match cellsL v with | some cs => .new (.pointer (some ⟨nx, 0, none⟩)) (hset h nx (.cells cs none)) (nx + 1) | none => .bad) | none => .bad
theorem o_box (t : TypeId) (x : Operand) : rOp P nv ih (.box t x) vs h nx = boxO h nx (opV nv x vs) := by
  unfold rOp
  show runO (ge1 nv oBox x) ih vs [] h nx = _
  unfold ge1 opV
  cases dX nv x with
  | mk f =>
    show oBox f ih vs [] h nx = boxO h nx (f vs [])
    unfold oBox boxO
    cases f vs [] with
    | none => rfl
    | some v =>
      simp only
      cases cellsL v with
      | none => rfl
      | some cs => exact newOut_eq cs
def loadO (h : Hp) (s : Option (Bool × Nat)) (v : Option Value) : Out := match s, v with
  | some (agg, size), some (.pointer (some ⟨r, o, none⟩)) => rdO r (loadAt agg size h r o)
  | _, _ => .bad
theorem o_load (t : TypeId) (x : Operand) : rOp P nv ih (.load t x) vs h nx = loadO h (tyS P t) (opV nv x vs) := by
  unfold rOp
  show runO (dLoad P nv t x) ih vs [] h nx = _
  unfold dLoad tyS opV
  cases ty P t with
  | none => rfl
  | some i =>
    cases dX nv x with
    | mk f =>
      show (match oLoad i.agg i.size f vs [] h with | .v v r => Out.rd v r | .no => .bad) = loadO h (some (i.agg, i.size)) (f vs [])
      unfold oLoad rdOut loadO
      cases f vs [] with
      | none => rfl
      | some v =>
        cases v with
        | pointer p =>
          cases p with
          | none => rfl
          | some a =>
            obtain ⟨r, o, sp⟩ := a
            cases sp with
            | some _ => rfl
            | none =>
              simp only
              cases loadAt i.agg i.size h r o <;> rfl
        | _ => rfl
def storeO (h : Hp) (s : Option (Bool × Nat)) (x v : Option Value) : Out := match s, x, v with
  | some (_, size), some (.pointer (some ⟨r, o, none⟩)), some v => storeAt size h r o v
  | _, _, _ => .bad
theorem o_store (t : TypeId) (x y : Operand) : rOp P nv ih (.store t x y) vs h nx = storeO h (tyS P t) (opV nv x vs) (opV nv y vs) := by
  unfold rOp
  show runO (dStore P nv t x y) ih vs [] h nx = _
  unfold dStore tyS opV ge2
  cases ty P t with
  | none => rfl
  | some i =>
    cases dX nv x with
    | mk f => cases dX nv y with
      | mk e =>
        show oStore i.size f e ih vs [] h nx = storeO h (some (i.agg, i.size)) (f vs []) (e vs [])
        unfold oStore storeO
        cases f vs [] with
        | none => rfl
        | some v =>
          cases v with
          | pointer p =>
            cases p with
            | none => rfl
            | some a =>
              obtain ⟨r, o, sp⟩ := a
              cases sp with
              | some _ => rfl
              | none => cases e vs [] <;> rfl
          | _ => rfl
theorem o_bin (op : BinOp) (t : TypeId) (x y : Operand) (yt : TypeId) : rOp P nv ih (.binOp op t x y yt) vs h nx = outP (match opV nv x vs, opV nv y vs with | some u, some v => binV P op t x y u v | _, _ => none) :=
  pv2_run (oBin P op t x y) x y (fun a b => match a, b with | some u, some v => binV P op t x y u v | _, _ => none) fun f e => rfl
theorem o_un (op : UnOp) (t : TypeId) (x : Operand) : rOp P nv ih (.unOp op t x) vs h nx = outP (match opV nv x vs with | some v => unV P op v | none => none) :=
  pv1_run (oUn P op) x (fun a => match a with | some v => unV P op v | none => none) fun f => by unfold oUn; cases f vs [] <;> rfl
theorem o_extract (x : Operand) (i : Nat) : rOp P nv ih (.extract x i) vs h nx = outP (match opV nv x vs with | some (.tuple us) => us.toList[i]? | _ => none) :=
  pv1_run (fun x => oExtract x i) x (fun a => match a with | some (.tuple us) => us.toList[i]? | _ => none) fun f => by
    unfold oExtract
    cases f vs [] with
    | none => rfl
    | some v => cases v <;> first | exact nth_eq _ _ | rfl
theorem o_fieldAddr (t : TypeId) (x : Operand) (f : Nat) : rOp P nv ih (.fieldAddr t x f) vs h nx = match offF P t f with
    | some off => outP (match opV nv x vs with | some (.pointer (some ⟨r, o, none⟩)) => some (.pointer (some ⟨r, o + off, none⟩)) | _ => none)
    | none => .bad := by
  unfold rOp
  show runO (dFieldAddr P nv t x f) ih vs [] h nx = _
  unfold dFieldAddr offF
  cases ty P t with
  | none => rfl
  | some i =>
    simp only
    cases i.desc with
    | struct fs =>
      simp only
      cases fieldAtP P fs f with
      | none => rfl
      | some p =>
        obtain ⟨off, size⟩ := p
        simp only
        cases Nat.blt 0 size with
        | false => rfl
        | true =>
          simp only [cond_true]
          refine pv1_run (oFieldAddr off) x (fun a => match a with | some (.pointer (some ⟨r, o, none⟩)) => some (.pointer (some ⟨r, o + off, none⟩)) | _ => none) fun g => ?_
          unfold oFieldAddr
          simp only [forceN_eq]
          rfl
    | _ => rfl
theorem o_field (t : TypeId) (x : Operand) (f : Nat) : rOp P nv ih (.field t x f) vs h nx = match fieldF P t f with
    | some ((agg, size), off) => outP (match opV nv x vs with | some (.agg cs) => part1 agg size cs.toList off | _ => none)
    | none => .bad := by
  unfold rOp
  show runO (dField P nv t x f) ih vs [] h nx = _
  unfold dField fieldF
  cases ty P t with
  | none => rfl
  | some i =>
    simp only
    cases i.desc with
    | struct fs =>
      simp only
      cases fs[f]? with
      | none => rfl
      | some p =>
        simp only
        cases ty P p.type with
        | none => rfl
        | some j => exact pv1_run (oField j.agg j.size p.offset) x (fun a => match a with | some (.agg cs) => part1 j.agg j.size cs.toList p.offset | _ => none) fun g => rfl
    | _ => rfl
def addrO (n : Nat) (r o size : Nat) (ix : Value) : Option Value := match idxOf n ix with | some i => some (.pointer (some ⟨r, o + i * size, none⟩)) | none => none
theorem elemAddr_eq (r o n size : Nat) (ix : Value) : elemAddr r o n size ix = addrO n r o size ix := by
  unfold elemAddr addrO
  cases idxOf n ix with
  | none => rfl
  | some i => simp only [forceN_eq]; rfl
theorem o_indexAddr (t : TypeId) (x y : Operand) : rOp P nv ih (.indexAddr t x y) vs h nx = match elemF P t with
    | some (none, _, size) => outP (match opV nv x vs, opV nv y vs with | some (.slice (some ⟨r, o, none⟩) n _), some ix => addrO n r o size ix | _, _ => none)
    | some (some n, _, size) => outP (match opV nv x vs, opV nv y vs with | some (.pointer (some ⟨r, o, none⟩)), some ix => addrO n r o size ix | _, _ => none)
    | none => .bad := by
  unfold rOp
  show runO (dIndexAddr P nv t x y) ih vs [] h nx = _
  unfold dIndexAddr elemF
  cases ty P t with
  | none => rfl
  | some i =>
    simp only
    cases i.desc with
    | array n e =>
      simp only
      cases ty P e with
      | none => rfl
      | some j =>
        refine pv2_run (oIndexArr n j.size) x y (fun a b => match a, b with | some (.pointer (some ⟨r, o, none⟩)), some ix => addrO n r o j.size ix | _, _ => none) fun f g => ?_
        unfold oIndexArr
        simp only [elemAddr_eq]
        rfl
    | slice e =>
      simp only
      cases ty P e with
      | none => rfl
      | some j =>
        refine pv2_run (oIndexSl j.size) x y (fun a b => match a, b with | some (.slice (some ⟨r, o, none⟩) n _), some ix => addrO n r o j.size ix | _, _ => none) fun f g => ?_
        unfold oIndexSl
        simp only [elemAddr_eq]
        rfl
    | _ => rfl
def opVs (nv : Nat) (vs : Vs) : List Operand → Option (List Value)
  | [] => some []
  | x :: l => (match opV nv x vs with | some v => (match opVs nv vs l with | some us => some (v :: us) | none => none) | none => none)
theorem opVs_eq {l : List Operand} {m : List OpV} (hl : dXs nv l = .mk m) : evs m vs [] = opVs nv vs l := by
  induction l generalizing m with
  | nil => cases hl; rfl
  | cons x l ihl =>
    obtain ⟨f, hf⟩ := dX_some nv x
    obtain ⟨k, hk⟩ := dXs_some nv l
    have e : dXs nv (x :: l) = match dX nv x, dXs nv l with | .mk f, .mk l => .mk (f :: l) := rfl
    rw [e, hf, hk] at hl
    cases hl
    have e2 : evs (f :: k) vs [] = match f vs [] with | some v => (match evs k vs [] with | some us => some (v :: us) | none => none) | none => none := rfl
    rw [e2, ihl hk, opV_of hf]
    rfl
theorem o_call (f : FuncId) (args : Array Operand) (ts : Array TypeId) : rOp P nv ih (.call { callee := .value (.func f), args := args, argTypes := ts }) vs h nx =
    match opVs nv vs args.toList with | some us => (bif hasBody P f then callF f us ih h nx else .bad) | none => .bad := by
  unfold rOp
  show runO (dCall P nv { callee := .value (.func f), args := args, argTypes := ts }) ih vs [] h nx = _
  unfold dCall
  obtain ⟨m, hm⟩ := dXs_some nv args.toList
  simp only [hm]
  cases hb : hasBody P f with
  | false =>
    simp only [cond_false]
    cases opVs nv vs args.toList <;> rfl
  | true =>
    simp only [cond_true]
    show oCallF f m ih vs [] h nx = _
    unfold oCallF
    rw [opVs_eq hm]
    cases opVs nv vs args.toList <;> rfl
theorem o_callV (x : Operand) (hx : ∀ f, x ≠ .func f) (args : Array Operand) (ts : Array TypeId) : rOp P nv ih (.call { callee := .value x, args := args, argTypes := ts }) vs h nx =
    match opV nv x vs, opVs nv vs args.toList with
    | some (.func (.func f) xs ys), some us => callF f (xs.toList ++ us ++ ys.toList) ih h nx
    | some (.func (.yield l) xs ys), some us => bif xs.isEmpty && ys.isEmpty then yieldV l us ih h nx else .bad
    | _, _ => .bad := by
  unfold rOp
  show runO (dCall P nv { callee := .value x, args := args, argTypes := ts }) ih vs [] h nx = _
  unfold dCall
  obtain ⟨m, hm⟩ := dXs_some nv args.toList
  obtain ⟨g, hg⟩ := dX_some nv x
  simp only [hm]
  cases x with
  | func f => exact absurd rfl (hx f)
  | _ =>
    simp only [hg]
    show oCallV g m ih vs [] h nx = _
    unfold oCallV
    rw [opVs_eq hm, opV_of hg]
    rfl
def lenK (P : Program) (t : TypeId) : Option Nat := match ty P t with
  | some i => (match i.desc with | .slice _ => some 0 | .string => some 1 | .map _ _ => some 2 | .array n _ => some (n + 3) | _ => none)
  | none => none
def lenO (h : Hp) (k : Option Nat) (v : Option Value) : Out := match k with
  | some 0 => outP (match v with | some (.slice _ n _) => some (.int .i64 (n : Int)) | _ => none)
  | some 1 => outP (match v with | some (.string s) => some (.int .i64 (s.size : Int)) | _ => none)
  | some 2 => (match (match v with
    | some (.map (some r)) => (match hget h r with | some (.map es _) => LV.v (.int .i64 (.ofNat es.length)) r | _ => .no)
    | _ => .no) with | .v v r => .rd v r | .no => .bad)
  | some (n + 3) => outP (match v with | some _ => some (.int .i64 (n : Int)) | none => none)
  | none => .bad
theorem o_len (x : Operand) (t : TypeId) : rOp P nv ih (.call { callee := .builtin .len, args := #[x], argTypes := #[t] }) vs h nx = lenO h (lenK P t) (opV nv x vs) := by
  unfold rOp
  show runO (dCall P nv { callee := .builtin .len, args := #[x], argTypes := #[t] }) ih vs [] h nx = _
  obtain ⟨f, hf⟩ := dX_some nv x
  have hm : dXs nv [x] = .mk [f] := by
    have e : dXs nv [x] = match dX nv x, dXs nv [] with | .mk f, .mk l => .mk (f :: l) := rfl
    rw [e, hf]; rfl
  unfold dCall
  simp only [hm]
  rw [← opV_of hf]
  unfold dBuiltin lenK lenO
  simp only
  cases hi : ty P t with
  | none => rfl
  | some i =>
    simp only
    cases hd : i.desc with
    | slice e => show outP (oLenSl f vs []) = _; rfl
    | string => show outP (oLenStr f vs []) = _; rfl
    | map k e => show (match oLenMap f vs [] h with | .v v r => Out.rd v r | .no => .bad) = _; rfl
    | array n e => show outP (oLenArr n f vs []) = _; rfl
    | _ => rfl
theorem o_nil (x : Operand) : rOp P nv ih (.nilCheck x) vs h nx = outP (match opV nv x vs with | some (.pointer (some p)) => some (.pointer (some p)) | _ => none) := pv1_run oNil x (fun a => match a with | some (.pointer (some p)) => some (.pointer (some p)) | _ => none) fun f => rfl
theorem o_makeFunc (f : FuncId) (xs ys : Array Operand) : rOp P nv ih (.makeFunc (.func f) xs ys) vs h nx = outP (match opVs nv vs xs.toList, opVs nv vs ys.toList with | some us, some ws => some (.func (.func f) us.toArray ws.toArray) | _, _ => none) := by
  unfold rOp
  show runO (dMakeFunc nv (.func f) xs ys) ih vs [] h nx = _
  unfold dMakeFunc
  obtain ⟨m, hm⟩ := dXs_some nv xs.toList
  obtain ⟨k, hk⟩ := dXs_some nv ys.toList
  simp only [hm, hk]
  show outP (oMakeFunc f m k vs []) = _
  unfold oMakeFunc
  rw [opVs_eq hm, opVs_eq hk]
  rfl
theorem binV_int (op : BinOp) (t : TypeId) (x y : Operand) (a b : Int) (ho : fastOp op = true) : binV P op t x y (.int .i64 a) (.int .i64 b) = intOp op .i64 a b := by
  unfold binV
  simp only [ho]
  rfl
theorem intOp_add (k : IntKind) (a b : Int) : intOp .add k a b = some (.int k (k.wrap (a + b))) := by unfold intOp; simp only [mkI_eq, wrapI_eq]; rfl
theorem intOp_sub (k : IntKind) (a b : Int) : intOp .sub k a b = some (.int k (k.wrap (a - b))) := by unfold intOp; simp only [mkI_eq, wrapI_eq]; rfl
theorem intOp_mul (k : IntKind) (a b : Int) : intOp .mul k a b = some (.int k (k.wrap (a * b))) := by unfold intOp; simp only [mkI_eq, wrapI_eq]; rfl
theorem intOp_eql (k : IntKind) (a b : Int) : intOp .eql k a b = some (.bool (a == b)) := by unfold intOp; simp only [mkB_eq, eqI_eq]
theorem intOp_neq (k : IntKind) (a b : Int) : intOp .neq k a b = some (.bool (!(a == b))) := by unfold intOp; simp only [mkB_eq, eqI_eq]
theorem intOp_lss (k : IntKind) (a b : Int) : intOp .lss k a b = some (.bool (decide (a < b))) := by unfold intOp; simp only [mkB_eq, ltI_eq]
theorem intOp_leq (k : IntKind) (a b : Int) : intOp .leq k a b = some (.bool (decide (a ≤ b))) := by
  unfold intOp; simp only [mkB_eq, ltI_eq]
  congr 2
  by_cases q : a ≤ b
  · have : ¬ b < a := by omega
    simp [q, this]
  · have : b < a := by omega
    simp [q, this]
theorem intOp_gtr (k : IntKind) (a b : Int) : intOp .gtr k a b = some (.bool (decide (b < a))) := by unfold intOp; simp only [mkB_eq, ltI_eq]
theorem intOp_geq (k : IntKind) (a b : Int) : intOp .geq k a b = some (.bool (decide (b ≤ a))) := by
  unfold intOp; simp only [mkB_eq, ltI_eq]
  congr 2
  by_cases q : b ≤ a
  · have : ¬ a < b := by omega
    simp [q, this]
  · have : a < b := by omega
    simp [q, this]
theorem wrap_small64 (n : Int) (h1 : -9223372036854775808 ≤ n) (h2 : n ≤ 9223372036854775807) : IntKind.wrap .i64 n = n := by
  show (if (true && decide ((n % 18446744073709551616 : Int) ≥ 9223372036854775808)) = true then (n % 18446744073709551616 : Int) - 18446744073709551616 else (n % 18446744073709551616 : Int)) = n
  by_cases hc : (n % 18446744073709551616 : Int) ≥ 9223372036854775808
  · rw [if_pos (by simpa using hc)]; omega
  · rw [if_neg (by simpa using hc)]; omega
theorem unV_not (b : Bool) : unV P .not (.bool b) = some (.bool (!b)) := by unfold unV; simp only [mkB_eq]
theorem idx_nat (n : Nat) (k : IntKind) (i : Nat) (hi : i < n) : idxOf n (.int k (i : Int)) = some i := by
  show (Bool.rec none (some i) (Nat.blt i n) : Option Nat) = _
  rw [blt_eq]; simp [hi]
theorem idx_int (n : Nat) (k : IntKind) (z : Int) (h0 : 0 ≤ z) (h1 : z < n) : idxOf n (.int k z) = some z.toNat := by
  obtain ⟨i, rfl⟩ := Int.eq_ofNat_of_zero_le h0
  rw [idx_nat n k i (by omega)]
  rfl
theorem part1_one (size : Nat) (cs : List Value) (o : Nat) : part1 false size cs o = cs[o]? := nth_eq cs o
theorem part1_agg (size : Nat) (cs : List Value) (o : Nat) (hs : o + size ≤ cs.length) : part1 true size cs o = some (.agg ((cs.drop o).take size).toArray) := by
  show (match takeL size (dropL o cs) with | some l => some (.agg l.toArray) | none => none : Option Value) = _
  rw [dropL_eq]
  have : takeL size (cs.drop o) = some ((cs.drop o).take size) := by
    have key : ∀ (n : Nat) (l : List Value), n ≤ l.length → takeL n l = some (l.take n) := by
      intro n
      induction n with
      | zero => intro l _; rw [takeL_zero]; simp
      | succ n ihn =>
        intro l hl
        cases l with
        | nil => simp at hl
        | cons y l => rw [takeL_cons, ihn l (by simpa using hl)]; rfl
    exact key size _ (by simp; omega)
  rw [this]
end Lm
end Go
namespace Go
namespace Lm
variable [Lo]
open Go.RowKit
variable {P : Program}
abbrev Kn := FuncId → List Value → Hp → Nat → Option Value
def Kn.Ok (P : Program) (S : Kn) : Prop := ∀ f args h nx v, S f args h nx = some v → hasBody P f = true ∧ ∀ (R : Ren) (w : World) (F : Fence) (args' : Array Value), HR R h w → Dom R nx → (∀ g, g < NG → R.blk g = some g) → Wd F → VL R args args'.toList →
  CallsIn F 0 P f args' w (fun e w' => ∃ v', e = .returned v' ∧ VR R v v' ∧ Below w.heap.size w w')
def orcL (S : Kn) (ih : Rec) : Rec := fun t h nx =>
  match t with
  | .call f args => (match S f args h nx with | some v => .val v h nx [] | none => ih (.call f args) h nx)
  | t => ih t h nx
variable (P) in
def baseL (nvs : List (Nat × Nat)) (S : Kn) (n : Nat) : Rec := Nat.rec (fun _ _ _ => .no) (fun _ ih t => exTask P nvs t (orcL S ih)) n
variable (P) in
def execL (nvs : List (Nat × Nat)) (S : Kn) (n : Nat) : Rec := orcL S (baseL P nvs S n)
theorem orcL_ok {ih : Rec} (hr : RecOk P ih) {S : Kn} (hS : S.Ok P) : RecOk P (orcL S ih) := by
  have key : ∀ {f : FuncId} {args : List Value} {h : Hp} {nx : Nat} {v : Value} {h' : Hp} {nx' : Nat} {M : List Nat}, orcL S ih (.call f args) h nx = .val v h' nx' M →
      ih (.call f args) h nx = .val v h' nx' M ∨ (S f args h nx = some v ∧ h' = h ∧ nx' = nx ∧ M = []) := by
    intro f args h nx v h' nx' M e
    have e2 : orcL S ih (.call f args) h nx = (match S f args h nx with | some v => .val v h nx [] | none => ih (.call f args) h nx) := rfl
    rw [e2] at e
    cases h1 : S f args h nx with
    | none => rw [h1] at e; exact .inl e
    | some u =>
      rw [h1] at e
      cases e
      exact .inr ⟨rfl, rfl, rfl, rfl⟩
  refine ⟨fun e => ?_, fun e => ?_, fun hB hF st g => hr.code hB hF st g⟩
  · rcases key e with q | ⟨q, _⟩
    · exact hr.body q
    · exact (hS _ _ _ _ _ q).1
  · intro R w F args' hh hd hgl hF hv
    rcases key e with q | ⟨q, rfl, rfl, rfl⟩
    · exact hr.call q hh hd hgl hF hv
    · have hc := (hS _ _ _ _ _ q).2 R w F args' hh hd hgl hF hv
      refine hc.mono fun e w' q => ?_
      obtain ⟨v', h1, h2, h3⟩ := q
      refine ⟨v', R, h1, h2, ⟨.refl R, Nat.le_refl _, Nat.le_refl _, h3.size, h3.os, h3.tape, h3.output, fun r b hb => .inl hb, fun k hk _ => h3.block k hk, fun _ _ _ => rfl, fun r b x hr hb _ _ => ?_, fun r s b h1 _ h3 _ _ _ => ?_, fun m hm => (by cases hm), fun m hm => (by cases hm)⟩⟩
      · rcases hr with hr | hr
        · have := hd.2 r b hb; omega
        · cases hr
      · have := hd.2 r b h3; omega
theorem execL_ok (hdr : DrawOk P) {nvs : List (Nat × Nat)} {S : Kn} (hS : S.Ok P) (m : Nat) : RecOk P (execL P nvs S m) := by
  have base : RecOk P (baseL P nvs S m) := by
    induction m with
    | zero =>
      refine ⟨fun h => ?_, fun h => ?_, fun hB hF st g => ?_⟩
      · cases h
      · cases h
      · exact g.elim
    | succ m ih =>
      have ih' := orcL_ok ih hS
      refine ⟨fun h => ?_, fun h => ?_, fun {c nv n z vs h nx B F R a w Q} hB hF st g => ?_⟩
      · exact (exCall_ok hdr ih' h).1
      · exact (exCall_ok hdr ih' h).2
      · have e : baseL P nvs S (m + 1) (.code c nv n z vs) h nx = exCode P c nv n z vs (orcL S (baseL P nvs S m)) h nx := rfl
        rw [e] at g
        unfold exCode at g
        split at g
        · rename_i f hf
          exact code_ok hdr hB hF ih' c hf (ks_nor _ Q) _ _ _ _ _ _ _ _ st g
        · exact g.elim
  exact orcL_ok base hS
omit [Lo] in
theorem execL_call {nvs : List (Nat × Nat)} {S : Kn} {m : Nat} {f : FuncId} {args : List Value} {h : Hp} {nx : Nat} (hn : S f args h nx = none) : execL P nvs S (m + 1) (.call f args) h nx = exCall P nvs f args (execL P nvs S m) h nx := by
  show (match S f args h nx with | some v => R.val v h nx [] | none => baseL P nvs S (m + 1) (.call f args) h nx) = _
  rw [hn]
  rfl
omit [Lo] in
theorem execL_known {nvs : List (Nat × Nat)} {S : Kn} {m : Nat} {f : FuncId} {args : List Value} {h : Hp} {nx : Nat} {v : Value} (hn : S f args h nx = some v) : execL P nvs S m (.call f args) h nx = .val v h nx [] := by
  show (match S f args h nx with | some v => R.val v h nx [] | none => baseL P nvs S m (.call f args) h nx) = _
  rw [hn]
end Lm
end Go
namespace Go
namespace Lm
variable {P : Program} {nvs : List (Nat × Nat)}
theorem enum_nil (i : Nat) : enum [] i = Lv.nil Value VD := rfl
theorem enum_cons (x : Value) (l : List Value) (i : Nat) : enum (x :: l) i = put (some i) x (enum l (i + 1)) := rfl
def resO (P : Program) (nv : Nat) (r : ResultVar) (vs : Vs) (h : Hp) : Option Value :=
  match r with
  | .tmp t => opV nv (.tmp t) vs
  | .cell a t => (match tyS P t, opV nv (.tmp a) vs with
    | some (agg, size), some (.pointer (some ⟨r, o, none⟩)) => loadAt agg size h r o
    | _, _ => none)
def resVs (P : Program) (nv : Nat) (vs : Vs) (h : Hp) : List ResultVar → Option (List Value)
  | [] => some []
  | r :: l => (match resO P nv r vs h with | some v => (match resVs P nv vs h l with | some us => some (v :: us) | none => none) | none => none)
theorem resO_eq (nv : Nat) (r : ResultVar) (vs : Vs) (h : Hp) : resOf (dRes P nv r) vs h = resO P nv r vs h := by
  cases r with
  | tmp t =>
    unfold dRes resO opV
    cases dX nv (.tmp t) with
    | mk f => rfl
  | cell a t =>
    unfold dRes resO opV tyS
    simp only
    cases ty P t with
    | none =>
      cases dX nv (.tmp a) with
      | mk f => cases f vs [] <;> rfl
    | some i =>
      cases dX nv (.tmp a) with
      | mk f =>
        show (match f vs [] with | some (.pointer (some ⟨r, o, none⟩)) => loadAt i.agg i.size h r o | _ => none) = (match some (i.agg, i.size), f vs [] with
          | some (agg, size), some (.pointer (some ⟨r, o, none⟩)) => loadAt agg size h r o
          | _, _ => none)
        cases f vs [] with
        | none => rfl
        | some v => cases v with
          | pointer p => cases p with
            | none => rfl
            | some a => obtain ⟨r, o, sp⟩ := a; cases sp <;> rfl
          | _ => rfl
theorem resVs_eq (nv : Nat) (rs : List ResultVar) (vs : Vs) (h : Hp) : resL (rs.map (dRes P nv)) vs h = resVs P nv vs h rs := by
  induction rs with
  | nil => rfl
  | cons r l ih =>
    have e : resL ((r :: l).map (dRes P nv)) vs h = match resOf (dRes P nv r) vs h with | some v => (match resL (l.map (dRes P nv)) vs h with | some us => some (v :: us) | none => none) | none => none := rfl
    rw [e, resO_eq, ih]
    rfl
def doneR (P : Program) (nv : Nat) (rs : List ResultVar) (r : R) : R :=
  match r with
  | .nor z vs h nx => (match shut z.D h with | some h' => (match resVs P nv vs h' rs with | some us => .val (tup us) h' nx z.log | none => .no) | none => .no)
  | .ret z vs h nx => (match shut z.D h with | some h' => (match resVs P nv vs h' rs with | some us => .val (tup us) h' nx z.log | none => .no) | none => .no)
  | _ => .no
theorem finR_eq (nv : Nat) (rs : List ResultVar) (r : R) : finR P nv rs r = doneR P nv rs r := by
  unfold finR fin doneR leave
  cases r with
  | nor z vs h nx =>
    simp only
    cases shut z.D h with
    | none => rfl
    | some h' => simp only [resVs_eq]; cases resVs P nv vs h' rs <;> rfl
  | ret z vs h nx =>
    simp only
    cases shut z.D h with
    | none => rfl
    | some h' => simp only [resVs_eq]; cases resVs P nv vs h' rs <;> rfl
  | _ => rfl
theorem shut_nil (h : Hp) : shut [] h = some h := rfl
theorem tup_one (v : Value) : tup [v] = v := rfl
theorem tup_two (u v : Value) : tup [u, v] = .tuple #[u, v] := rfl
theorem tup_three (u v x : Value) : tup [u, v, x] = .tuple #[u, v, x] := rfl
theorem exCall_eq {f : FuncId} {fn : Func} {body : Code} (hf : P.funcs[f]? = some fn) (hb : fn.body = some body) (hm : fnMk P nvs f fn = true) (ih : Rec) (args : List Value) (h : Hp) (nx : Nat) (ha : args.length ≤ fn.ntmps) :
    exCall P nvs f args ih h nx = finR P fn.ntmps fn.results.toList (rC P fn.ntmps fn.ntmps ih body ⟨nx, none, [], []⟩ (enum args 0) h nx) := by
  unfold exCall
  unfold fnMk at hm
  cases hd : dFn P nvs f with
  | bad => rw [hd] at hm; cases hm
  | mk g rs n nv =>
    rw [hd] at hm
    simp only [Bool.and_eq_true] at hm
    obtain ⟨fn', body', h1, h2, h3, h4, h5, h6, _⟩ := dFn_eq hd
    rw [hf] at h1; cases h1
    rw [hb] at h2; cases h2
    have hnv : n = nv := Nat.eq_of_beq_eq_true hm.1
    subst hnv h5
    simp only
    rw [Nat.ble_eq_true_of_le ha]
    simp only [Bool.and_self, cond_true]
    rw [dCode_eq rfl h3, h4]
    unfold finR
    rw [show (fun z vs h nx => kNor ih z vs [] h nx) = R.nor from rfl, bindR_nor]
def Kn.Only (S : Kn) (W : List FuncId) : Prop := ∀ f a h nx, f ∉ W → S f a h nx = none
structure Fun (P : Program) (nvs : List (Nat × Nat)) (f : FuncId) (n : Nat) (rs : List ResultVar) (s : SC) : Prop where
  run : ∀ (ih : Rec) (args : List Value) (h : Hp) (nx : Nat), args.length ≤ n → exCall P nvs f args ih h nx = doneR P n rs (sC P n n ih s ⟨nx, none, [], []⟩ (enum args 0) h nx)
theorem Fun.of {f : FuncId} {fn : Func} {s : SC} {n : Nat} {rs : List ResultVar} (hf : P.funcs[f]? = some fn) (hs : fn.body.map strip = some s) (hm : fnMk P nvs f fn = true) (hn : fn.ntmps = n) (hr : fn.results.toList = rs) (hl : n ≤ 1000000000) : Fun P nvs f n rs s := by
  refine ⟨fun ih args h nx ha => ?_⟩
  subst hn hr
  cases hb : fn.body with
  | none => rw [hb] at hs; cases hs
  | some body =>
    rw [hb] at hs
    cases hs
    rw [exCall_eq hf hb hm ih args h nx ha, finR_eq, strip_eq hl]
theorem callF_ground {f : FuncId} {us : List Value} {ih : Rec} {h : Hp} {nx : Nat} {v : Value} (hg : ground v = true) {h1 : Hp} {n1 : Nat} (hv : ih (.call f us) h nx = .val v h1 n1 []) : callF f us ih h nx = .gen v h nx [] := by
  unfold callF
  rw [hv]
  show (Bool.rec (match cmp3 h1 nx v ⟨h, nx, []⟩ with | some (u, s) => Out.gen u s.h s.nx [] | none => Out.gen v h1 n1 []) (Out.gen v h nx []) (ground v) : Out) = _
  rw [hg]
theorem Fun.ground {f : FuncId} {n : Nat} {rs : List ResultVar} {s : SC} (F : Fun P nvs f n rs s) {S : Kn} {m : Nat} {us : List Value} {h : Hp} {nx : Nat} {v : Value} (hn : S f us h nx = none) (hm : 1 ≤ m) (hg : ground v = true) (ha : us.length ≤ n)
    (hx : ∃ h1 n1, doneR P n rs (sC P n n (execL P nvs S (m - 1)) s ⟨nx, none, [], []⟩ (enum us 0) h nx) = .val v h1 n1 []) : callF f us (execL P nvs S m) h nx = .gen v h nx [] := by
  obtain ⟨k, rfl⟩ : ∃ k, m = k + 1 := ⟨m - 1, by omega⟩
  obtain ⟨h1, n1, hx⟩ := hx
  rw [Nat.add_sub_cancel] at hx
  exact callF_ground hg ((execL_call hn).trans ((F.run _ us h nx ha).trans hx))
theorem known_ground {f : FuncId} {S : Kn} {m : Nat} {us : List Value} {h : Hp} {nx : Nat} {v : Value} (hn : S f us h nx = some v) (hg : ground v = true) : callF f us (execL P nvs S m) h nx = .gen v h nx [] :=
  callF_ground hg (execL_known hn)
section
variable {nv n : Nat} {ih : Rec} {z : Z} {vs : Vs} {h : Hp} {nx : Nat}
theorem s_skip : sC P nv n ih .skip z vs h nx = .nor z vs h nx := rfl
theorem s_reg (l : List SOp) : sC P nv n ih (.reg l) z vs h nx = roR (sOps P nv ih l z vs h nx) := rfl
variable (P nv n ih) in
def contC (b : SC) (r : R) : R := bindR r (sC P nv n ih b)
theorem s_seq (a b : SC) : sC P nv n ih (.seq a b) z vs h nx = contC P nv n ih b (sC P nv n ih a z vs h nx) := rfl
theorem k_nor (b : SC) : contC P nv n ih b (.nor z vs h nx) = sC P nv n ih b z vs h nx := rfl
theorem k_ret (b : SC) : contC P nv n ih b (.ret z vs h nx) = .ret z vs h nx := rfl
theorem k_exi (b : SC) (id : Nat) : contC P nv n ih b (.exi id z vs h nx) = .exi id z vs h nx := rfl
variable (P nv n ih) in
def condC (a b : SC) (z : Z) (vs : Vs) (h : Hp) (nx : Nat) (v : Option Value) : R := match v with
      | some (.bool t) => bif t then sC P nv n ih a z vs h nx else sC P nv n ih b z vs h nx
      | _ => .no
theorem s_cond (x : Operand) (a b : SC) : sC P nv n ih (.cond x a b) z vs h nx = condC P nv n ih a b z vs h nx (opV nv x vs) := rfl
theorem c_true (a b : SC) : condC P nv n ih a b z vs h nx (some (.bool true)) = sC P nv n ih a z vs h nx := rfl
theorem c_false (a b : SC) : condC P nv n ih a b z vs h nx (some (.bool false)) = sC P nv n ih b z vs h nx := rfl
def blockR (id : Nat) (r : R) : R := match r with
    | .exi j z vs h nx => bif Nat.beq j id then .nor z vs h nx else .exi j z vs h nx
    | r => r
theorem s_block (id : Nat) (a : SC) : sC P nv n ih (.block id a) z vs h nx = blockR id (sC P nv n ih a z vs h nx) := by
  show (match sC P nv n ih a z vs h nx with
    | .exi j z vs h nx => bif Nat.beq j id then R.nor z vs h nx else R.exi j z vs h nx
    | r => r) = _
  unfold blockR
  cases sC P nv n ih a z vs h nx <;> rfl
theorem bk_nor (id : Nat) : blockR id (.nor z vs h nx) = .nor z vs h nx := rfl
theorem bk_ret (id : Nat) : blockR id (.ret z vs h nx) = .ret z vs h nx := rfl
theorem bk_exi (id j : Nat) : blockR id (.exi j z vs h nx) = if j = id then .nor z vs h nx else .exi j z vs h nx := by
  show (bif Nat.beq j id then R.nor z vs h nx else R.exi j z vs h nx) = _
  by_cases q : j = id
  · subst q; simp
  · have : Nat.beq j id = false := by rw [beq_eq']; simpa using q
    rw [this, if_neg q]; rfl
theorem s_loop (a : SC) : sC P nv n ih (.loop a) z vs h nx = loopR (sC P nv n ih a) z vs h nx := rfl
theorem s_exit (id : Nat) : sC P nv n ih (.exit id) z vs h nx = .exi id z vs h nx := rfl
theorem s_ret : sC P nv n ih .ret z vs h nx = .ret z vs h nx := rfl
theorem ro_st : roR (.st z vs h nx) = .nor z vs h nx := rfl
theorem p_nil : sOps P nv ih [] z vs h nx = .st z vs h nx := rfl
variable (P nv ih) in
def contO (l : List SOp) (r : RO) : RO := match r with | .st z vs h nx => sOps P nv ih l z vs h nx | .no => .no
theorem p_cons (o : SOp) (l : List SOp) : sOps P nv ih (o :: l) z vs h nx = contO P nv ih l (sOne P nv ih o z vs h nx) := by
  show (match sOne P nv ih o z vs h nx with | .st z vs h nx => sOps P nv ih l z vs h nx | .no => .no) = _
  unfold contO
  cases sOne P nv ih o z vs h nx <;> rfl
theorem ko_st (l : List SOp) : contO P nv ih l (.st z vs h nx) = sOps P nv ih l z vs h nx := rfl
theorem one_plain (d : Option Nat) (op : Op) : sOne P nv ih ⟨d, op, none⟩ z vs h nx = rOut d z vs h nx (rOp P nv ih op vs h nx) := rfl
variable (P nv ih) in
def guardO (d : Option Nat) (op : Op) (b : Bool) (z : Z) (vs : Vs) (h : Hp) (nx : Nat) (v : Option Value) : RO := match v with
    | some (.bool y) => bif y == b then rOut d z vs h nx (rOp P nv ih op vs h nx) else .st z (put d undef vs) h nx
    | some _ => .st z (put d undef vs) h nx
    | none => .no
theorem one_guard (d : Option Nat) (op : Op) (t : Nat) (b : Bool) : sOne P nv ih ⟨d, op, some (t, b)⟩ z vs h nx = guardO P nv ih d op b z vs h nx (opV nv (.tmp t) vs) := by
  show (match opV nv (.tmp t) vs with
    | some (.bool y) => bif y == b then rOut d z vs h nx (rOp P nv ih op vs h nx) else RO.st z (put d undef vs) h nx
    | some _ => RO.st z (put d undef vs) h nx
    | none => .no) = _
  unfold guardO
  cases opV nv (.tmp t) vs with
  | none => rfl
  | some v => cases v <;> rfl
theorem g_tt (d : Option Nat) (op : Op) : guardO P nv ih d op true z vs h nx (some (.bool true)) = rOut d z vs h nx (rOp P nv ih op vs h nx) := rfl
theorem g_ff (d : Option Nat) (op : Op) : guardO P nv ih d op false z vs h nx (some (.bool false)) = rOut d z vs h nx (rOp P nv ih op vs h nx) := rfl
theorem g_tf (d : Option Nat) (op : Op) : guardO P nv ih d op true z vs h nx (some (.bool false)) = .st z (put d undef vs) h nx := rfl
theorem g_ft (d : Option Nat) (op : Op) : guardO P nv ih d op false z vs h nx (some (.bool true)) = .st z (put d undef vs) h nx := rfl
theorem out_pur (d : Option Nat) (v : Value) : rOut d z vs h nx (.pur v) = .st z (put d v vs) h nx := rfl
theorem out_rd (d : Option Nat) (v : Value) (r : Nat) : rOut d z vs h nx (.rd v r) = .st z (put d v vs) h nx := rfl
theorem out_new (d : Option Nat) (v : Value) (h' : Hp) (n' : Nat) : rOut d z vs h nx (.new v h' n') = .st z (put d v vs) h' n' := rfl
theorem out_wr (d : Option Nat) (h' : Hp) (r : Nat) : rOut d z vs h nx (.wr h' r) = .st (logZ z [r]) (put d undef vs) h' nx := rfl
theorem out_gen (d : Option Nat) (v : Value) (h' : Hp) (n' : Nat) (M : List Nat) : rOut d z vs h nx (.gen v h' n' M) = .st (logZ z M) (put d v vs) h' n' := rfl
theorem log_nil : logZ z [] = z := rfl
theorem log_own (z : Z) (r : Nat) (hr : z.n0 ≤ r) : logZ z [r] = z := by
  unfold logZ
  rw [logs_none hr]
theorem done_ret (rs : List ResultVar) (n0 : Nat) (rd : Option Nat) (log : List Nat) : doneR P nv rs (.ret ⟨n0, rd, [], log⟩ vs h nx) = (match resVs P nv vs h rs with | some us => .val (tup us) h nx log | none => .no) := rfl
theorem done_nor (rs : List ResultVar) (n0 : Nat) (rd : Option Nat) (log : List Nat) : doneR P nv rs (.nor ⟨n0, rd, [], log⟩ vs h nx) = (match resVs P nv vs h rs with | some us => .val (tup us) h nx log | none => .no) := rfl
end
theorem bin_add (t : TypeId) (x y : Operand) (a b : Int) : binV P .add t x y (.int .i64 a) (.int .i64 b) = some (.int .i64 (IntKind.wrap .i64 (a + b))) := (binV_int .add t x y a b rfl).trans (intOp_add .i64 a b)
theorem bin_sub (t : TypeId) (x y : Operand) (a b : Int) : binV P .sub t x y (.int .i64 a) (.int .i64 b) = some (.int .i64 (IntKind.wrap .i64 (a - b))) := (binV_int .sub t x y a b rfl).trans (intOp_sub .i64 a b)
theorem bin_mul (t : TypeId) (x y : Operand) (a b : Int) : binV P .mul t x y (.int .i64 a) (.int .i64 b) = some (.int .i64 (IntKind.wrap .i64 (a * b))) := (binV_int .mul t x y a b rfl).trans (intOp_mul .i64 a b)
theorem bin_eql (t : TypeId) (x y : Operand) (a b : Int) : binV P .eql t x y (.int .i64 a) (.int .i64 b) = some (.bool (a == b)) := (binV_int .eql t x y a b rfl).trans (intOp_eql .i64 a b)
theorem bin_neq (t : TypeId) (x y : Operand) (a b : Int) : binV P .neq t x y (.int .i64 a) (.int .i64 b) = some (.bool (!(a == b))) := (binV_int .neq t x y a b rfl).trans (intOp_neq .i64 a b)
theorem bin_lss (t : TypeId) (x y : Operand) (a b : Int) : binV P .lss t x y (.int .i64 a) (.int .i64 b) = some (.bool (decide (a < b))) := (binV_int .lss t x y a b rfl).trans (intOp_lss .i64 a b)
theorem bin_leq (t : TypeId) (x y : Operand) (a b : Int) : binV P .leq t x y (.int .i64 a) (.int .i64 b) = some (.bool (decide (a ≤ b))) := (binV_int .leq t x y a b rfl).trans (intOp_leq .i64 a b)
theorem bin_gtr (t : TypeId) (x y : Operand) (a b : Int) : binV P .gtr t x y (.int .i64 a) (.int .i64 b) = some (.bool (decide (b < a))) := (binV_int .gtr t x y a b rfl).trans (intOp_gtr .i64 a b)
theorem bin_geq (t : TypeId) (x y : Operand) (a b : Int) : binV P .geq t x y (.int .i64 a) (.int .i64 b) = some (.bool (decide (b ≤ a))) := (binV_int .geq t x y a b rfl).trans (intOp_geq .i64 a b)
theorem rowL_hset_same {h : Hp} {r : Nat} (cs : List Value) (b : Option Nat) : rowL (hset h r (.cells cs b)) r = some cs := by unfold rowL; rw [hget_same]
theorem rowL_hset_other {h : Hp} {r s : Nat} (x : Row) (hn : s ≠ r) : rowL (hset h r x) s = rowL h s := by unfold rowL; rw [hget_other x hn]
theorem storeAt_eq {h : Hp} {size r o : Nat} {v : Value} : storeAt size h r o v = (match hget h r, cellsL v with
  | some (.cells cs b), some l => bif Nat.beq l.length size then
      (match splice cs o l with | some cs' => .wr (hset h r (.cells cs' b)) r | none => .bad)
    else .bad
  | _, _ => .bad) := rfl
theorem beq_same (n : Nat) : Nat.beq n n = true := by simp
theorem opV_t {nv t : Nat} {vs : Vs} : opV nv (.tmp t) vs = bif decide (t < nv) then vs t else none := by
  by_cases q : t < nv
  · rw [opV_tmp t q]; simp [q]
  · rw [opV_big (by omega)]; simp [q]
end Lm
end Go
namespace Go
namespace Lm
def isFin : R → Prop
  | .nor _ _ _ _ => False
  | _ => True
theorem rounds_rule {b : Z → Vs → Hp → Nat → R} {Post : R → Prop} (Inv : Nat → Z → Vs → Hp → Nat → Prop) (N : Nat)
    (step : ∀ i z vs h nx, Inv i z vs h nx → (i < N ∧ ∃ z' vs' h' nx', b z vs h nx = .nor z' vs' h' nx' ∧ Inv (i + 1) z' vs' h' nx') ∨ (isFin (b z vs h nx) ∧ Post (b z vs h nx))) :
    ∀ (k i : Nat) z vs h nx, Inv i z vs h nx → (i + 2 ^ k ≤ N ∧ ∃ z' vs' h' nx', roundsD b k z vs h nx = .nor z' vs' h' nx' ∧ Inv (i + 2 ^ k) z' vs' h' nx') ∨ (isFin (roundsD b k z vs h nx) ∧ Post (roundsD b k z vs h nx)) := by
  intro k
  induction k with
  | zero => intro i z vs h nx hi; exact step i z vs h nx hi
  | succ k ih =>
    intro i z vs h nx hi
    have e : roundsD b (k + 1) z vs h nx = (match roundsD b k z vs h nx with | .nor z vs h nx => roundsD b k z vs h nx | r => r) := rfl
    rw [e]
    have hp : 2 ^ (k + 1) = 2 ^ k + 2 ^ k := by rw [Nat.pow_succ]; omega
    rcases ih i z vs h nx hi with ⟨h1, z', vs', h', nx', h2, h3⟩ | ⟨h1, h2⟩
    · rw [h2]
      simp only
      rcases ih (i + 2 ^ k) z' vs' h' nx' h3 with ⟨q1, z2, vs2, h2', nx2, q2, q3⟩ | ⟨q1, q2⟩
      · exact .inl ⟨by omega, z2, vs2, h2', nx2, q2, by rw [hp, ← Nat.add_assoc]; exact q3⟩
      · exact .inr ⟨q1, q2⟩
    · cases hr : roundsD b k z vs h nx with
      | nor z2 vs2 h2' nx2 => rw [hr] at h1; exact h1.elim
      | no => rw [hr] at h1 h2; exact .inr ⟨h1, h2⟩
      | exi j z2 vs2 h2' nx2 => rw [hr] at h1 h2; exact .inr ⟨h1, h2⟩
      | ret z2 vs2 h2' nx2 => rw [hr] at h1 h2; exact .inr ⟨h1, h2⟩
      | val v h2' nx2 M => rw [hr] at h1 h2; exact .inr ⟨h1, h2⟩
theorem loop_rule {b : Z → Vs → Hp → Nat → R} {Post : R → Prop} (Inv : Nat → Z → Vs → Hp → Nat → Prop) (N : Nat) (hN : N < 2 ^ 62) {z : Z} {vs : Vs} {h : Hp} {nx : Nat} (h0 : Inv 0 z vs h nx)
    (step : ∀ i z vs h nx, Inv i z vs h nx → (i < N ∧ ∃ z' vs' h' nx', b z vs h nx = .nor z' vs' h' nx' ∧ Inv (i + 1) z' vs' h' nx') ∨ (isFin (b z vs h nx) ∧ Post (b z vs h nx))) : Post (loopR b z vs h nx) := by
  rcases rounds_rule Inv N step 62 0 z vs h nx h0 with ⟨h1, _⟩ | ⟨h1, h2⟩
  · omega
  · unfold loopR
    cases hr : roundsD b 62 z vs h nx with
    | nor z2 vs2 h2' nx2 => rw [hr] at h1; exact h1.elim
    | no => rw [hr] at h2; exact h2
    | exi j z2 vs2 h2' nx2 => rw [hr] at h2; exact h2
    | ret z2 vs2 h2' nx2 => rw [hr] at h2; exact h2
    | val v h2' nx2 M => rw [hr] at h2; exact h2
end Lm
end Go
namespace Go
namespace Lm
abbrev vi (n : Int) : Value := .int .i64 n
structure Lst (h : Hp) (nx sz : Nat) (v : Value) (rows : List (List Value)) : Prop where
  form : ∃ a c, v = .slice a rows.length c ∧ ∀ (i : Nat) row, rows[i]? = some row → row.length = sz ∧ ∃ r o cs, a = some ⟨r, o, none⟩ ∧ r < nx ∧ rowL h r = some cs ∧ o + (i + 1) * sz ≤ cs.length ∧ (cs.drop (o + i * sz)).take sz = row
def Same (n : Nat) (h h' : Hp) : Prop := ∀ r, r < n → hget h' r = hget h r
theorem Same.refl (n : Nat) (h : Hp) : Same n h h := fun _ _ => rfl
theorem Same.trans {n : Nat} {h h1 h2 : Hp} (a : Same n h h1) (b : Same n h1 h2) : Same n h h2 := fun r hr => (b r hr).trans (a r hr)
theorem Same.set {n : Nat} {h h1 : Hp} (a : Same n h h1) {r : Nat} (hr : n ≤ r) (x : Row) : Same n h (hset h1 r x) := fun s hs => by rw [hget_other x (by omega)]; exact a s hs
theorem Same.mono {n m : Nat} {h h1 : Hp} (a : Same n h h1) (hm : m ≤ n) : Same m h h1 := fun s hs => a s (by omega)
theorem rowL_same {h h' : Hp} {n r : Nat} (a : Same n h h') (hr : r < n) : rowL h' r = rowL h r := by unfold rowL; rw [a r hr]
theorem Lst.same {h h' : Hp} {nx nx' sz : Nat} {v : Value} {rows : List (List Value)} (k : Lst h nx sz v rows) (a : Same nx h h') (hn : nx ≤ nx') : Lst h' nx' sz v rows := by
  obtain ⟨a0, c, hv, hr⟩ := k.form
  refine ⟨a0, c, hv, fun i row hi => ?_⟩
  obtain ⟨h1, r, o, cs, h2, h3, h4, h5, h6⟩ := hr i row hi
  exact ⟨h1, r, o, cs, h2, by omega, by rw [rowL_same a h3]; exact h4, h5, h6⟩
theorem Lst.load {h : Hp} {nx sz : Nat} {a : Option Addr} {n c : Nat} {rows : List (List Value)} (k : Lst h nx sz (.slice a n c) rows) {i : Nat} (hi : i < n) :
    n = rows.length ∧ ∃ r o row cs, a = some ⟨r, o, none⟩ ∧ r < nx ∧ rows[i]? = some row ∧ row.length = sz ∧ rowL h r = some cs ∧ o + i * sz + sz ≤ cs.length ∧ (cs.drop (o + i * sz)).take sz = row := by
  obtain ⟨a0, c0, hv, hr⟩ := k.form
  cases hv
  have hg := List.getElem?_eq_getElem hi
  obtain ⟨h1, r, o, cs, h2, h3, h4, h5, h6⟩ := hr i _ hg
  exact ⟨rfl, r, o, _, cs, h2, h3, hg, h1, h4, by rw [Nat.succ_mul] at h5; omega, h6⟩
theorem splice_all : ∀ (c l : List Value), l.length = c.length → splice c 0 l = some l := by
  intro c
  induction c with
  | nil => intro l hl; cases l with
    | nil => rfl
    | cons _ _ => simp at hl
  | cons x c ih =>
    intro l hl
    cases l with
    | nil => simp at hl
    | cons v l => rw [splice_c, ih l (by simpa using hl)]
theorem store_all {h : Hp} {r : Nat} {cs l : List Value} {b : Option Nat} (hr : hget h r = some (.cells cs b)) (hl : l.length = cs.length) : storeAt cs.length h r 0 (.agg l.toArray) = .wr (hset h r (.cells l b)) r := by
  unfold storeAt
  rw [hr]
  simp only [cellsL, beq_eq', hl, decide_true, cond_true, splice_all cs l hl]
end Lm
end Go
namespace Go.Proofs.YtcmkngajdckndaaGreatDoor
open Go Go.Proofs Go.Lm
def vmL : List (Nat × Nat) := [(0, 0), (1, 0), (2, 1), (3, 85), (4, 139), (5, 32), (6, 36), (7, 178), (8, 143), (9, 143), (10, 213), (11, 177), (12, 199), (13, 26), (14, 18), (15, 6), (16, 147), (17, 37), (18, 29), (19, 13), (20, 44), (21, 31), (22, 141), (23, 16), (24, 62), (25, 20), (26, 52), (27, 20), (28, 19), (29, 33), (30, 21), (31, 93), (32, 27), (33, 90), (34, 17), (35, 154), (36, 31), (37, 116), (38, 81), (39, 31), (40, 15), (41, 8), (42, 58), (43, 19), (44, 83), (45, 20), (46, 42), (47, 15), (48, 10), (49, 41), (50, 29), (51, 25), (52, 20), (53, 7), (54, 17), (55, 8), (56, 13), (57, 26), (58, 69), (59, 7), (60, 24), (61, 75), (62, 34), (63, 13), (64, 43), (65, 19), (66, 30), (67, 10), (68, 9), (69, 18), (70, 40), (71, 103), (72, 7), (73, 49), (74, 44), (75, 24), (76, 63), (77, 25), (78, 11), (79, 10), (80, 12), (81, 63), (82, 9), (83, 21), (84, 29), (85, 15), (86, 21), (87, 7), (88, 2), (89, 9), (90, 17), (91, 14), (92, 8), (93, 8), (94, 10), (95, 9), (96, 34), (97, 54), (98, 8), (99, 4), (100, 24), (101, 6), (102, 9), (103, 5), (104, 17), (105, 22), (106, 17), (107, 28), (108, 17), (109, 7), (110, 24), (111, 15), (112, 5), (113, 5), (114, 14), (115, 6), (116, 32), (117, 10), (118, 17), (119, 26), (120, 19), (121, 9), (122, 6), (123, 59), (124, 6), (125, 16), (126, 11), (127, 16), (128, 18), (129, 10), (130, 9), (131, 41), (132, 21), (133, 37), (134, 9), (135, 8), (136, 8), (137, 6), (138, 9), (139, 8), (140, 5), (141, 11), (142, 18), (143, 23), (144, 4), (145, 18), (146, 20), (147, 5), (148, 36), (149, 19), (150, 19), (151, 22), (152, 6), (153, 21), (154, 4), (155, 1), (156, 1), (157, 1), (158, 1), (159, 1), (160, 1), (161, 1), (162, 1), (163, 1), (164, 1), (165, 1), (166, 1), (167, 1), (168, 1), (169, 1), (170, 1), (171, 1), (172, 0), (173, 0), (174, 0), (175, 12)]
theorem elemF_105 : elemF Tryz.prog 105 = some (some 11, true, 2) := by kernel_rfl
theorem elemF_113 : elemF Tryz.prog 113 = some (none, true, 2) := by kernel_rfl
theorem elemF_119 : elemF Tryz.prog 119 = some (some 7, false, 1) := by kernel_rfl
theorem elemF_120 : elemF Tryz.prog 120 = some (some 7, false, 1) := by kernel_rfl
theorem elemF_122 : elemF Tryz.prog 122 = some (none, false, 1) := by kernel_rfl
theorem elemF_124 : elemF Tryz.prog 124 = some (some 7, false, 1) := by kernel_rfl
theorem elemF_136 : elemF Tryz.prog 136 = some (none, false, 1) := by kernel_rfl
theorem elemF_147 : elemF Tryz.prog 147 = some (none, true, 5) := by kernel_rfl
theorem elemF_149 : elemF Tryz.prog 149 = some (some 5, false, 1) := by kernel_rfl
theorem elemF_22 : elemF Tryz.prog 22 = some (none, true, 4) := by kernel_rfl
theorem elemF_23 : elemF Tryz.prog 23 = some (none, true, 4) := by kernel_rfl
theorem elemF_24 : elemF Tryz.prog 24 = some (none, false, 1) := by kernel_rfl
theorem elemF_40 : elemF Tryz.prog 40 = some (none, true, 2) := by kernel_rfl
theorem elemF_62 : elemF Tryz.prog 62 = some (some 3, false, 1) := by kernel_rfl
theorem elemF_67 : elemF Tryz.prog 67 = some (some 4, false, 1) := by kernel_rfl
theorem fieldF_108_0 : fieldF Tryz.prog 108 0 = some ((false, 1), 0) := by kernel_rfl
theorem fieldF_108_1 : fieldF Tryz.prog 108 1 = some ((false, 1), 1) := by kernel_rfl
theorem hb_104 : hasBody Tryz.prog 104 = true := by kernel_rfl
theorem hb_106 : hasBody Tryz.prog 106 = true := by kernel_rfl
theorem hb_108 : hasBody Tryz.prog 108 = true := by kernel_rfl
theorem hb_110 : hasBody Tryz.prog 110 = true := by kernel_rfl
theorem hb_120 : hasBody Tryz.prog 120 = true := by kernel_rfl
theorem hb_126 : hasBody Tryz.prog 126 = true := by kernel_rfl
theorem hb_127 : hasBody Tryz.prog 127 = true := by kernel_rfl
theorem hb_13 : hasBody Tryz.prog 13 = true := by kernel_rfl
theorem hb_134 : hasBody Tryz.prog 134 = true := by kernel_rfl
theorem hb_137 : hasBody Tryz.prog 137 = true := by kernel_rfl
theorem hb_138 : hasBody Tryz.prog 138 = true := by kernel_rfl
theorem hb_14 : hasBody Tryz.prog 14 = true := by kernel_rfl
theorem hb_145 : hasBody Tryz.prog 145 = true := by kernel_rfl
theorem hb_146 : hasBody Tryz.prog 146 = true := by kernel_rfl
theorem hb_147 : hasBody Tryz.prog 147 = true := by kernel_rfl
theorem hb_148 : hasBody Tryz.prog 148 = true := by kernel_rfl
theorem hb_149 : hasBody Tryz.prog 149 = true := by kernel_rfl
theorem hb_15 : hasBody Tryz.prog 15 = true := by kernel_rfl
theorem hb_150 : hasBody Tryz.prog 150 = true := by kernel_rfl
theorem hb_152 : hasBody Tryz.prog 152 = true := by kernel_rfl
theorem hb_153 : hasBody Tryz.prog 153 = true := by kernel_rfl
theorem hb_16 : hasBody Tryz.prog 16 = true := by kernel_rfl
theorem hb_17 : hasBody Tryz.prog 17 = true := by kernel_rfl
theorem hb_18 : hasBody Tryz.prog 18 = true := by kernel_rfl
theorem hb_19 : hasBody Tryz.prog 19 = true := by kernel_rfl
theorem hb_20 : hasBody Tryz.prog 20 = true := by kernel_rfl
theorem hb_21 : hasBody Tryz.prog 21 = true := by kernel_rfl
theorem hb_22 : hasBody Tryz.prog 22 = true := by kernel_rfl
theorem hb_30 : hasBody Tryz.prog 30 = true := by kernel_rfl
theorem hb_31 : hasBody Tryz.prog 31 = true := by kernel_rfl
theorem hb_34 : hasBody Tryz.prog 34 = true := by kernel_rfl
theorem hb_35 : hasBody Tryz.prog 35 = true := by kernel_rfl
theorem hb_40 : hasBody Tryz.prog 40 = true := by kernel_rfl
theorem hb_46 : hasBody Tryz.prog 46 = true := by kernel_rfl
theorem hb_47 : hasBody Tryz.prog 47 = true := by kernel_rfl
theorem hb_48 : hasBody Tryz.prog 48 = true := by kernel_rfl
theorem hb_49 : hasBody Tryz.prog 49 = true := by kernel_rfl
theorem hb_52 : hasBody Tryz.prog 52 = true := by kernel_rfl
theorem hb_73 : hasBody Tryz.prog 73 = true := by kernel_rfl
theorem hb_80 : hasBody Tryz.prog 80 = true := by kernel_rfl
theorem hb_81 : hasBody Tryz.prog 81 = true := by kernel_rfl
theorem hb_85 : hasBody Tryz.prog 85 = true := by kernel_rfl
theorem hb_89 : hasBody Tryz.prog 89 = true := by kernel_rfl
theorem hb_97 : hasBody Tryz.prog 97 = true := by kernel_rfl
theorem hb_98 : hasBody Tryz.prog 98 = true := by kernel_rfl
theorem lenK_113 : lenK Tryz.prog 113 = some 0 := by kernel_rfl
theorem lenK_122 : lenK Tryz.prog 122 = some 0 := by kernel_rfl
theorem lenK_136 : lenK Tryz.prog 136 = some 0 := by kernel_rfl
theorem lenK_147 : lenK Tryz.prog 147 = some 0 := by kernel_rfl
theorem lenK_22 : lenK Tryz.prog 22 = some 0 := by kernel_rfl
theorem lenK_23 : lenK Tryz.prog 23 = some 0 := by kernel_rfl
theorem lenK_24 : lenK Tryz.prog 24 = some 0 := by kernel_rfl
theorem lenK_40 : lenK Tryz.prog 40 = some 0 := by kernel_rfl
theorem offF_100_0 : offF Tryz.prog 100 0 = some 0 := by kernel_rfl
theorem offF_100_1 : offF Tryz.prog 100 1 = some 7 := by kernel_rfl
theorem offF_100_2 : offF Tryz.prog 100 2 = some 8 := by kernel_rfl
theorem offF_104_0 : offF Tryz.prog 104 0 = some 0 := by kernel_rfl
theorem offF_104_1 : offF Tryz.prog 104 1 = some 1 := by kernel_rfl
theorem offF_108_0 : offF Tryz.prog 108 0 = some 0 := by kernel_rfl
theorem offF_108_1 : offF Tryz.prog 108 1 = some 1 := by kernel_rfl
theorem offF_108_2 : offF Tryz.prog 108 2 = some 2 := by kernel_rfl
theorem offF_112_0 : offF Tryz.prog 112 0 = some 0 := by kernel_rfl
theorem offF_112_1 : offF Tryz.prog 112 1 = some 1 := by kernel_rfl
theorem offF_126_0 : offF Tryz.prog 126 0 = some 0 := by kernel_rfl
theorem offF_126_1 : offF Tryz.prog 126 1 = some 7 := by kernel_rfl
theorem offF_132_0 : offF Tryz.prog 132 0 = some 0 := by kernel_rfl
theorem offF_132_1 : offF Tryz.prog 132 1 = some 14 := by kernel_rfl
theorem offF_132_2 : offF Tryz.prog 132 2 = some 18 := by kernel_rfl
theorem offF_26_0 : offF Tryz.prog 26 0 = some 0 := by kernel_rfl
theorem offF_26_1 : offF Tryz.prog 26 1 = some 1 := by kernel_rfl
theorem offF_26_2 : offF Tryz.prog 26 2 = some 2 := by kernel_rfl
theorem offF_26_3 : offF Tryz.prog 26 3 = some 3 := by kernel_rfl
theorem offF_26_4 : offF Tryz.prog 26 4 = some 4 := by kernel_rfl
theorem offF_26_5 : offF Tryz.prog 26 5 = some 5 := by kernel_rfl
theorem offF_26_6 : offF Tryz.prog 26 6 = some 6 := by kernel_rfl
theorem offF_28_0 : offF Tryz.prog 28 0 = some 0 := by kernel_rfl
theorem offF_28_1 : offF Tryz.prog 28 1 = some 1 := by kernel_rfl
theorem offF_71_0 : offF Tryz.prog 71 0 = some 0 := by kernel_rfl
theorem offF_71_1 : offF Tryz.prog 71 1 = some 1 := by kernel_rfl
theorem offF_71_2 : offF Tryz.prog 71 2 = some 2 := by kernel_rfl
theorem offF_71_3 : offF Tryz.prog 71 3 = some 3 := by kernel_rfl
theorem offF_77_0 : offF Tryz.prog 77 0 = some 0 := by kernel_rfl
theorem offF_79_0 : offF Tryz.prog 79 0 = some 0 := by kernel_rfl
theorem offF_79_1 : offF Tryz.prog 79 1 = some 7 := by kernel_rfl
theorem offF_84_0 : offF Tryz.prog 84 0 = some 0 := by kernel_rfl
theorem offF_84_1 : offF Tryz.prog 84 1 = some 1 := by kernel_rfl
theorem offF_89_0 : offF Tryz.prog 89 0 = some 0 := by kernel_rfl
theorem offF_89_1 : offF Tryz.prog 89 1 = some 1 := by kernel_rfl
theorem offF_89_2 : offF Tryz.prog 89 2 = some 2 := by kernel_rfl
theorem offF_89_3 : offF Tryz.prog 89 3 = some 3 := by kernel_rfl
theorem tyS_100 : tyS Tryz.prog 100 = some (true, 9) := by kernel_rfl
theorem tyS_104 : tyS Tryz.prog 104 = some (true, 2) := by kernel_rfl
theorem tyS_108 : tyS Tryz.prog 108 = some (true, 4) := by kernel_rfl
theorem tyS_112 : tyS Tryz.prog 112 = some (true, 2) := by kernel_rfl
theorem tyS_124 : tyS Tryz.prog 124 = some (true, 7) := by kernel_rfl
theorem tyS_126 : tyS Tryz.prog 126 = some (true, 14) := by kernel_rfl
theorem tyS_128 : tyS Tryz.prog 128 = some (false, 1) := by kernel_rfl
theorem tyS_132 : tyS Tryz.prog 132 = some (true, 19) := by kernel_rfl
theorem tyS_134 : tyS Tryz.prog 134 = some (false, 1) := by kernel_rfl
theorem tyS_143 : tyS Tryz.prog 143 = some (false, 1) := by kernel_rfl
theorem tyS_149 : tyS Tryz.prog 149 = some (true, 5) := by kernel_rfl
theorem tyS_161 : tyS Tryz.prog 161 = some (false, 1) := by kernel_rfl
theorem tyS_164 : tyS Tryz.prog 164 = some (false, 1) := by kernel_rfl
theorem tyS_165 : tyS Tryz.prog 165 = some (false, 1) := by kernel_rfl
theorem tyS_172 : tyS Tryz.prog 172 = some (false, 1) := by kernel_rfl
theorem tyS_22 : tyS Tryz.prog 22 = some (false, 1) := by kernel_rfl
theorem tyS_23 : tyS Tryz.prog 23 = some (false, 1) := by kernel_rfl
theorem tyS_24 : tyS Tryz.prog 24 = some (false, 1) := by kernel_rfl
theorem tyS_26 : tyS Tryz.prog 26 = some (true, 7) := by kernel_rfl
theorem tyS_28 : tyS Tryz.prog 28 = some (true, 2) := by kernel_rfl
theorem tyS_3 : tyS Tryz.prog 3 = some (false, 1) := by kernel_rfl
theorem tyS_37 : tyS Tryz.prog 37 = some (false, 1) := by kernel_rfl
theorem tyS_38 : tyS Tryz.prog 38 = some (false, 1) := by kernel_rfl
theorem tyS_4 : tyS Tryz.prog 4 = some (false, 1) := by kernel_rfl
theorem tyS_71 : tyS Tryz.prog 71 = some (true, 4) := by kernel_rfl
theorem tyS_77 : tyS Tryz.prog 77 = some (true, 7) := by kernel_rfl
theorem tyS_79 : tyS Tryz.prog 79 = some (true, 9) := by kernel_rfl
theorem tyS_81 : tyS Tryz.prog 81 = some (false, 1) := by kernel_rfl
theorem tyS_82 : tyS Tryz.prog 82 = some (false, 1) := by kernel_rfl
theorem tyS_84 : tyS Tryz.prog 84 = some (true, 2) := by kernel_rfl
theorem tyS_89 : tyS Tryz.prog 89 = some (true, 4) := by kernel_rfl
theorem tyS_97 : tyS Tryz.prog 97 = some (false, 1) := by kernel_rfl
theorem tyS_98 : tyS Tryz.prog 98 = some (false, 1) := by kernel_rfl
theorem tyZ_100 : tyZ Tryz.prog 100 = some [(.slice none 0 0), (.slice none 0 0), (.int .i64 0), (.int .i64 0), (.int .i64 0), (.int .i64 0), (.slice none 0 0), (.map none), .nilFunc] := by kernel_rfl
theorem tyZ_104 : tyZ Tryz.prog 104 = some [(.int .i64 0), (.int .i64 0)] := by kernel_rfl
theorem tyZ_108 : tyZ Tryz.prog 108 = some [(.int .i64 0), (.int .i64 0), (.int .i64 0), (.int .i64 0)] := by kernel_rfl
theorem tyZ_112 : tyZ Tryz.prog 112 = some [(.int .i64 0), (.int .i64 0)] := by kernel_rfl
theorem tyZ_119 : tyZ Tryz.prog 119 = some [(.slice none 0 0), (.slice none 0 0), (.slice none 0 0), (.slice none 0 0), (.slice none 0 0), (.slice none 0 0), (.slice none 0 0)] := by kernel_rfl
theorem tyZ_120 : tyZ Tryz.prog 120 = some [(.int .i64 0), (.int .i64 0), (.int .i64 0), (.int .i64 0), (.int .i64 0), (.int .i64 0), (.int .i64 0)] := by kernel_rfl
theorem tyZ_124 : tyZ Tryz.prog 124 = some [(.bool false), (.bool false), (.bool false), (.bool false), (.bool false), (.bool false), (.bool false)] := by kernel_rfl
theorem tyZ_126 : tyZ Tryz.prog 126 = some [(.slice none 0 0), (.slice none 0 0), (.int .i64 0), (.int .i64 0), (.int .i64 0), (.int .i64 0), (.slice none 0 0), (.bool false), (.bool false), (.bool false), (.bool false), (.bool false), (.bool false), (.bool false)] := by kernel_rfl
theorem tyZ_132 : tyZ Tryz.prog 132 = some [(.slice none 0 0), (.slice none 0 0), (.int .i64 0), (.int .i64 0), (.int .i64 0), (.int .i64 0), (.slice none 0 0), (.bool false), (.bool false), (.bool false), (.bool false), (.bool false), (.bool false), (.bool false), (.int .i64 0), (.int .i64 0), (.slice none 0 0), (.int .i64 0), (.int .i64 0)] := by kernel_rfl
theorem tyZ_143 : tyZ Tryz.prog 143 = some [.nilFunc] := by kernel_rfl
theorem tyZ_149 : tyZ Tryz.prog 149 = some [(.int .i64 0), (.int .i64 0), (.int .i64 0), (.int .i64 0), (.int .i64 0)] := by kernel_rfl
theorem tyZ_172 : tyZ Tryz.prog 172 = some [(.map none)] := by kernel_rfl
theorem tyZ_24 : tyZ Tryz.prog 24 = some [(.slice none 0 0)] := by kernel_rfl
theorem tyZ_26 : tyZ Tryz.prog 26 = some [(.slice none 0 0), (.slice none 0 0), (.int .i64 0), (.int .i64 0), (.int .i64 0), (.int .i64 0), (.slice none 0 0)] := by kernel_rfl
theorem tyZ_28 : tyZ Tryz.prog 28 = some [(.int .i64 0), (.slice none 0 0)] := by kernel_rfl
theorem tyZ_3 : tyZ Tryz.prog 3 = some [(.int .i64 0)] := by kernel_rfl
theorem tyZ_37 : tyZ Tryz.prog 37 = some [.nilFunc] := by kernel_rfl
theorem tyZ_71 : tyZ Tryz.prog 71 = some [(.int .i64 0), (.int .i64 0), (.slice none 0 0), (.int .i64 0)] := by kernel_rfl
theorem tyZ_77 : tyZ Tryz.prog 77 = some [(.slice none 0 0), (.slice none 0 0), (.int .i64 0), (.int .i64 0), (.int .i64 0), (.int .i64 0), (.slice none 0 0)] := by kernel_rfl
theorem tyZ_79 : tyZ Tryz.prog 79 = some [(.slice none 0 0), (.slice none 0 0), (.int .i64 0), (.int .i64 0), (.int .i64 0), (.int .i64 0), (.slice none 0 0), (.int .i64 0), (.slice none 0 0)] := by kernel_rfl
theorem tyZ_84 : tyZ Tryz.prog 84 = some [(.int .i64 0), (.int .i64 0)] := by kernel_rfl
theorem tyZ_89 : tyZ Tryz.prog 89 = some [(.int .i64 0), (.int .i64 0), (.int .i64 0), (.bool false)] := by kernel_rfl
def s15 : SC :=
 (.seq (.reg [⟨some 1, (.box 26 (.tmp 0)), none⟩,
 ⟨some 2, (.assign (.const (.int .i64 0))), none⟩])
 (.seq (.reg [⟨some 3, (.load 26 (.tmp 1)), none⟩,
 ⟨some 4, (.build 77 #[(0, (.tmp 3))]), none⟩,
 ⟨some 5, (.call ⟨(.value (.func 52)), #[(.tmp 4), (.const (.slice none 0 0))], #[77, 122]⟩), none⟩,
 ⟨some 2, (.assign (.tmp 5)), none⟩])
 .ret))
theorem fun15 : Fun Tryz.prog vmL 15 6 [(.tmp 2)] s15 := Fun.of Tryz.func15 (by kernel_rfl) (by kernel_rfl) rfl rfl (by decide)
def s34 : SC :=
 (.seq (.reg [⟨some 4, (.assign (.const (.int .i64 0))), none⟩])
 (.seq (.seq (.reg [⟨some 6, (.move (.tmp 1)), none⟩,
 ⟨some 7, (.binOp .lss 3 (.tmp 6) (.const (.int .i64 1)) 3), none⟩])
 (.cond (.tmp 7) (.seq (.reg [⟨some 4, (.assign (.const (.int .i64 0))), none⟩])
 .ret) .skip))
 (.seq (.reg [⟨some 8, (.move (.tmp 0)), none⟩,
 ⟨some 9, (.move (.tmp 1)), none⟩,
 ⟨some 10, (.binOp .rem 3 (.tmp 8) (.tmp 9) 3), none⟩,
 ⟨some 5, (.assign (.tmp 10)), none⟩])
 (.seq (.seq (.reg [⟨some 11, (.move (.tmp 5)), none⟩,
 ⟨some 12, (.binOp .lss 3 (.tmp 11) (.const (.int .i64 0)) 3), none⟩])
 (.cond (.tmp 12) (.reg [⟨some 13, (.move (.tmp 5)), none⟩,
 ⟨some 14, (.move (.tmp 1)), none⟩,
 ⟨some 15, (.binOp .add 3 (.tmp 13) (.tmp 14) 3), none⟩,
 ⟨some 5, (.assign (.tmp 15)), none⟩]) .skip))
 (.seq (.reg [⟨some 16, (.move (.tmp 5)), none⟩,
 ⟨some 4, (.assign (.tmp 16)), none⟩])
 .ret)))))
theorem fun34 : Fun Tryz.prog vmL 34 17 [(.tmp 4)] s34 := Fun.of Tryz.func34 (by kernel_rfl) (by kernel_rfl) rfl rfl (by decide)
def l35_0 : SC :=
 (.seq (.seq (.reg [⟨some 52, (.move (.tmp 3)), none⟩,
 ⟨some 53, (.move (.tmp 52)), none⟩,
 ⟨some 54, (.move (.tmp 4)), some (53, true)⟩,
 ⟨some 55, (.fieldAddr 26 (.tmp 1) 0), some (53, true)⟩,
 ⟨some 56, (.load 22 (.tmp 55)), some (53, true)⟩,
 ⟨some 57, (.call ⟨(.builtin .len), #[(.tmp 56)], #[22]⟩), some (53, true)⟩,
 ⟨some 58, (.binOp .lss 3 (.tmp 54) (.tmp 57) 3), some (53, true)⟩,
 ⟨some 59, (.pick (.tmp 53) (.tmp 58) (.const (.bool false))), none⟩])
 (.cond (.tmp 59) .skip (.exit 0)))
 (.seq (.block 1 (.seq (.reg [⟨some 62, (.fieldAddr 26 (.tmp 1) 0), none⟩,
 ⟨some 63, (.load 22 (.tmp 62)), none⟩,
 ⟨some 64, (.move (.tmp 4)), none⟩,
 ⟨some 65, (.indexAddr 22 (.tmp 63) (.tmp 64)), none⟩,
 ⟨some 66, (.load 89 (.tmp 65)), none⟩,
 ⟨some 5, (.alloc 89), none⟩,
 ⟨none, (.store 89 (.tmp 5) (.tmp 66)), none⟩])
 (.reg [⟨some 67, (.fieldAddr 89 (.tmp 5) 0), none⟩,
 ⟨some 68, (.load 3 (.tmp 67)), none⟩,
 ⟨some 69, (.call ⟨(.value (.func 40)), #[(.tmp 68), (.const (.int .i64 1)), (.const (.int .i64 500))], #[3, 3, 3]⟩), none⟩,
 ⟨some 70, (.move (.tmp 69)), none⟩,
 ⟨some 71, (.fieldAddr 89 (.tmp 5) 1), some (70, true)⟩,
 ⟨some 72, (.load 3 (.tmp 71)), some (70, true)⟩,
 ⟨some 73, (.call ⟨(.value (.func 40)), #[(.tmp 72), (.const (.int .i64 1)), (.const (.int .i64 5000))], #[3, 3, 3]⟩), some (70, true)⟩,
 ⟨some 74, (.pick (.tmp 70) (.tmp 73) (.const (.bool false))), none⟩,
 ⟨some 75, (.move (.tmp 74)), none⟩,
 ⟨some 76, (.fieldAddr 89 (.tmp 5) 2), some (75, true)⟩,
 ⟨some 77, (.load 3 (.tmp 76)), some (75, true)⟩,
 ⟨some 78, (.call ⟨(.value (.func 40)), #[(.tmp 77), (.const (.int .i64 0)), (.const (.int .i64 10000))], #[3, 3, 3]⟩), some (75, true)⟩,
 ⟨some 79, (.pick (.tmp 75) (.tmp 78) (.const (.bool false))), none⟩,
 ⟨some 3, (.assign (.tmp 79)), none⟩])))
 (.reg [⟨some 60, (.move (.tmp 4)), none⟩,
 ⟨some 61, (.binOp .add 3 (.tmp 60) (.const (.int .i64 1)) 3), none⟩,
 ⟨some 4, (.assign (.tmp 61)), none⟩])))
def l35_1 : SC :=
 (.seq (.seq (.reg [⟨some 114, (.move (.tmp 3)), none⟩,
 ⟨some 115, (.move (.tmp 114)), none⟩,
 ⟨some 116, (.move (.tmp 8)), some (115, true)⟩,
 ⟨some 117, (.fieldAddr 71 (.tmp 7) 2), some (115, true)⟩,
 ⟨some 118, (.load 24 (.tmp 117)), some (115, true)⟩,
 ⟨some 119, (.call ⟨(.builtin .len), #[(.tmp 118)], #[24]⟩), some (115, true)⟩,
 ⟨some 120, (.binOp .lss 3 (.tmp 116) (.tmp 119) 3), some (115, true)⟩,
 ⟨some 121, (.pick (.tmp 115) (.tmp 120) (.const (.bool false))), none⟩])
 (.cond (.tmp 121) .skip (.exit 4)))
 (.seq (.block 5 (.reg [⟨some 124, (.fieldAddr 71 (.tmp 7) 2), none⟩,
 ⟨some 125, (.load 24 (.tmp 124)), none⟩,
 ⟨some 126, (.move (.tmp 8)), none⟩,
 ⟨some 127, (.indexAddr 24 (.tmp 125) (.tmp 126)), none⟩,
 ⟨some 128, (.load 3 (.tmp 127)), none⟩,
 ⟨some 129, (.call ⟨(.value (.func 40)), #[(.tmp 128), (.const (.int .i64 1)), (.const (.int .i64 1000))], #[3, 3, 3]⟩), none⟩,
 ⟨some 3, (.assign (.tmp 129)), none⟩]))
 (.reg [⟨some 122, (.move (.tmp 8)), none⟩,
 ⟨some 123, (.binOp .add 3 (.tmp 122) (.const (.int .i64 1)) 3), none⟩,
 ⟨some 8, (.assign (.tmp 123)), none⟩])))
def l35_2 : SC :=
 (.seq (.seq (.reg [⟨some 80, (.move (.tmp 3)), none⟩,
 ⟨some 81, (.move (.tmp 80)), none⟩,
 ⟨some 82, (.move (.tmp 6)), some (81, true)⟩,
 ⟨some 83, (.fieldAddr 26 (.tmp 1) 1), some (81, true)⟩,
 ⟨some 84, (.load 23 (.tmp 83)), some (81, true)⟩,
 ⟨some 85, (.call ⟨(.builtin .len), #[(.tmp 84)], #[23]⟩), some (81, true)⟩,
 ⟨some 86, (.binOp .lss 3 (.tmp 82) (.tmp 85) 3), some (81, true)⟩,
 ⟨some 87, (.pick (.tmp 81) (.tmp 86) (.const (.bool false))), none⟩])
 (.cond (.tmp 87) .skip (.exit 2)))
 (.seq (.block 3 (.seq (.reg [⟨some 90, (.fieldAddr 26 (.tmp 1) 1), none⟩,
 ⟨some 91, (.load 23 (.tmp 90)), none⟩,
 ⟨some 92, (.move (.tmp 6)), none⟩,
 ⟨some 93, (.indexAddr 23 (.tmp 91) (.tmp 92)), none⟩,
 ⟨some 94, (.load 71 (.tmp 93)), none⟩,
 ⟨some 7, (.alloc 71), none⟩,
 ⟨none, (.store 71 (.tmp 7) (.tmp 94)), none⟩])
 (.seq (.reg [⟨some 95, (.fieldAddr 71 (.tmp 7) 0), none⟩,
 ⟨some 96, (.load 3 (.tmp 95)), none⟩,
 ⟨some 97, (.call ⟨(.value (.func 40)), #[(.tmp 96), (.const (.int .i64 1)), (.const (.int .i64 500))], #[3, 3, 3]⟩), none⟩,
 ⟨some 98, (.move (.tmp 97)), none⟩,
 ⟨some 99, (.fieldAddr 71 (.tmp 7) 1), some (98, true)⟩,
 ⟨some 100, (.load 3 (.tmp 99)), some (98, true)⟩,
 ⟨some 101, (.call ⟨(.value (.func 40)), #[(.tmp 100), (.const (.int .i64 1)), (.const (.int .i64 5000))], #[3, 3, 3]⟩), some (98, true)⟩,
 ⟨some 102, (.pick (.tmp 98) (.tmp 101) (.const (.bool false))), none⟩,
 ⟨some 103, (.move (.tmp 102)), none⟩,
 ⟨some 104, (.fieldAddr 71 (.tmp 7) 2), some (103, true)⟩,
 ⟨some 105, (.load 24 (.tmp 104)), some (103, true)⟩,
 ⟨some 106, (.call ⟨(.builtin .len), #[(.tmp 105)], #[24]⟩), some (103, true)⟩,
 ⟨some 107, (.binOp .eql 3 (.tmp 106) (.const (.int .i64 5)) 3), some (103, true)⟩,
 ⟨some 108, (.pick (.tmp 103) (.tmp 107) (.const (.bool false))), none⟩,
 ⟨some 109, (.move (.tmp 108)), none⟩,
 ⟨some 110, (.fieldAddr 71 (.tmp 7) 3), some (109, true)⟩,
 ⟨some 111, (.load 3 (.tmp 110)), some (109, true)⟩,
 ⟨some 112, (.call ⟨(.value (.func 40)), #[(.tmp 111), (.const (.int .i64 0)), (.const (.int .i64 1000))], #[3, 3, 3]⟩), some (109, true)⟩,
 ⟨some 113, (.pick (.tmp 109) (.tmp 112) (.const (.bool false))), none⟩,
 ⟨some 3, (.assign (.tmp 113)), none⟩])
 (.seq (.reg [⟨some 8, (.assign (.const (.int .i64 0))), none⟩])
 (.block 4 (.loop l35_1))))))
 (.reg [⟨some 88, (.move (.tmp 6)), none⟩,
 ⟨some 89, (.binOp .add 3 (.tmp 88) (.const (.int .i64 1)) 3), none⟩,
 ⟨some 6, (.assign (.tmp 89)), none⟩])))
def l35_3 : SC :=
 (.seq (.seq (.reg [⟨some 130, (.move (.tmp 3)), none⟩,
 ⟨some 131, (.move (.tmp 130)), none⟩,
 ⟨some 132, (.move (.tmp 10)), some (131, true)⟩,
 ⟨some 133, (.fieldAddr 26 (.tmp 1) 6), some (131, true)⟩,
 ⟨some 134, (.load 24 (.tmp 133)), some (131, true)⟩,
 ⟨some 135, (.call ⟨(.builtin .len), #[(.tmp 134)], #[24]⟩), some (131, true)⟩,
 ⟨some 136, (.binOp .lss 3 (.tmp 132) (.tmp 135) 3), some (131, true)⟩,
 ⟨some 137, (.pick (.tmp 131) (.tmp 136) (.const (.bool false))), none⟩])
 (.cond (.tmp 137) .skip (.exit 6)))
 (.seq (.block 7 (.seq (.reg [⟨some 140, (.fieldAddr 26 (.tmp 1) 6), none⟩,
 ⟨some 141, (.load 24 (.tmp 140)), none⟩,
 ⟨some 142, (.move (.tmp 10)), none⟩,
 ⟨some 143, (.indexAddr 24 (.tmp 141) (.tmp 142)), none⟩,
 ⟨some 144, (.load 3 (.tmp 143)), none⟩,
 ⟨some 145, (.move (.tmp 9)), none⟩,
 ⟨some 146, (.call ⟨(.value (.func 40)), #[(.tmp 144), (.tmp 145), (.const (.int .i64 1000))], #[3, 3, 3]⟩), none⟩,
 ⟨some 3, (.assign (.tmp 146)), none⟩])
 (.reg [⟨some 147, (.fieldAddr 26 (.tmp 1) 6), none⟩,
 ⟨some 148, (.load 24 (.tmp 147)), none⟩,
 ⟨some 149, (.move (.tmp 10)), none⟩,
 ⟨some 150, (.indexAddr 24 (.tmp 148) (.tmp 149)), none⟩,
 ⟨some 151, (.load 3 (.tmp 150)), none⟩,
 ⟨some 152, (.binOp .add 3 (.tmp 151) (.const (.int .i64 1)) 3), none⟩,
 ⟨some 9, (.assign (.tmp 152)), none⟩])))
 (.reg [⟨some 138, (.move (.tmp 10)), none⟩,
 ⟨some 139, (.binOp .add 3 (.tmp 138) (.const (.int .i64 1)) 3), none⟩,
 ⟨some 10, (.assign (.tmp 139)), none⟩])))
def s35 : SC :=
 (.seq (.reg [⟨some 1, (.box 26 (.tmp 0)), none⟩,
 ⟨some 2, (.assign (.const (.bool false))), none⟩])
 (.seq (.reg [⟨some 11, (.load 26 (.tmp 1)), none⟩,
 ⟨some 12, (.call ⟨(.value (.func 15)), #[(.tmp 11)], #[26]⟩), none⟩,
 ⟨some 13, (.binOp .eql 29 (.tmp 12) (.const (.int .i64 0)) 29), none⟩,
 ⟨some 14, (.move (.tmp 13)), none⟩,
 ⟨some 15, (.fieldAddr 26 (.tmp 1) 0), some (14, true)⟩,
 ⟨some 16, (.load 22 (.tmp 15)), some (14, true)⟩,
 ⟨some 17, (.call ⟨(.builtin .len), #[(.tmp 16)], #[22]⟩), some (14, true)⟩,
 ⟨some 18, (.call ⟨(.value (.func 40)), #[(.tmp 17), (.const (.int .i64 1)), (.const (.int .i64 7))], #[3, 3, 3]⟩), some (14, true)⟩,
 ⟨some 19, (.pick (.tmp 14) (.tmp 18) (.const (.bool false))), none⟩,
 ⟨some 20, (.move (.tmp 19)), none⟩,
 ⟨some 21, (.fieldAddr 26 (.tmp 1) 1), some (20, true)⟩,
 ⟨some 22, (.load 23 (.tmp 21)), some (20, true)⟩,
 ⟨some 23, (.call ⟨(.builtin .len), #[(.tmp 22)], #[23]⟩), some (20, true)⟩,
 ⟨some 24, (.call ⟨(.value (.func 40)), #[(.tmp 23), (.const (.int .i64 1)), (.const (.int .i64 4))], #[3, 3, 3]⟩), some (20, true)⟩,
 ⟨some 25, (.pick (.tmp 20) (.tmp 24) (.const (.bool false))), none⟩,
 ⟨some 26, (.move (.tmp 25)), none⟩,
 ⟨some 27, (.fieldAddr 26 (.tmp 1) 2), some (26, true)⟩,
 ⟨some 28, (.load 3 (.tmp 27)), some (26, true)⟩,
 ⟨some 29, (.call ⟨(.value (.func 40)), #[(.tmp 28), (.const (.int .i64 1)), (.const (.int .i64 5000))], #[3, 3, 3]⟩), some (26, true)⟩,
 ⟨some 30, (.pick (.tmp 26) (.tmp 29) (.const (.bool false))), none⟩,
 ⟨some 31, (.move (.tmp 30)), none⟩,
 ⟨some 32, (.fieldAddr 26 (.tmp 1) 3), some (31, true)⟩,
 ⟨some 33, (.load 3 (.tmp 32)), some (31, true)⟩,
 ⟨some 34, (.call ⟨(.value (.func 40)), #[(.tmp 33), (.const (.int .i64 0)), (.const (.int .i64 10000))], #[3, 3, 3]⟩), some (31, true)⟩,
 ⟨some 35, (.pick (.tmp 31) (.tmp 34) (.const (.bool false))), none⟩,
 ⟨some 36, (.move (.tmp 35)), none⟩,
 ⟨some 37, (.fieldAddr 26 (.tmp 1) 4), some (36, true)⟩,
 ⟨some 38, (.load 3 (.tmp 37)), some (36, true)⟩,
 ⟨some 39, (.call ⟨(.value (.func 40)), #[(.tmp 38), (.const (.int .i64 1)), (.const (.int .i64 10000))], #[3, 3, 3]⟩), some (36, true)⟩,
 ⟨some 40, (.pick (.tmp 36) (.tmp 39) (.const (.bool false))), none⟩,
 ⟨some 41, (.move (.tmp 40)), none⟩,
 ⟨some 42, (.fieldAddr 26 (.tmp 1) 5), some (41, true)⟩,
 ⟨some 43, (.load 3 (.tmp 42)), some (41, true)⟩,
 ⟨some 44, (.call ⟨(.value (.func 40)), #[(.tmp 43), (.const (.int .i64 0)), (.const (.int .i64 1000))], #[3, 3, 3]⟩), some (41, true)⟩,
 ⟨some 45, (.pick (.tmp 41) (.tmp 44) (.const (.bool false))), none⟩,
 ⟨some 46, (.move (.tmp 45)), none⟩,
 ⟨some 47, (.fieldAddr 26 (.tmp 1) 6), some (46, true)⟩,
 ⟨some 48, (.load 24 (.tmp 47)), some (46, true)⟩,
 ⟨some 49, (.call ⟨(.builtin .len), #[(.tmp 48)], #[24]⟩), some (46, true)⟩,
 ⟨some 50, (.call ⟨(.value (.func 40)), #[(.tmp 49), (.const (.int .i64 1)), (.const (.int .i64 5))], #[3, 3, 3]⟩), some (46, true)⟩,
 ⟨some 51, (.pick (.tmp 46) (.tmp 50) (.const (.bool false))), none⟩,
 ⟨some 3, (.assign (.tmp 51)), none⟩])
 (.seq (.seq (.reg [⟨some 4, (.assign (.const (.int .i64 0))), none⟩])
 (.block 0 (.loop l35_0)))
 (.seq (.seq (.reg [⟨some 6, (.assign (.const (.int .i64 0))), none⟩])
 (.block 2 (.loop l35_2)))
 (.seq (.reg [⟨some 9, (.assign (.const (.int .i64 1))), none⟩])
 (.seq (.seq (.reg [⟨some 10, (.assign (.const (.int .i64 0))), none⟩])
 (.block 6 (.loop l35_3)))
 (.seq (.reg [⟨some 153, (.move (.tmp 3)), none⟩,
 ⟨some 2, (.assign (.tmp 153)), none⟩])
 .ret)))))))
theorem fun35 : Fun Tryz.prog vmL 35 154 [(.tmp 2)] s35 := Fun.of Tryz.func35 (by kernel_rfl) (by kernel_rfl) rfl rfl (by decide)
def s40 : SC :=
 (.seq (.reg [⟨some 6, (.assign (.const (.bool false))), none⟩])
 (.seq (.reg [⟨some 7, (.move (.tmp 1)), none⟩,
 ⟨some 8, (.move (.tmp 0)), none⟩,
 ⟨some 9, (.binOp .leq 3 (.tmp 7) (.tmp 8) 3), none⟩,
 ⟨some 10, (.move (.tmp 9)), none⟩,
 ⟨some 11, (.move (.tmp 0)), some (10, true)⟩,
 ⟨some 12, (.move (.tmp 2)), some (10, true)⟩,
 ⟨some 13, (.binOp .leq 3 (.tmp 11) (.tmp 12) 3), some (10, true)⟩,
 ⟨some 14, (.pick (.tmp 10) (.tmp 13) (.const (.bool false))), none⟩,
 ⟨some 6, (.assign (.tmp 14)), none⟩])
 .ret))
theorem fun40 : Fun Tryz.prog vmL 40 15 [(.tmp 6)] s40 := Fun.of Tryz.func40 (by kernel_rfl) (by kernel_rfl) rfl rfl (by decide)
def s48 : SC :=
 (.seq (.reg [⟨some 4, (.assign (.const (.int .i64 0))), none⟩])
 (.seq (.reg [⟨some 5, (.move (.tmp 0)), none⟩,
 ⟨some 6, (.unOp .neg 3 (.tmp 5)), none⟩,
 ⟨some 7, (.move (.tmp 1)), none⟩,
 ⟨some 8, (.call ⟨(.value (.func 80)), #[(.tmp 6), (.tmp 7)], #[3, 3]⟩), none⟩,
 ⟨some 9, (.unOp .neg 3 (.tmp 8)), none⟩,
 ⟨some 4, (.assign (.tmp 9)), none⟩])
 .ret))
theorem fun48 : Fun Tryz.prog vmL 48 10 [(.tmp 4)] s48 := Fun.of Tryz.func48 (by kernel_rfl) (by kernel_rfl) rfl rfl (by decide)
def l52_0 : SC :=
 (.seq (.reg [⟨some 13, (.binOp .lss 3 (.tmp 12) (.tmp 11) 3), none⟩])
 (.seq (.cond (.tmp 13) .skip (.exit 0))
 (.seq (.block 1 (.seq (.reg [⟨some 14, (.indexAddr 122 (.tmp 10) (.tmp 12)), none⟩,
 ⟨some 15, (.load 38 (.tmp 14)), none⟩,
 ⟨some 6, (.assign (.tmp 15)), none⟩])
 (.seq (.reg [⟨some 16, (.move (.tmp 6)), none⟩,
 ⟨some 17, (.call ⟨(.value (.tmp 16)), #[], #[]⟩), none⟩,
 ⟨some 18, (.unOp .not 4 (.tmp 17)), none⟩])
 (.cond (.tmp 18) (.seq (.reg [⟨some 4, (.assign (.const (.int .i64 61))), none⟩])
 .ret) .skip))))
 (.reg [⟨some 19, (.binOp .add 3 (.tmp 12) (.const (.int .i64 1)) 3), none⟩,
 ⟨some 12, (.move (.tmp 19)), none⟩]))))
def s52 : SC :=
 (.seq (.reg [⟨some 2, (.box 77 (.tmp 0)), none⟩,
 ⟨some 4, (.assign (.const (.int .i64 0))), none⟩])
 (.seq (.seq (.reg [⟨some 7, (.load 77 (.tmp 2)), none⟩,
 ⟨some 8, (.call ⟨(.value (.func 81)), #[(.tmp 7)], #[77]⟩), none⟩,
 ⟨some 9, (.unOp .not 4 (.tmp 8)), none⟩])
 (.cond (.tmp 9) (.seq (.reg [⟨some 4, (.assign (.const (.int .i64 60))), none⟩])
 .ret) .skip))
 (.seq (.seq (.reg [⟨some 10, (.move (.tmp 1)), none⟩,
 ⟨some 11, (.call ⟨(.builtin .len), #[(.tmp 10)], #[122]⟩), none⟩,
 ⟨some 12, (.move (.const (.int .i64 0))), none⟩])
 (.block 0 (.loop l52_0)))
 (.seq (.reg [⟨some 4, (.assign (.const (.int .i64 0))), none⟩])
 .ret))))
theorem fun52 : Fun Tryz.prog vmL 52 20 [(.tmp 4)] s52 := Fun.of Tryz.func52 (by kernel_rfl) (by kernel_rfl) rfl rfl (by decide)
def s80 : SC :=
 (.seq (.reg [⟨some 4, (.assign (.const (.int .i64 0))), none⟩])
 (.seq (.reg [⟨some 5, (.move (.tmp 0)), none⟩,
 ⟨some 6, (.move (.tmp 0)), none⟩,
 ⟨some 7, (.move (.tmp 1)), none⟩,
 ⟨some 8, (.call ⟨(.value (.func 34)), #[(.tmp 6), (.tmp 7)], #[3, 3]⟩), none⟩,
 ⟨some 9, (.binOp .sub 3 (.tmp 5) (.tmp 8) 3), none⟩,
 ⟨some 10, (.move (.tmp 1)), none⟩,
 ⟨some 11, (.binOp .quo 3 (.tmp 9) (.tmp 10) 3), none⟩,
 ⟨some 4, (.assign (.tmp 11)), none⟩])
 .ret))
theorem fun80 : Fun Tryz.prog vmL 80 12 [(.tmp 4)] s80 := Fun.of Tryz.func80 (by kernel_rfl) (by kernel_rfl) rfl rfl (by decide)
def s81 : SC :=
 (.seq (.reg [⟨some 1, (.box 77 (.tmp 0)), none⟩,
 ⟨some 2, (.assign (.const (.bool false))), none⟩])
 (.seq (.reg [⟨some 3, (.indexAddr 105 (.global 0) (.const (.int .i64 0))), none⟩,
 ⟨some 4, (.load 104 (.tmp 3)), none⟩,
 ⟨some 5, (.fieldAddr 77 (.tmp 1) 0), none⟩,
 ⟨some 6, (.fieldAddr 26 (.tmp 5) 0), none⟩,
 ⟨some 7, (.load 22 (.tmp 6)), none⟩,
 ⟨some 8, (.call ⟨(.value (.func 104)), #[(.tmp 4), (.tmp 7), (.func 105)], #[104, 22, 161]⟩), none⟩,
 ⟨some 9, (.move (.tmp 8)), none⟩,
 ⟨some 10, (.indexAddr 105 (.global 0) (.const (.int .i64 4))), some (9, true)⟩,
 ⟨some 11, (.load 104 (.tmp 10)), some (9, true)⟩,
 ⟨some 12, (.fieldAddr 77 (.tmp 1) 0), some (9, true)⟩,
 ⟨some 13, (.fieldAddr 26 (.tmp 12) 1), some (9, true)⟩,
 ⟨some 14, (.load 23 (.tmp 13)), some (9, true)⟩,
 ⟨some 15, (.call ⟨(.value (.func 106)), #[(.tmp 11), (.tmp 14), (.func 107)], #[104, 23, 128]⟩), some (9, true)⟩,
 ⟨some 16, (.pick (.tmp 9) (.tmp 15) (.const (.bool false))), none⟩,
 ⟨some 17, (.move (.tmp 16)), none⟩,
 ⟨some 18, (.indexAddr 105 (.global 0) (.const (.int .i64 2))), some (17, true)⟩,
 ⟨some 19, (.load 104 (.tmp 18)), some (17, true)⟩,
 ⟨some 20, (.fieldAddr 77 (.tmp 1) 0), some (17, true)⟩,
 ⟨some 21, (.fieldAddr 26 (.tmp 20) 2), some (17, true)⟩,
 ⟨some 22, (.load 3 (.tmp 21)), some (17, true)⟩,
 ⟨some 23, (.call ⟨(.value (.func 85)), #[(.tmp 19), (.tmp 22)], #[104, 3]⟩), some (17, true)⟩,
 ⟨some 24, (.pick (.tmp 17) (.tmp 23) (.const (.bool false))), none⟩,
 ⟨some 25, (.move (.tmp 24)), none⟩,
 ⟨some 26, (.indexAddr 105 (.global 0) (.const (.int .i64 3))), some (25, true)⟩,
 ⟨some 27, (.load 104 (.tmp 26)), some (25, true)⟩,
 ⟨some 28, (.fieldAddr 77 (.tmp 1) 0), some (25, true)⟩,
 ⟨some 29, (.fieldAddr 26 (.tmp 28) 3), some (25, true)⟩,
 ⟨some 30, (.load 3 (.tmp 29)), some (25, true)⟩,
 ⟨some 31, (.call ⟨(.value (.func 85)), #[(.tmp 27), (.tmp 30)], #[104, 3]⟩), some (25, true)⟩,
 ⟨some 32, (.pick (.tmp 25) (.tmp 31) (.const (.bool false))), none⟩,
 ⟨some 33, (.move (.tmp 32)), none⟩,
 ⟨some 34, (.indexAddr 105 (.global 0) (.const (.int .i64 8))), some (33, true)⟩,
 ⟨some 35, (.load 104 (.tmp 34)), some (33, true)⟩,
 ⟨some 36, (.fieldAddr 77 (.tmp 1) 0), some (33, true)⟩,
 ⟨some 37, (.fieldAddr 26 (.tmp 36) 4), some (33, true)⟩,
 ⟨some 38, (.load 3 (.tmp 37)), some (33, true)⟩,
 ⟨some 39, (.call ⟨(.value (.func 85)), #[(.tmp 35), (.tmp 38)], #[104, 3]⟩), some (33, true)⟩,
 ⟨some 40, (.pick (.tmp 33) (.tmp 39) (.const (.bool false))), none⟩,
 ⟨some 41, (.move (.tmp 40)), none⟩,
 ⟨some 42, (.indexAddr 105 (.global 0) (.const (.int .i64 7))), some (41, true)⟩,
 ⟨some 43, (.load 104 (.tmp 42)), some (41, true)⟩,
 ⟨some 44, (.fieldAddr 77 (.tmp 1) 0), some (41, true)⟩,
 ⟨some 45, (.fieldAddr 26 (.tmp 44) 5), some (41, true)⟩,
 ⟨some 46, (.load 3 (.tmp 45)), some (41, true)⟩,
 ⟨some 47, (.call ⟨(.value (.func 85)), #[(.tmp 43), (.tmp 46)], #[104, 3]⟩), some (41, true)⟩,
 ⟨some 48, (.pick (.tmp 41) (.tmp 47) (.const (.bool false))), none⟩,
 ⟨some 49, (.move (.tmp 48)), none⟩,
 ⟨some 50, (.indexAddr 105 (.global 0) (.const (.int .i64 9))), some (49, true)⟩,
 ⟨some 51, (.load 104 (.tmp 50)), some (49, true)⟩,
 ⟨some 52, (.fieldAddr 77 (.tmp 1) 0), some (49, true)⟩,
 ⟨some 53, (.fieldAddr 26 (.tmp 52) 6), some (49, true)⟩,
 ⟨some 54, (.load 24 (.tmp 53)), some (49, true)⟩,
 ⟨some 55, (.call ⟨(.value (.func 108)), #[(.tmp 51), (.tmp 54), (.func 109)], #[104, 24, 164]⟩), some (49, true)⟩,
 ⟨some 56, (.pick (.tmp 49) (.tmp 55) (.const (.bool false))), none⟩,
 ⟨some 57, (.move (.tmp 56)), none⟩,
 ⟨some 58, (.fieldAddr 77 (.tmp 1) 0), some (57, true)⟩,
 ⟨some 59, (.fieldAddr 26 (.tmp 58) 6), some (57, true)⟩,
 ⟨some 60, (.load 24 (.tmp 59)), some (57, true)⟩,
 ⟨some 61, (.call ⟨(.value (.func 110)), #[(.tmp 60)], #[24]⟩), some (57, true)⟩,
 ⟨some 62, (.pick (.tmp 57) (.tmp 61) (.const (.bool false))), none⟩,
 ⟨some 2, (.assign (.tmp 62)), none⟩])
 .ret))
theorem fun81 : Fun Tryz.prog vmL 81 63 [(.tmp 2)] s81 := Fun.of Tryz.func81 (by kernel_rfl) (by kernel_rfl) rfl rfl (by decide)
def s85 : SC :=
 (.seq (.reg [⟨some 2, (.box 104 (.tmp 0)), none⟩,
 ⟨some 4, (.assign (.const (.bool false))), none⟩])
 (.seq (.reg [⟨some 5, (.fieldAddr 104 (.tmp 2) 0), none⟩,
 ⟨some 6, (.load 3 (.tmp 5)), none⟩,
 ⟨some 7, (.move (.tmp 1)), none⟩,
 ⟨some 8, (.binOp .leq 3 (.tmp 6) (.tmp 7) 3), none⟩,
 ⟨some 9, (.move (.tmp 8)), none⟩,
 ⟨some 10, (.move (.tmp 1)), some (9, true)⟩,
 ⟨some 11, (.fieldAddr 104 (.tmp 2) 1), some (9, true)⟩,
 ⟨some 12, (.load 3 (.tmp 11)), some (9, true)⟩,
 ⟨some 13, (.binOp .leq 3 (.tmp 10) (.tmp 12) 3), some (9, true)⟩,
 ⟨some 14, (.pick (.tmp 9) (.tmp 13) (.const (.bool false))), none⟩,
 ⟨some 4, (.assign (.tmp 14)), none⟩])
 .ret))
theorem fun85 : Fun Tryz.prog vmL 85 15 [(.tmp 4)] s85 := Fun.of Tryz.func85 (by kernel_rfl) (by kernel_rfl) rfl rfl (by decide)
def s89 : SC :=
 (.seq (.reg [⟨some 4, (.assign (.const (.bool false))), none⟩])
 (.seq (.reg [⟨some 5, (.move (.tmp 0)), none⟩,
 ⟨some 6, (.move (.tmp 1)), none⟩,
 ⟨some 7, (.call ⟨(.value (.func 120)), #[(.tmp 5), (.tmp 6)], #[23, 128]⟩), none⟩,
 ⟨some 8, (.binOp .geq 3 (.tmp 7) (.const (.int .i64 0)) 3), none⟩,
 ⟨some 4, (.assign (.tmp 8)), none⟩])
 .ret))
theorem fun89 : Fun Tryz.prog vmL 89 9 [(.tmp 4)] s89 := Fun.of Tryz.func89 (by kernel_rfl) (by kernel_rfl) rfl rfl (by decide)
def s104 : SC :=
 (.seq (.reg [⟨some 3, (.box 104 (.tmp 0)), none⟩,
 ⟨some 5, (.box 161 (.tmp 2)), none⟩,
 ⟨some 6, (.assign (.const (.bool false))), none⟩])
 (.seq (.reg [⟨some 7, (.load 104 (.tmp 3)), none⟩,
 ⟨some 8, (.move (.tmp 1)), none⟩,
 ⟨some 9, (.call ⟨(.builtin .len), #[(.tmp 8)], #[22]⟩), none⟩,
 ⟨some 10, (.call ⟨(.value (.func 85)), #[(.tmp 7), (.tmp 9)], #[104, 3]⟩), none⟩,
 ⟨some 11, (.move (.tmp 10)), none⟩,
 ⟨some 12, (.move (.tmp 1)), some (11, true)⟩,
 ⟨some 13, (.makeFunc (.func 135) #[] #[(.tmp 5)]), some (11, true)⟩,
 ⟨some 14, (.call ⟨(.value (.func 134)), #[(.tmp 12), (.tmp 13)], #[22, 161]⟩), some (11, true)⟩,
 ⟨some 15, (.unOp .not 4 (.tmp 14)), some (11, true)⟩,
 ⟨some 16, (.pick (.tmp 11) (.tmp 15) (.const (.bool false))), none⟩,
 ⟨some 6, (.assign (.tmp 16)), none⟩])
 .ret))
theorem fun104 : Fun Tryz.prog vmL 104 17 [(.tmp 6)] s104 := Fun.of Tryz.func104 (by kernel_rfl) (by kernel_rfl) rfl rfl (by decide)
def s105 : SC :=
 (.seq (.reg [⟨some 1, (.box 89 (.tmp 0)), none⟩,
 ⟨some 2, (.assign (.const (.bool false))), none⟩])
 (.seq (.reg [⟨some 3, (.indexAddr 105 (.global 0) (.const (.int .i64 1))), none⟩,
 ⟨some 4, (.load 104 (.tmp 3)), none⟩,
 ⟨some 5, (.fieldAddr 89 (.tmp 1) 0), none⟩,
 ⟨some 6, (.load 3 (.tmp 5)), none⟩,
 ⟨some 7, (.call ⟨(.value (.func 85)), #[(.tmp 4), (.tmp 6)], #[104, 3]⟩), none⟩,
 ⟨some 8, (.move (.tmp 7)), none⟩,
 ⟨some 9, (.indexAddr 105 (.global 0) (.const (.int .i64 2))), some (8, true)⟩,
 ⟨some 10, (.load 104 (.tmp 9)), some (8, true)⟩,
 ⟨some 11, (.fieldAddr 89 (.tmp 1) 1), some (8, true)⟩,
 ⟨some 12, (.load 3 (.tmp 11)), some (8, true)⟩,
 ⟨some 13, (.call ⟨(.value (.func 85)), #[(.tmp 10), (.tmp 12)], #[104, 3]⟩), some (8, true)⟩,
 ⟨some 14, (.pick (.tmp 8) (.tmp 13) (.const (.bool false))), none⟩,
 ⟨some 15, (.move (.tmp 14)), none⟩,
 ⟨some 16, (.indexAddr 105 (.global 0) (.const (.int .i64 3))), some (15, true)⟩,
 ⟨some 17, (.load 104 (.tmp 16)), some (15, true)⟩,
 ⟨some 18, (.fieldAddr 89 (.tmp 1) 2), some (15, true)⟩,
 ⟨some 19, (.load 3 (.tmp 18)), some (15, true)⟩,
 ⟨some 20, (.call ⟨(.value (.func 85)), #[(.tmp 17), (.tmp 19)], #[104, 3]⟩), some (15, true)⟩,
 ⟨some 21, (.pick (.tmp 15) (.tmp 20) (.const (.bool false))), none⟩,
 ⟨some 2, (.assign (.tmp 21)), none⟩])
 .ret))
theorem fun105 : Fun Tryz.prog vmL 105 22 [(.tmp 2)] s105 := Fun.of Tryz.func105 (by kernel_rfl) (by kernel_rfl) rfl rfl (by decide)
def s106 : SC :=
 (.seq (.reg [⟨some 3, (.box 104 (.tmp 0)), none⟩,
 ⟨some 5, (.box 128 (.tmp 2)), none⟩,
 ⟨some 6, (.assign (.const (.bool false))), none⟩])
 (.seq (.reg [⟨some 7, (.load 104 (.tmp 3)), none⟩,
 ⟨some 8, (.move (.tmp 1)), none⟩,
 ⟨some 9, (.call ⟨(.builtin .len), #[(.tmp 8)], #[23]⟩), none⟩,
 ⟨some 10, (.call ⟨(.value (.func 85)), #[(.tmp 7), (.tmp 9)], #[104, 3]⟩), none⟩,
 ⟨some 11, (.move (.tmp 10)), none⟩,
 ⟨some 12, (.move (.tmp 1)), some (11, true)⟩,
 ⟨some 13, (.makeFunc (.func 136) #[] #[(.tmp 5)]), some (11, true)⟩,
 ⟨some 14, (.call ⟨(.value (.func 89)), #[(.tmp 12), (.tmp 13)], #[23, 128]⟩), some (11, true)⟩,
 ⟨some 15, (.unOp .not 4 (.tmp 14)), some (11, true)⟩,
 ⟨some 16, (.pick (.tmp 11) (.tmp 15) (.const (.bool false))), none⟩,
 ⟨some 6, (.assign (.tmp 16)), none⟩])
 .ret))
theorem fun106 : Fun Tryz.prog vmL 106 17 [(.tmp 6)] s106 := Fun.of Tryz.func106 (by kernel_rfl) (by kernel_rfl) rfl rfl (by decide)
def s107 : SC :=
 (.seq (.reg [⟨some 1, (.box 71 (.tmp 0)), none⟩,
 ⟨some 2, (.assign (.const (.bool false))), none⟩])
 (.seq (.regD [⟨some 3, (.indexAddr 105 (.global 0) (.const (.int .i64 1))), none⟩,
 ⟨some 4, (.load 104 (.tmp 3)), none⟩,
 ⟨some 5, (.fieldAddr 71 (.tmp 1) 0), none⟩,
 ⟨some 6, (.load 3 (.tmp 5)), none⟩,
 ⟨some 7, (.call ⟨(.value (.func 85)), #[(.tmp 4), (.tmp 6)], #[104, 3]⟩), none⟩,
 ⟨some 8, (.move (.tmp 7)), none⟩,
 ⟨some 9, (.indexAddr 105 (.global 0) (.const (.int .i64 2))), some (8, true)⟩,
 ⟨some 10, (.load 104 (.tmp 9)), some (8, true)⟩,
 ⟨some 11, (.fieldAddr 71 (.tmp 1) 1), some (8, true)⟩,
 ⟨some 12, (.load 3 (.tmp 11)), some (8, true)⟩,
 ⟨some 13, (.call ⟨(.value (.func 85)), #[(.tmp 10), (.tmp 12)], #[104, 3]⟩), some (8, true)⟩,
 ⟨some 14, (.pick (.tmp 8) (.tmp 13) (.const (.bool false))), none⟩,
 ⟨some 15, (.move (.tmp 14)), none⟩,
 ⟨some 16, (.call ⟨(.value (.func 137)), #[(.const (.int .i64 5))], #[3]⟩), some (15, true)⟩,
 ⟨some 17, (.fieldAddr 71 (.tmp 1) 2), some (15, true)⟩,
 ⟨some 18, (.load 24 (.tmp 17)), some (15, true)⟩,
 ⟨some 19, (.call ⟨(.value (.func 108)), #[(.tmp 16), (.tmp 18), (.func 109)], #[104, 24, 164]⟩), some (15, true)⟩,
 ⟨some 20, (.pick (.tmp 15) (.tmp 19) (.const (.bool false))), none⟩,
 ⟨some 21, (.move (.tmp 20)), none⟩,
 ⟨some 22, (.indexAddr 105 (.global 0) (.const (.int .i64 7))), some (21, true)⟩,
 ⟨some 23, (.load 104 (.tmp 22)), some (21, true)⟩,
 ⟨some 24, (.fieldAddr 71 (.tmp 1) 3), some (21, true)⟩,
 ⟨some 25, (.load 3 (.tmp 24)), some (21, true)⟩,
 ⟨some 26, (.call ⟨(.value (.func 85)), #[(.tmp 23), (.tmp 25)], #[104, 3]⟩), some (21, true)⟩,
 ⟨some 27, (.pick (.tmp 21) (.tmp 26) (.const (.bool false))), none⟩,
 ⟨some 2, (.assign (.tmp 27)), none⟩] [0, 1, 0, 4, 15, 31, 63, 127, 63, 319, 1023, 2047, 4095, 8191, 8191, 24575, 65535, 131071, 262143, 524287, 1048575, 524287, 2621439, 8388607, 16777215, 33554431])
 .ret))
theorem fun107 : Fun Tryz.prog vmL 107 28 [(.tmp 2)] s107 := Fun.of Tryz.func107 (by kernel_rfl) (by kernel_rfl) rfl rfl (by decide)
def s108 : SC :=
 (.seq (.reg [⟨some 3, (.box 104 (.tmp 0)), none⟩,
 ⟨some 5, (.box 164 (.tmp 2)), none⟩,
 ⟨some 6, (.assign (.const (.bool false))), none⟩])
 (.seq (.reg [⟨some 7, (.load 104 (.tmp 3)), none⟩,
 ⟨some 8, (.move (.tmp 1)), none⟩,
 ⟨some 9, (.call ⟨(.builtin .len), #[(.tmp 8)], #[24]⟩), none⟩,
 ⟨some 10, (.call ⟨(.value (.func 85)), #[(.tmp 7), (.tmp 9)], #[104, 3]⟩), none⟩,
 ⟨some 11, (.move (.tmp 10)), none⟩,
 ⟨some 12, (.move (.tmp 1)), some (11, true)⟩,
 ⟨some 13, (.makeFunc (.func 139) #[] #[(.tmp 5)]), some (11, true)⟩,
 ⟨some 14, (.call ⟨(.value (.func 138)), #[(.tmp 12), (.tmp 13)], #[24, 164]⟩), some (11, true)⟩,
 ⟨some 15, (.unOp .not 4 (.tmp 14)), some (11, true)⟩,
 ⟨some 16, (.pick (.tmp 11) (.tmp 15) (.const (.bool false))), none⟩,
 ⟨some 6, (.assign (.tmp 16)), none⟩])
 .ret))
theorem fun108 : Fun Tryz.prog vmL 108 17 [(.tmp 6)] s108 := Fun.of Tryz.func108 (by kernel_rfl) (by kernel_rfl) rfl rfl (by decide)
def s109 : SC :=
 (.seq (.reg [⟨some 2, (.assign (.const (.bool false))), none⟩])
 (.seq (.reg [⟨some 3, (.indexAddr 105 (.global 0) (.const (.int .i64 6))), none⟩,
 ⟨some 4, (.load 104 (.tmp 3)), none⟩,
 ⟨some 5, (.move (.tmp 0)), none⟩,
 ⟨some 6, (.call ⟨(.value (.func 85)), #[(.tmp 4), (.tmp 5)], #[104, 3]⟩), none⟩,
 ⟨some 2, (.assign (.tmp 6)), none⟩])
 .ret))
theorem fun109 : Fun Tryz.prog vmL 109 7 [(.tmp 2)] s109 := Fun.of Tryz.func109 (by kernel_rfl) (by kernel_rfl) rfl rfl (by decide)
def l110_0 : SC :=
 (.seq (.reg [⟨some 8, (.binOp .lss 3 (.tmp 7) (.tmp 6) 3), none⟩])
 (.seq (.cond (.tmp 8) .skip (.exit 0))
 (.seq (.block 1 (.seq (.reg [⟨some 9, (.move (.tmp 7)), none⟩,
 ⟨some 10, (.indexAddr 24 (.tmp 5) (.tmp 7)), none⟩,
 ⟨some 11, (.load 3 (.tmp 10)), none⟩,
 ⟨some 3, (.assign (.tmp 9)), none⟩,
 ⟨some 4, (.assign (.tmp 11)), none⟩])
 (.seq (.reg [⟨some 12, (.move (.tmp 3)), none⟩,
 ⟨some 13, (.binOp .gtr 3 (.tmp 12) (.const (.int .i64 0)) 3), none⟩,
 ⟨some 14, (.move (.tmp 13)), none⟩,
 ⟨some 15, (.move (.tmp 4)), some (14, true)⟩,
 ⟨some 16, (.move (.tmp 0)), some (14, true)⟩,
 ⟨some 17, (.move (.tmp 3)), some (14, true)⟩,
 ⟨some 18, (.binOp .sub 3 (.tmp 17) (.const (.int .i64 1)) 3), some (14, true)⟩,
 ⟨some 19, (.indexAddr 24 (.tmp 16) (.tmp 18)), some (14, true)⟩,
 ⟨some 20, (.load 3 (.tmp 19)), some (14, true)⟩,
 ⟨some 21, (.binOp .leq 3 (.tmp 15) (.tmp 20) 3), some (14, true)⟩,
 ⟨some 22, (.pick (.tmp 14) (.tmp 21) (.const (.bool false))), none⟩])
 (.cond (.tmp 22) (.seq (.reg [⟨some 2, (.assign (.const (.bool false))), none⟩])
 .ret) .skip))))
 (.reg [⟨some 23, (.binOp .add 3 (.tmp 7) (.const (.int .i64 1)) 3), none⟩,
 ⟨some 7, (.move (.tmp 23)), none⟩]))))
def s110 : SC :=
 (.seq (.reg [⟨some 2, (.assign (.const (.bool false))), none⟩])
 (.seq (.seq (.reg [⟨some 5, (.move (.tmp 0)), none⟩,
 ⟨some 6, (.call ⟨(.builtin .len), #[(.tmp 5)], #[24]⟩), none⟩,
 ⟨some 7, (.move (.const (.int .i64 0))), none⟩])
 (.block 0 (.loop l110_0)))
 (.seq (.reg [⟨some 2, (.assign (.const (.bool true))), none⟩])
 .ret)))
theorem fun110 : Fun Tryz.prog vmL 110 24 [(.tmp 2)] s110 := Fun.of Tryz.func110 (by kernel_rfl) (by kernel_rfl) rfl rfl (by decide)
def l120_0 : SC :=
 (.seq (.reg [⟨some 9, (.binOp .lss 3 (.tmp 8) (.tmp 7) 3), none⟩])
 (.seq (.cond (.tmp 9) .skip (.exit 0))
 (.seq (.block 1 (.seq (.reg [⟨some 10, (.move (.tmp 8)), none⟩,
 ⟨some 5, (.assign (.tmp 10)), none⟩])
 (.seq (.reg [⟨some 11, (.move (.tmp 1)), none⟩,
 ⟨some 12, (.move (.tmp 0)), none⟩,
 ⟨some 13, (.move (.tmp 5)), none⟩,
 ⟨some 14, (.indexAddr 23 (.tmp 12) (.tmp 13)), none⟩,
 ⟨some 15, (.load 71 (.tmp 14)), none⟩,
 ⟨some 16, (.call ⟨(.value (.tmp 11)), #[(.tmp 15)], #[71]⟩), none⟩])
 (.cond (.tmp 16) (.seq (.reg [⟨some 17, (.move (.tmp 5)), none⟩,
 ⟨some 4, (.assign (.tmp 17)), none⟩])
 .ret) .skip))))
 (.reg [⟨some 18, (.binOp .add 3 (.tmp 8) (.const (.int .i64 1)) 3), none⟩,
 ⟨some 8, (.move (.tmp 18)), none⟩]))))
def s120 : SC :=
 (.seq (.reg [⟨some 4, (.assign (.const (.int .i64 0))), none⟩])
 (.seq (.seq (.reg [⟨some 6, (.move (.tmp 0)), none⟩,
 ⟨some 7, (.call ⟨(.builtin .len), #[(.tmp 6)], #[23]⟩), none⟩,
 ⟨some 8, (.move (.const (.int .i64 0))), none⟩])
 (.block 0 (.loop l120_0)))
 (.seq (.reg [⟨some 4, (.assign (.const (.int .i64 (-1)))), none⟩])
 .ret)))
theorem fun120 : Fun Tryz.prog vmL 120 19 [(.tmp 4)] s120 := Fun.of Tryz.func120 (by kernel_rfl) (by kernel_rfl) rfl rfl (by decide)
def s134 : SC :=
 (.seq (.reg [⟨some 4, (.assign (.const (.bool false))), none⟩])
 (.seq (.reg [⟨some 5, (.move (.tmp 0)), none⟩,
 ⟨some 6, (.move (.tmp 1)), none⟩,
 ⟨some 7, (.call ⟨(.value (.func 149)), #[(.tmp 5), (.tmp 6)], #[22, 161]⟩), none⟩,
 ⟨some 8, (.binOp .geq 3 (.tmp 7) (.const (.int .i64 0)) 3), none⟩,
 ⟨some 4, (.assign (.tmp 8)), none⟩])
 .ret))
theorem fun134 : Fun Tryz.prog vmL 134 9 [(.tmp 4)] s134 := Fun.of Tryz.func134 (by kernel_rfl) (by kernel_rfl) rfl rfl (by decide)
def s135 : SC :=
 (.seq (.reg [⟨some 2, (.box 89 (.tmp 0)), none⟩,
 ⟨some 3, (.assign (.const (.bool false))), none⟩])
 (.seq (.reg [⟨some 4, (.load 161 (.tmp 1)), none⟩,
 ⟨some 5, (.load 89 (.tmp 2)), none⟩,
 ⟨some 6, (.call ⟨(.value (.tmp 4)), #[(.tmp 5)], #[89]⟩), none⟩,
 ⟨some 7, (.unOp .not 4 (.tmp 6)), none⟩,
 ⟨some 3, (.assign (.tmp 7)), none⟩])
 .ret))
theorem fun135 : Fun Tryz.prog vmL 135 8 [(.tmp 3)] s135 := Fun.of Tryz.func135 (by kernel_rfl) (by kernel_rfl) rfl rfl (by decide)
def s136 : SC :=
 (.seq (.reg [⟨some 2, (.box 71 (.tmp 0)), none⟩,
 ⟨some 3, (.assign (.const (.bool false))), none⟩])
 (.seq (.reg [⟨some 4, (.load 128 (.tmp 1)), none⟩,
 ⟨some 5, (.load 71 (.tmp 2)), none⟩,
 ⟨some 6, (.call ⟨(.value (.tmp 4)), #[(.tmp 5)], #[71]⟩), none⟩,
 ⟨some 7, (.unOp .not 4 (.tmp 6)), none⟩,
 ⟨some 3, (.assign (.tmp 7)), none⟩])
 .ret))
theorem fun136 : Fun Tryz.prog vmL 136 8 [(.tmp 3)] s136 := Fun.of Tryz.func136 (by kernel_rfl) (by kernel_rfl) rfl rfl (by decide)
def s137 : SC :=
 (.seq (.reg [⟨some 2, (.alloc 104), none⟩])
 (.seq (.reg [⟨some 3, (.move (.tmp 0)), none⟩,
 ⟨some 4, (.move (.tmp 0)), none⟩,
 ⟨some 5, (.build 104 #[(0, (.tmp 3)), (1, (.tmp 4))]), none⟩,
 ⟨none, (.store 104 (.tmp 2) (.tmp 5)), none⟩])
 .ret))
theorem fun137 : Fun Tryz.prog vmL 137 6 [(.cell 2 104)] s137 := Fun.of Tryz.func137 (by kernel_rfl) (by kernel_rfl) rfl rfl (by decide)
def s138 : SC :=
 (.seq (.reg [⟨some 4, (.assign (.const (.bool false))), none⟩])
 (.seq (.reg [⟨some 5, (.move (.tmp 0)), none⟩,
 ⟨some 6, (.move (.tmp 1)), none⟩,
 ⟨some 7, (.call ⟨(.value (.func 150)), #[(.tmp 5), (.tmp 6)], #[24, 164]⟩), none⟩,
 ⟨some 8, (.binOp .geq 3 (.tmp 7) (.const (.int .i64 0)) 3), none⟩,
 ⟨some 4, (.assign (.tmp 8)), none⟩])
 .ret))
theorem fun138 : Fun Tryz.prog vmL 138 9 [(.tmp 4)] s138 := Fun.of Tryz.func138 (by kernel_rfl) (by kernel_rfl) rfl rfl (by decide)
def s139 : SC :=
 (.seq (.reg [⟨some 3, (.assign (.const (.bool false))), none⟩])
 (.seq (.reg [⟨some 4, (.load 164 (.tmp 1)), none⟩,
 ⟨some 5, (.move (.tmp 0)), none⟩,
 ⟨some 6, (.call ⟨(.value (.tmp 4)), #[(.tmp 5)], #[3]⟩), none⟩,
 ⟨some 7, (.unOp .not 4 (.tmp 6)), none⟩,
 ⟨some 3, (.assign (.tmp 7)), none⟩])
 .ret))
theorem fun139 : Fun Tryz.prog vmL 139 8 [(.tmp 3)] s139 := Fun.of Tryz.func139 (by kernel_rfl) (by kernel_rfl) rfl rfl (by decide)
def l149_0 : SC :=
 (.seq (.reg [⟨some 9, (.binOp .lss 3 (.tmp 8) (.tmp 7) 3), none⟩])
 (.seq (.cond (.tmp 9) .skip (.exit 0))
 (.seq (.block 1 (.seq (.reg [⟨some 10, (.move (.tmp 8)), none⟩,
 ⟨some 5, (.assign (.tmp 10)), none⟩])
 (.seq (.reg [⟨some 11, (.move (.tmp 1)), none⟩,
 ⟨some 12, (.move (.tmp 0)), none⟩,
 ⟨some 13, (.move (.tmp 5)), none⟩,
 ⟨some 14, (.indexAddr 22 (.tmp 12) (.tmp 13)), none⟩,
 ⟨some 15, (.load 89 (.tmp 14)), none⟩,
 ⟨some 16, (.call ⟨(.value (.tmp 11)), #[(.tmp 15)], #[89]⟩), none⟩])
 (.cond (.tmp 16) (.seq (.reg [⟨some 17, (.move (.tmp 5)), none⟩,
 ⟨some 4, (.assign (.tmp 17)), none⟩])
 .ret) .skip))))
 (.reg [⟨some 18, (.binOp .add 3 (.tmp 8) (.const (.int .i64 1)) 3), none⟩,
 ⟨some 8, (.move (.tmp 18)), none⟩]))))
def s149 : SC :=
 (.seq (.reg [⟨some 4, (.assign (.const (.int .i64 0))), none⟩])
 (.seq (.seq (.reg [⟨some 6, (.move (.tmp 0)), none⟩,
 ⟨some 7, (.call ⟨(.builtin .len), #[(.tmp 6)], #[22]⟩), none⟩,
 ⟨some 8, (.move (.const (.int .i64 0))), none⟩])
 (.block 0 (.loop l149_0)))
 (.seq (.reg [⟨some 4, (.assign (.const (.int .i64 (-1)))), none⟩])
 .ret)))
theorem fun149 : Fun Tryz.prog vmL 149 19 [(.tmp 4)] s149 := Fun.of Tryz.func149 (by kernel_rfl) (by kernel_rfl) rfl rfl (by decide)
def l150_0 : SC :=
 (.seq (.reg [⟨some 9, (.binOp .lss 3 (.tmp 8) (.tmp 7) 3), none⟩])
 (.seq (.cond (.tmp 9) .skip (.exit 0))
 (.seq (.block 1 (.seq (.reg [⟨some 10, (.move (.tmp 8)), none⟩,
 ⟨some 5, (.assign (.tmp 10)), none⟩])
 (.seq (.reg [⟨some 11, (.move (.tmp 1)), none⟩,
 ⟨some 12, (.move (.tmp 0)), none⟩,
 ⟨some 13, (.move (.tmp 5)), none⟩,
 ⟨some 14, (.indexAddr 24 (.tmp 12) (.tmp 13)), none⟩,
 ⟨some 15, (.load 3 (.tmp 14)), none⟩,
 ⟨some 16, (.call ⟨(.value (.tmp 11)), #[(.tmp 15)], #[3]⟩), none⟩])
 (.cond (.tmp 16) (.seq (.reg [⟨some 17, (.move (.tmp 5)), none⟩,
 ⟨some 4, (.assign (.tmp 17)), none⟩])
 .ret) .skip))))
 (.reg [⟨some 18, (.binOp .add 3 (.tmp 8) (.const (.int .i64 1)) 3), none⟩,
 ⟨some 8, (.move (.tmp 18)), none⟩]))))
def s150 : SC :=
 (.seq (.reg [⟨some 4, (.assign (.const (.int .i64 0))), none⟩])
 (.seq (.seq (.reg [⟨some 6, (.move (.tmp 0)), none⟩,
 ⟨some 7, (.call ⟨(.builtin .len), #[(.tmp 6)], #[24]⟩), none⟩,
 ⟨some 8, (.move (.const (.int .i64 0))), none⟩])
 (.block 0 (.loop l150_0)))
 (.seq (.reg [⟨some 4, (.assign (.const (.int .i64 (-1)))), none⟩])
 .ret)))
theorem fun150 : Fun Tryz.prog vmL 150 19 [(.tmp 4)] s150 := Fun.of Tryz.func150 (by kernel_rfl) (by kernel_rfl) rfl rfl (by decide)
def l11_0 : SC :=
 (.seq (.seq (.reg [⟨some 57, (.move (.tmp 13)), none⟩,
 ⟨some 58, (.move (.tmp 8)), none⟩,
 ⟨some 59, (.call ⟨(.builtin .len), #[(.tmp 58)], #[24]⟩), none⟩,
 ⟨some 60, (.binOp .lss 3 (.tmp 57) (.tmp 59) 3), none⟩])
 (.cond (.tmp 60) .skip (.exit 0)))
 (.seq (.block 1 (.seq (.reg [⟨some 63, (.move (.tmp 8)), none⟩,
 ⟨some 64, (.move (.tmp 13)), none⟩,
 ⟨some 65, (.indexAddr 24 (.tmp 63) (.tmp 64)), none⟩,
 ⟨some 66, (.load 3 (.tmp 65)), none⟩,
 ⟨some 67, (.binOp .gtr 3 (.tmp 66) (.const (.int .i64 0)) 3), none⟩,
 ⟨some 68, (.move (.tmp 67)), none⟩,
 ⟨some 69, (.move (.tmp 10)), some (68, true)⟩,
 ⟨some 70, (.fieldAddr 26 (.tmp 3) 6), some (68, true)⟩,
 ⟨some 71, (.load 24 (.tmp 70)), some (68, true)⟩,
 ⟨some 72, (.move (.tmp 13)), some (68, true)⟩,
 ⟨some 73, (.indexAddr 24 (.tmp 71) (.tmp 72)), some (68, true)⟩,
 ⟨some 74, (.load 3 (.tmp 73)), some (68, true)⟩,
 ⟨some 75, (.binOp .sub 3 (.tmp 69) (.tmp 74) 3), some (68, true)⟩,
 ⟨some 76, (.move (.tmp 7)), some (68, true)⟩,
 ⟨some 77, (.binOp .geq 3 (.tmp 75) (.tmp 76) 3), some (68, true)⟩,
 ⟨some 78, (.pick (.tmp 68) (.tmp 77) (.const (.bool false))), none⟩])
 (.cond (.tmp 78) (.seq (.reg [⟨some 6, (.assign (.const (.bool false))), none⟩])
 .ret) .skip)))
 (.reg [⟨some 61, (.move (.tmp 13)), none⟩,
 ⟨some 62, (.binOp .add 3 (.tmp 61) (.const (.int .i64 1)) 3), none⟩,
 ⟨some 13, (.assign (.tmp 62)), none⟩])))
def l11_1 : SC :=
 (.seq (.seq (.reg [⟨some 80, (.move (.tmp 16)), none⟩,
 ⟨some 81, (.fieldAddr 26 (.tmp 3) 6), none⟩,
 ⟨some 82, (.load 24 (.tmp 81)), none⟩,
 ⟨some 83, (.call ⟨(.builtin .len), #[(.tmp 82)], #[24]⟩), none⟩,
 ⟨some 84, (.binOp .lss 3 (.tmp 80) (.tmp 83) 3), none⟩])
 (.cond (.tmp 84) .skip (.exit 2)))
 (.seq (.block 3 (.seq (.reg [⟨some 17, (.assign (.const (.int .i64 0))), none⟩])
 (.seq (.seq (.reg [⟨some 87, (.move (.tmp 16)), none⟩,
 ⟨some 88, (.binOp .gtr 3 (.tmp 87) (.const (.int .i64 0)) 3), none⟩])
 (.cond (.tmp 88) (.regD [⟨some 89, (.move (.tmp 2)), none⟩,
 ⟨some 90, (.move (.tmp 16)), none⟩,
 ⟨some 91, (.call ⟨(.value (.func 47)), #[(.tmp 89), (.tmp 90)], #[24, 3]⟩), none⟩,
 ⟨some 92, (.move (.tmp 14)), none⟩,
 ⟨some 93, (.fieldAddr 26 (.tmp 3) 6), none⟩,
 ⟨some 94, (.load 24 (.tmp 93)), none⟩,
 ⟨some 95, (.move (.tmp 16)), none⟩,
 ⟨some 96, (.indexAddr 24 (.tmp 94) (.tmp 95)), none⟩,
 ⟨some 97, (.load 3 (.tmp 96)), none⟩,
 ⟨some 98, (.binOp .quo 3 (.tmp 92) (.tmp 97) 3), none⟩,
 ⟨some 99, (.binOp .add 3 (.tmp 98) (.const (.int .i64 2)) 3), none⟩,
 ⟨some 100, (.call ⟨(.builtin .max), #[(.const (.int .i64 1)), (.tmp 99)], #[3, 3]⟩), none⟩,
 ⟨some 101, (.call ⟨(.value (.func 34)), #[(.tmp 91), (.tmp 100)], #[3, 3]⟩), none⟩,
 ⟨some 17, (.assign (.tmp 101)), none⟩] [0, 0, 3, 0, 0, 16, 0, 112, 240, 504, 1016, 2040, 4095, 8191]) .skip))
 (.seq (.reg [⟨some 102, (.move (.tmp 15)), none⟩,
 ⟨some 103, (.move (.tmp 17)), none⟩,
 ⟨some 104, (.buildSlice 24 1 #[(0, (.tmp 103))]), none⟩,
 ⟨some 105, (.call ⟨(.builtin .append), #[(.tmp 102), (.tmp 104)], #[24, 24]⟩), none⟩,
 ⟨some 15, (.assign (.tmp 105)), none⟩])
 (.reg [⟨some 106, (.move (.tmp 14)), none⟩,
 ⟨some 107, (.move (.tmp 17)), none⟩,
 ⟨some 108, (.fieldAddr 26 (.tmp 3) 6), none⟩,
 ⟨some 109, (.load 24 (.tmp 108)), none⟩,
 ⟨some 110, (.move (.tmp 16)), none⟩,
 ⟨some 111, (.indexAddr 24 (.tmp 109) (.tmp 110)), none⟩,
 ⟨some 112, (.load 3 (.tmp 111)), none⟩,
 ⟨some 113, (.binOp .mul 3 (.tmp 107) (.tmp 112) 3), none⟩,
 ⟨some 114, (.binOp .sub 3 (.tmp 106) (.tmp 113) 3), none⟩,
 ⟨some 115, (.call ⟨(.builtin .max), #[(.const (.int .i64 0)), (.tmp 114)], #[3, 3]⟩), none⟩,
 ⟨some 14, (.assign (.tmp 115)), none⟩])))))
 (.reg [⟨some 85, (.move (.tmp 16)), none⟩,
 ⟨some 86, (.binOp .add 3 (.tmp 85) (.const (.int .i64 1)) 3), none⟩,
 ⟨some 16, (.assign (.tmp 86)), none⟩])))
def s11 : SC :=
 (.seq (.reg [⟨some 3, (.box 26 (.tmp 0)), none⟩,
 ⟨some 6, (.assign (.const (.bool false))), none⟩])
 (.seq (.seq (.reg [⟨some 21, (.load 26 (.tmp 3)), none⟩,
 ⟨some 22, (.call ⟨(.value (.func 35)), #[(.tmp 21)], #[26]⟩), none⟩,
 ⟨some 23, (.unOp .not 4 (.tmp 22)), none⟩])
 (.cond (.tmp 23) (.seq (.reg [⟨some 24, (.call ⟨(.value (.func 22)), #[], #[]⟩), none⟩,
 ⟨some 6, (.assign (.tmp 24)), none⟩])
 .ret) .skip))
 (.seq (.reg [⟨some 25, (.move (.tmp 1)), none⟩,
 ⟨some 26, (.call ⟨(.value (.func 34)), #[(.tmp 25), (.const (.int .i64 20001))], #[3, 3]⟩), none⟩,
 ⟨some 7, (.assign (.tmp 26)), none⟩])
 (.seq (.reg [⟨some 28, (.load 26 (.tmp 3)), none⟩,
 ⟨some 29, (.move (.tmp 7)), none⟩,
 ⟨some 30, (.call ⟨(.value (.func 30)), #[(.tmp 28), (.tmp 29)], #[26, 3]⟩), none⟩,
 ⟨some 27, (.move (.tmp 30)), none⟩,
 ⟨some 31, (.extract (.tmp 27) 0), none⟩,
 ⟨some 32, (.extract (.tmp 27) 1), none⟩,
 ⟨some 8, (.assign (.tmp 31)), none⟩,
 ⟨some 9, (.assign (.tmp 32)), none⟩])
 (.seq (.seq (.reg [⟨some 33, (.move (.tmp 9)), none⟩,
 ⟨some 34, (.binOp .neq 29 (.tmp 33) (.const (.int .i64 0)) 29), none⟩,
 ⟨some 35, (.move (.tmp 34)), none⟩,
 ⟨some 36, (.move (.tmp 8)), some (35, false)⟩,
 ⟨some 37, (.call ⟨(.builtin .len), #[(.tmp 36)], #[24]⟩), some (35, false)⟩,
 ⟨some 38, (.fieldAddr 26 (.tmp 3) 6), some (35, false)⟩,
 ⟨some 39, (.load 24 (.tmp 38)), some (35, false)⟩,
 ⟨some 40, (.call ⟨(.builtin .len), #[(.tmp 39)], #[24]⟩), some (35, false)⟩,
 ⟨some 41, (.binOp .neq 3 (.tmp 37) (.tmp 40) 3), some (35, false)⟩,
 ⟨some 42, (.pick (.tmp 35) (.const (.bool true)) (.tmp 41)), none⟩])
 (.cond (.tmp 42) (.seq (.reg [⟨some 6, (.assign (.const (.bool false))), none⟩])
 .ret) .skip))
 (.seq (.reg [⟨some 44, (.load 26 (.tmp 3)), none⟩,
 ⟨some 45, (.move (.tmp 8)), none⟩,
 ⟨some 46, (.call ⟨(.value (.func 46)), #[(.tmp 44), (.tmp 45)], #[26, 24]⟩), none⟩,
 ⟨some 43, (.move (.tmp 46)), none⟩,
 ⟨some 47, (.extract (.tmp 43) 0), none⟩,
 ⟨some 48, (.extract (.tmp 43) 1), none⟩,
 ⟨some 49, (.extract (.tmp 43) 2), none⟩,
 ⟨some 10, (.assign (.tmp 47)), none⟩,
 ⟨some 11, (.assign (.tmp 48)), none⟩,
 ⟨some 12, (.assign (.tmp 49)), none⟩])
 (.seq (.seq (.reg [⟨some 50, (.move (.tmp 12)), none⟩,
 ⟨some 51, (.unOp .not 4 (.tmp 50)), none⟩,
 ⟨some 52, (.move (.tmp 51)), none⟩,
 ⟨some 53, (.move (.tmp 10)), some (52, false)⟩,
 ⟨some 54, (.move (.tmp 7)), some (52, false)⟩,
 ⟨some 55, (.binOp .lss 3 (.tmp 53) (.tmp 54) 3), some (52, false)⟩,
 ⟨some 56, (.pick (.tmp 52) (.const (.bool true)) (.tmp 55)), none⟩])
 (.cond (.tmp 56) (.seq (.reg [⟨some 6, (.assign (.const (.bool false))), none⟩])
 .ret) .skip))
 (.seq (.seq (.reg [⟨some 13, (.assign (.const (.int .i64 0))), none⟩])
 (.block 0 (.loop l11_0)))
 (.seq (.reg [⟨some 79, (.move (.tmp 7)), none⟩,
 ⟨some 14, (.assign (.tmp 79)), none⟩])
 (.seq (.reg [⟨some 15, (.assign (.const (.slice none 0 0))), none⟩])
 (.seq (.seq (.reg [⟨some 16, (.assign (.const (.int .i64 0))), none⟩])
 (.block 2 (.loop l11_1)))
 (.seq (.regD [⟨some 116, (.move (.tmp 2)), none⟩,
 ⟨some 117, (.call ⟨(.value (.func 47)), #[(.tmp 116), (.const (.int .i64 0))], #[24, 3]⟩), none⟩,
 ⟨some 118, (.fieldAddr 26 (.tmp 3) 6), none⟩,
 ⟨some 119, (.load 24 (.tmp 118)), none⟩,
 ⟨some 120, (.call ⟨(.builtin .len), #[(.tmp 119)], #[24]⟩), none⟩,
 ⟨some 121, (.call ⟨(.value (.func 34)), #[(.tmp 117), (.tmp 120)], #[3, 3]⟩), none⟩,
 ⟨some 18, (.assign (.tmp 121)), none⟩] [0, 1, 0, 4, 12, 31, 63])
 (.seq (.regD [⟨some 122, (.move (.tmp 15)), none⟩,
 ⟨some 123, (.move (.tmp 18)), none⟩,
 ⟨some 124, (.indexAddr 24 (.tmp 122) (.tmp 123)), none⟩,
 ⟨some 125, (.load 3 (.tmp 124)), none⟩,
 ⟨some 126, (.move (.tmp 14)), none⟩,
 ⟨some 127, (.fieldAddr 26 (.tmp 3) 6), none⟩,
 ⟨some 128, (.load 24 (.tmp 127)), none⟩,
 ⟨some 129, (.move (.tmp 18)), none⟩,
 ⟨some 130, (.indexAddr 24 (.tmp 128) (.tmp 129)), none⟩,
 ⟨some 131, (.load 3 (.tmp 130)), none⟩,
 ⟨some 132, (.call ⟨(.value (.func 48)), #[(.tmp 126), (.tmp 131)], #[3, 3]⟩), none⟩,
 ⟨some 133, (.binOp .add 3 (.tmp 125) (.tmp 132) 3), none⟩,
 ⟨some 134, (.indexAddr 24 (.tmp 122) (.tmp 123)), none⟩,
 ⟨none, (.store 3 (.tmp 134) (.tmp 133)), none⟩] [0, 0, 3, 7, 0, 0, 32, 0, 224, 480, 1008, 2047, 4095, 8191])
 (.seq (.reg [⟨some 136, (.load 26 (.tmp 3)), none⟩,
 ⟨some 137, (.move (.tmp 15)), none⟩,
 ⟨some 138, (.call ⟨(.value (.func 46)), #[(.tmp 136), (.tmp 137)], #[26, 24]⟩), none⟩,
 ⟨some 135, (.move (.tmp 138)), none⟩,
 ⟨some 139, (.extract (.tmp 135) 0), none⟩,
 ⟨some 140, (.extract (.tmp 135) 1), none⟩,
 ⟨some 141, (.extract (.tmp 135) 2), none⟩,
 ⟨some 19, (.assign (.tmp 139)), none⟩,
 ⟨some 20, (.assign (.tmp 140)), none⟩,
 ⟨some 12, (.assign (.tmp 141)), none⟩])
 (.seq (.reg [⟨some 142, (.move (.tmp 12)), none⟩,
 ⟨some 143, (.move (.tmp 142)), none⟩,
 ⟨some 144, (.move (.tmp 19)), some (143, true)⟩,
 ⟨some 145, (.move (.tmp 7)), some (143, true)⟩,
 ⟨some 146, (.binOp .geq 3 (.tmp 144) (.tmp 145) 3), some (143, true)⟩,
 ⟨some 147, (.pick (.tmp 143) (.tmp 146) (.const (.bool false))), none⟩,
 ⟨some 148, (.move (.tmp 147)), none⟩,
 ⟨some 149, (.move (.tmp 19)), some (148, true)⟩,
 ⟨some 150, (.move (.tmp 10)), some (148, true)⟩,
 ⟨some 151, (.binOp .gtr 3 (.tmp 149) (.tmp 150) 3), some (148, true)⟩,
 ⟨some 152, (.move (.tmp 151)), some (148, true)⟩,
 ⟨some 153, (.move (.tmp 19)), some (152, false)⟩,
 ⟨some 154, (.move (.tmp 10)), some (152, false)⟩,
 ⟨some 155, (.binOp .eql 3 (.tmp 153) (.tmp 154) 3), some (152, false)⟩,
 ⟨some 156, (.move (.tmp 155)), some (152, false)⟩,
 ⟨some 157, (.move (.tmp 20)), some (156, true)⟩,
 ⟨some 158, (.move (.tmp 11)), some (156, true)⟩,
 ⟨some 159, (.binOp .gtr 3 (.tmp 157) (.tmp 158) 3), some (156, true)⟩,
 ⟨some 160, (.move (.tmp 159)), some (156, true)⟩,
 ⟨some 161, (.move (.tmp 20)), some (160, false)⟩,
 ⟨some 162, (.move (.tmp 11)), some (160, false)⟩,
 ⟨some 163, (.binOp .eql 3 (.tmp 161) (.tmp 162) 3), some (160, false)⟩,
 ⟨some 164, (.move (.tmp 163)), some (160, false)⟩,
 ⟨some 165, (.move (.tmp 15)), some (164, true)⟩,
 ⟨some 166, (.move (.tmp 8)), some (164, true)⟩,
 ⟨some 167, (.call ⟨(.value (.func 49)), #[(.tmp 165), (.tmp 166)], #[24, 24]⟩), some (164, true)⟩,
 ⟨some 168, (.unOp .not 4 (.tmp 167)), some (164, true)⟩,
 ⟨some 169, (.pick (.tmp 164) (.tmp 168) (.const (.bool false))), some (160, false)⟩,
 ⟨some 170, (.pick (.tmp 160) (.const (.bool true)) (.tmp 169)), some (156, true)⟩,
 ⟨some 171, (.pick (.tmp 156) (.tmp 170) (.const (.bool false))), some (152, false)⟩,
 ⟨some 172, (.pick (.tmp 152) (.const (.bool true)) (.tmp 171)), some (148, true)⟩,
 ⟨some 173, (.pick (.tmp 148) (.tmp 172) (.const (.bool false))), none⟩,
 ⟨some 174, (.move (.tmp 173)), none⟩,
 ⟨some 175, (.call ⟨(.value (.func 22)), #[], #[]⟩), some (174, true)⟩,
 ⟨some 176, (.pick (.tmp 174) (.tmp 175) (.const (.bool false))), none⟩,
 ⟨some 6, (.assign (.tmp 176)), none⟩])
 .ret)))))))))))))))
theorem fun11 : Fun Tryz.prog vmL 11 177 [(.tmp 6)] s11 := Fun.of Tryz.func11 (by kernel_rfl) (by kernel_rfl) rfl rfl (by decide)
def s30 : SC :=
 (.seq (.reg [⟨some 2, (.box 26 (.tmp 0)), none⟩,
 ⟨some 4, (.assign (.const (.slice none 0 0))), none⟩,
 ⟨some 5, (.assign (.const (.int .i64 0))), none⟩])
 (.seq (.reg [⟨some 8, (.load 26 (.tmp 2)), none⟩,
 ⟨some 9, (.build 77 #[(0, (.tmp 8))]), none⟩,
 ⟨some 6, (.alloc 77), none⟩,
 ⟨none, (.store 77 (.tmp 6) (.tmp 9)), none⟩])
 (.seq (.seq (.reg [⟨some 10, (.load 77 (.tmp 6)), none⟩,
 ⟨some 11, (.move (.tmp 1)), none⟩,
 ⟨some 12, (.makeFunc (.func 72) #[(.tmp 11)] #[]), none⟩,
 ⟨some 13, (.buildSlice 122 1 #[(0, (.tmp 12))]), none⟩,
 ⟨some 14, (.call ⟨(.value (.func 52)), #[(.tmp 10), (.tmp 13)], #[77, 122]⟩), none⟩,
 ⟨some 7, (.assign (.tmp 14)), none⟩])
 (.seq (.reg [⟨some 15, (.move (.tmp 7)), none⟩,
 ⟨some 16, (.binOp .neq 29 (.tmp 15) (.const (.int .i64 0)) 29), none⟩])
 (.cond (.tmp 16) (.seq (.reg [⟨some 17, (.move (.tmp 7)), none⟩,
 ⟨some 4, (.assign (.const (.slice none 0 0))), none⟩,
 ⟨some 5, (.assign (.tmp 17)), none⟩])
 .ret) .skip)))
 (.seq (.reg [⟨some 18, (.load 77 (.tmp 6)), none⟩,
 ⟨some 19, (.move (.tmp 1)), none⟩,
 ⟨some 20, (.call ⟨(.value (.func 73)), #[(.tmp 18), (.tmp 19)], #[77, 3]⟩), none⟩,
 ⟨some 4, (.assign (.tmp 20)), none⟩,
 ⟨some 5, (.assign (.const (.int .i64 0))), none⟩])
 .ret))))
theorem fun30 : Fun Tryz.prog vmL 30 21 [(.tmp 4), (.tmp 5)] s30 := Fun.of Tryz.func30 (by kernel_rfl) (by kernel_rfl) rfl rfl (by decide)
def l46_0 : SC :=
 (.seq (.seq (.reg [⟨some 10, (.move (.tmp 9)), none⟩,
 ⟨some 11, (.move (.tmp 1)), none⟩,
 ⟨some 12, (.call ⟨(.builtin .len), #[(.tmp 11)], #[24]⟩), none⟩,
 ⟨some 13, (.binOp .lss 3 (.tmp 10) (.tmp 12) 3), none⟩])
 (.cond (.tmp 13) .skip (.exit 0)))
 (.seq (.block 1 (.seq (.seq (.reg [⟨some 16, (.move (.tmp 1)), none⟩,
 ⟨some 17, (.move (.tmp 9)), none⟩,
 ⟨some 18, (.indexAddr 24 (.tmp 16) (.tmp 17)), none⟩,
 ⟨some 19, (.load 3 (.tmp 18)), none⟩,
 ⟨some 20, (.call ⟨(.value (.func 40)), #[(.tmp 19), (.const (.int .i64 0)), (.const (.int .i64 20000))], #[3, 3, 3]⟩), none⟩,
 ⟨some 21, (.unOp .not 4 (.tmp 20)), none⟩])
 (.cond (.tmp 21) (.seq (.reg [⟨some 4, (.assign (.const (.int .i64 0))), none⟩,
 ⟨some 5, (.assign (.const (.int .i64 0))), none⟩,
 ⟨some 6, (.assign (.const (.bool false))), none⟩])
 .ret) .skip))
 (.regD [⟨some 22, (.move (.tmp 7)), none⟩,
 ⟨some 23, (.move (.tmp 1)), none⟩,
 ⟨some 24, (.move (.tmp 9)), none⟩,
 ⟨some 25, (.indexAddr 24 (.tmp 23) (.tmp 24)), none⟩,
 ⟨some 26, (.load 3 (.tmp 25)), none⟩,
 ⟨some 27, (.fieldAddr 26 (.tmp 2) 6), none⟩,
 ⟨some 28, (.load 24 (.tmp 27)), none⟩,
 ⟨some 29, (.move (.tmp 9)), none⟩,
 ⟨some 30, (.indexAddr 24 (.tmp 28) (.tmp 29)), none⟩,
 ⟨some 31, (.load 3 (.tmp 30)), none⟩,
 ⟨some 32, (.binOp .mul 3 (.tmp 26) (.tmp 31) 3), none⟩,
 ⟨some 33, (.binOp .add 3 (.tmp 22) (.tmp 32) 3), none⟩,
 ⟨some 34, (.move (.tmp 8)), none⟩,
 ⟨some 35, (.move (.tmp 1)), none⟩,
 ⟨some 36, (.move (.tmp 9)), none⟩,
 ⟨some 37, (.indexAddr 24 (.tmp 35) (.tmp 36)), none⟩,
 ⟨some 38, (.load 3 (.tmp 37)), none⟩,
 ⟨some 39, (.binOp .add 3 (.tmp 34) (.tmp 38) 3), none⟩,
 ⟨some 7, (.assign (.tmp 33)), none⟩,
 ⟨some 8, (.assign (.tmp 39)), none⟩] [0, 0, 0, 6, 14, 0, 32, 0, 224, 480, 1022, 2047, 0, 0, 0, 24576, 57344, 126976, 4095, 524287])))
 (.reg [⟨some 14, (.move (.tmp 9)), none⟩,
 ⟨some 15, (.binOp .add 3 (.tmp 14) (.const (.int .i64 1)) 3), none⟩,
 ⟨some 9, (.assign (.tmp 15)), none⟩])))
def s46 : SC :=
 (.seq (.reg [⟨some 2, (.box 26 (.tmp 0)), none⟩,
 ⟨some 4, (.assign (.const (.int .i64 0))), none⟩,
 ⟨some 5, (.assign (.const (.int .i64 0))), none⟩,
 ⟨some 6, (.assign (.const (.bool false))), none⟩])
 (.seq (.reg [⟨some 7, (.assign (.const (.int .i64 0))), none⟩,
 ⟨some 8, (.assign (.const (.int .i64 0))), none⟩])
 (.seq (.seq (.reg [⟨some 9, (.assign (.const (.int .i64 0))), none⟩])
 (.block 0 (.loop l46_0)))
 (.seq (.reg [⟨some 40, (.move (.tmp 7)), none⟩,
 ⟨some 41, (.move (.tmp 8)), none⟩,
 ⟨some 4, (.assign (.tmp 40)), none⟩,
 ⟨some 5, (.assign (.tmp 41)), none⟩,
 ⟨some 6, (.assign (.const (.bool true))), none⟩])
 .ret))))
theorem fun46 : Fun Tryz.prog vmL 46 42 [(.tmp 4), (.tmp 5), (.tmp 6)] s46 := Fun.of Tryz.func46 (by kernel_rfl) (by kernel_rfl) rfl rfl (by decide)
def s47 : SC :=
 (.seq (.reg [⟨some 4, (.assign (.const (.int .i64 0))), none⟩])
 (.seq (.seq (.reg [⟨some 5, (.move (.tmp 0)), none⟩,
 ⟨some 6, (.call ⟨(.builtin .len), #[(.tmp 5)], #[24]⟩), none⟩,
 ⟨some 7, (.binOp .eql 3 (.tmp 6) (.const (.int .i64 0)) 3), none⟩])
 (.cond (.tmp 7) (.seq (.reg [⟨some 4, (.assign (.const (.int .i64 0))), none⟩])
 .ret) .skip))
 (.seq (.reg [⟨some 8, (.move (.tmp 0)), none⟩,
 ⟨some 9, (.move (.tmp 1)), none⟩,
 ⟨some 10, (.move (.tmp 0)), none⟩,
 ⟨some 11, (.call ⟨(.builtin .len), #[(.tmp 10)], #[24]⟩), none⟩,
 ⟨some 12, (.call ⟨(.value (.func 34)), #[(.tmp 9), (.tmp 11)], #[3, 3]⟩), none⟩,
 ⟨some 13, (.indexAddr 24 (.tmp 8) (.tmp 12)), none⟩,
 ⟨some 14, (.load 3 (.tmp 13)), none⟩,
 ⟨some 4, (.assign (.tmp 14)), none⟩])
 .ret)))
theorem fun47 : Fun Tryz.prog vmL 47 15 [(.tmp 4)] s47 := Fun.of Tryz.func47 (by kernel_rfl) (by kernel_rfl) rfl rfl (by decide)
def l49_0 : SC :=
 (.seq (.seq (.reg [⟨some 6, (.move (.tmp 5)), none⟩,
 ⟨some 7, (.move (.tmp 0)), none⟩,
 ⟨some 8, (.call ⟨(.builtin .len), #[(.tmp 7)], #[24]⟩), none⟩,
 ⟨some 9, (.binOp .lss 3 (.tmp 6) (.tmp 8) 3), none⟩,
 ⟨some 10, (.move (.tmp 9)), none⟩,
 ⟨some 11, (.move (.tmp 5)), some (10, true)⟩,
 ⟨some 12, (.move (.tmp 1)), some (10, true)⟩,
 ⟨some 13, (.call ⟨(.builtin .len), #[(.tmp 12)], #[24]⟩), some (10, true)⟩,
 ⟨some 14, (.binOp .lss 3 (.tmp 11) (.tmp 13) 3), some (10, true)⟩,
 ⟨some 15, (.pick (.tmp 10) (.tmp 14) (.const (.bool false))), none⟩])
 (.cond (.tmp 15) .skip (.exit 0)))
 (.seq (.block 1 (.seq (.regD [⟨some 18, (.move (.tmp 0)), none⟩,
 ⟨some 19, (.move (.tmp 5)), none⟩,
 ⟨some 20, (.indexAddr 24 (.tmp 18) (.tmp 19)), none⟩,
 ⟨some 21, (.load 3 (.tmp 20)), none⟩,
 ⟨some 22, (.move (.tmp 1)), none⟩,
 ⟨some 23, (.move (.tmp 5)), none⟩,
 ⟨some 24, (.indexAddr 24 (.tmp 22) (.tmp 23)), none⟩,
 ⟨some 25, (.load 3 (.tmp 24)), none⟩,
 ⟨some 26, (.binOp .neq 3 (.tmp 21) (.tmp 25) 3), none⟩] [0, 0, 3, 7, 0, 0, 48, 112, 255])
 (.cond (.tmp 26) (.seq (.regD [⟨some 27, (.move (.tmp 0)), none⟩,
 ⟨some 28, (.move (.tmp 5)), none⟩,
 ⟨some 29, (.indexAddr 24 (.tmp 27) (.tmp 28)), none⟩,
 ⟨some 30, (.load 3 (.tmp 29)), none⟩,
 ⟨some 31, (.move (.tmp 1)), none⟩,
 ⟨some 32, (.move (.tmp 5)), none⟩,
 ⟨some 33, (.indexAddr 24 (.tmp 31) (.tmp 32)), none⟩,
 ⟨some 34, (.load 3 (.tmp 33)), none⟩,
 ⟨some 35, (.binOp .lss 3 (.tmp 30) (.tmp 34) 3), none⟩,
 ⟨some 4, (.assign (.tmp 35)), none⟩] [0, 0, 3, 7, 0, 0, 48, 112, 255, 511])
 .ret) .skip)))
 (.reg [⟨some 16, (.move (.tmp 5)), none⟩,
 ⟨some 17, (.binOp .add 3 (.tmp 16) (.const (.int .i64 1)) 3), none⟩,
 ⟨some 5, (.assign (.tmp 17)), none⟩])))
def s49 : SC :=
 (.seq (.reg [⟨some 4, (.assign (.const (.bool false))), none⟩])
 (.seq (.seq (.reg [⟨some 5, (.assign (.const (.int .i64 0))), none⟩])
 (.block 0 (.loop l49_0)))
 (.seq (.reg [⟨some 36, (.move (.tmp 0)), none⟩,
 ⟨some 37, (.call ⟨(.builtin .len), #[(.tmp 36)], #[24]⟩), none⟩,
 ⟨some 38, (.move (.tmp 1)), none⟩,
 ⟨some 39, (.call ⟨(.builtin .len), #[(.tmp 38)], #[24]⟩), none⟩,
 ⟨some 40, (.binOp .lss 3 (.tmp 37) (.tmp 39) 3), none⟩,
 ⟨some 4, (.assign (.tmp 40)), none⟩])
 .ret)))
theorem fun49 : Fun Tryz.prog vmL 49 41 [(.tmp 4)] s49 := Fun.of Tryz.func49 (by kernel_rfl) (by kernel_rfl) rfl rfl (by decide)
def s72 : SC :=
 (.seq (.reg [⟨some 2, (.assign (.const (.bool false))), none⟩])
 (.seq (.reg [⟨some 3, (.indexAddr 105 (.global 0) (.const (.int .i64 10))), none⟩,
 ⟨some 4, (.load 104 (.tmp 3)), none⟩,
 ⟨some 5, (.move (.tmp 0)), none⟩,
 ⟨some 6, (.call ⟨(.value (.func 85)), #[(.tmp 4), (.tmp 5)], #[104, 3]⟩), none⟩,
 ⟨some 2, (.assign (.tmp 6)), none⟩])
 .ret))
theorem fun72 : Fun Tryz.prog vmL 72 7 [(.tmp 2)] s72 := Fun.of Tryz.func72 (by kernel_rfl) (by kernel_rfl) rfl rfl (by decide)
def l73_0 : SC :=
 (.seq (.seq (.reg [⟨some 18, (.move (.tmp 6)), none⟩,
 ⟨some 19, (.move (.tmp 1)), none⟩,
 ⟨some 20, (.binOp .lss 3 (.tmp 18) (.tmp 19) 3), none⟩])
 (.cond (.tmp 20) .skip (.exit 0)))
 (.seq (.block 1 (.seq (.reg [⟨some 23, (.load 77 (.tmp 2)), none⟩,
 ⟨some 24, (.move (.tmp 5)), none⟩,
 ⟨some 25, (.call ⟨(.value (.func 97)), #[(.tmp 23), (.tmp 24)], #[77, 147]⟩), none⟩,
 ⟨some 8, (.alloc 149), none⟩,
 ⟨none, (.store 149 (.tmp 8) (.tmp 25)), none⟩])
 (.seq (.reg [⟨some 26, (.move (.tmp 5)), none⟩,
 ⟨some 27, (.load 149 (.tmp 8)), none⟩,
 ⟨some 28, (.buildSlice 147 1 #[(0, (.tmp 27))]), none⟩,
 ⟨some 29, (.call ⟨(.builtin .append), #[(.tmp 26), (.tmp 28)], #[147, 147]⟩), none⟩,
 ⟨some 5, (.assign (.tmp 29)), none⟩])
 (.seq (.reg [⟨some 30, (.load 149 (.tmp 8)), none⟩,
 ⟨some 31, (.build 149 #[]), none⟩,
 ⟨some 32, (.binOp .neq 149 (.tmp 30) (.tmp 31) 149), none⟩])
 (.cond (.tmp 32) (.reg [⟨some 33, (.move (.tmp 7)), none⟩,
 ⟨some 6, (.assign (.tmp 33)), none⟩]) .skip)))))
 (.reg [⟨some 21, (.move (.tmp 7)), none⟩,
 ⟨some 22, (.binOp .add 3 (.tmp 21) (.const (.int .i64 1)) 3), none⟩,
 ⟨some 7, (.assign (.tmp 22)), none⟩])))
def s73 : SC :=
 (.seq (.reg [⟨some 2, (.box 77 (.tmp 0)), none⟩,
 ⟨some 4, (.assign (.const (.slice none 0 0))), none⟩])
 (.seq (.reg [⟨some 10, (.move (.tmp 1)), none⟩,
 ⟨some 11, (.fieldAddr 77 (.tmp 2) 0), none⟩,
 ⟨some 12, (.fieldAddr 26 (.tmp 11) 6), none⟩,
 ⟨some 13, (.load 24 (.tmp 12)), none⟩,
 ⟨some 14, (.indexAddr 24 (.tmp 13) (.const (.int .i64 0))), none⟩,
 ⟨some 15, (.load 3 (.tmp 14)), none⟩,
 ⟨some 16, (.binOp .add 3 (.tmp 10) (.tmp 15) 3), none⟩,
 ⟨some 17, (.makeSlice 147 (.const (.int .i64 1)) (.tmp 16)), none⟩,
 ⟨some 5, (.assign (.tmp 17)), none⟩])
 (.seq (.reg [⟨some 6, (.assign (.const (.int .i64 0))), none⟩])
 (.seq (.seq (.reg [⟨some 7, (.assign (.const (.int .i64 1))), none⟩])
 (.block 0 (.loop l73_0)))
 (.seq (.regD [⟨some 34, (.move (.tmp 5)), none⟩,
 ⟨some 35, (.move (.tmp 6)), none⟩,
 ⟨some 36, (.indexAddr 147 (.tmp 34) (.tmp 35)), none⟩,
 ⟨some 37, (.fieldAddr 77 (.tmp 2) 0), none⟩,
 ⟨some 38, (.fieldAddr 26 (.tmp 37) 6), none⟩,
 ⟨some 39, (.load 24 (.tmp 38)), none⟩,
 ⟨some 40, (.call ⟨(.builtin .len), #[(.tmp 39)], #[24]⟩), none⟩,
 ⟨some 41, (.slice 149 (.tmp 36) none (some (.tmp 40)) none), none⟩,
 ⟨some 42, (.call ⟨(.value (.func 98)), #[(.tmp 41)], #[24]⟩), none⟩,
 ⟨some 9, (.assign (.tmp 42)), none⟩] [0, 0, 3, 0, 8, 24, 56, 127, 255, 511])
 (.seq (.reg [⟨some 43, (.move (.tmp 9)), none⟩,
 ⟨some 44, (.move (.tmp 9)), none⟩,
 ⟨some 45, (.call ⟨(.builtin .len), #[(.tmp 44)], #[24]⟩), none⟩,
 ⟨some 46, (.move (.tmp 9)), none⟩,
 ⟨some 47, (.call ⟨(.builtin .len), #[(.tmp 46)], #[24]⟩), none⟩,
 ⟨some 48, (.slice 24 (.tmp 43) none (some (.tmp 45)) (some (.tmp 47))), none⟩,
 ⟨some 4, (.assign (.tmp 48)), none⟩])
 .ret))))))
theorem fun73 : Fun Tryz.prog vmL 73 49 [(.tmp 4)] s73 := Fun.of Tryz.func73 (by kernel_rfl) (by kernel_rfl) rfl rfl (by decide)
def l97_0 : SC :=
 (.seq (.reg [⟨some 15, (.binOp .lss 3 (.tmp 14) (.tmp 13) 3), none⟩])
 (.seq (.cond (.tmp 15) .skip (.exit 0))
 (.seq (.block 1 (.seq (.reg [⟨some 16, (.move (.tmp 14)), none⟩,
 ⟨some 17, (.indexAddr 24 (.tmp 12) (.tmp 14)), none⟩,
 ⟨some 18, (.load 3 (.tmp 17)), none⟩,
 ⟨some 6, (.assign (.tmp 16)), none⟩,
 ⟨some 7, (.assign (.tmp 18)), none⟩])
 (.seq (.reg [⟨some 19, (.move (.tmp 1)), none⟩,
 ⟨some 20, (.call ⟨(.builtin .len), #[(.tmp 19)], #[147]⟩), none⟩,
 ⟨some 21, (.move (.tmp 7)), none⟩,
 ⟨some 22, (.binOp .sub 3 (.tmp 20) (.tmp 21) 3), none⟩,
 ⟨some 8, (.assign (.tmp 22)), none⟩])
 (.seq (.seq (.reg [⟨some 23, (.move (.tmp 8)), none⟩,
 ⟨some 24, (.binOp .lss 3 (.tmp 23) (.const (.int .i64 0)) 3), none⟩,
 ⟨some 25, (.move (.tmp 24)), none⟩,
 ⟨some 26, (.move (.tmp 8)), some (25, false)⟩,
 ⟨some 27, (.binOp .gtr 3 (.tmp 26) (.const (.int .i64 0)) 3), some (25, false)⟩,
 ⟨some 28, (.move (.tmp 27)), some (25, false)⟩,
 ⟨some 29, (.move (.tmp 1)), some (28, true)⟩,
 ⟨some 30, (.move (.tmp 8)), some (28, true)⟩,
 ⟨some 31, (.indexAddr 147 (.tmp 29) (.tmp 30)), some (28, true)⟩,
 ⟨some 32, (.load 149 (.tmp 31)), some (28, true)⟩,
 ⟨some 33, (.build 149 #[]), some (28, true)⟩,
 ⟨some 34, (.binOp .eql 149 (.tmp 32) (.tmp 33) 149), some (28, true)⟩,
 ⟨some 35, (.pick (.tmp 28) (.tmp 34) (.const (.bool false))), some (25, false)⟩,
 ⟨some 36, (.pick (.tmp 25) (.const (.bool true)) (.tmp 35)), none⟩])
 (.cond (.tmp 36) (.exit 1) .skip))
 (.seq (.reg [⟨some 37, (.move (.tmp 1)), none⟩,
 ⟨some 38, (.move (.tmp 8)), none⟩,
 ⟨some 39, (.indexAddr 147 (.tmp 37) (.tmp 38)), none⟩,
 ⟨some 40, (.load 149 (.tmp 39)), none⟩,
 ⟨some 41, (.move (.tmp 6)), none⟩,
 ⟨some 42, (.call ⟨(.value (.func 126)), #[(.tmp 40), (.tmp 41)], #[149, 3]⟩), none⟩,
 ⟨some 9, (.alloc 149), none⟩,
 ⟨none, (.store 149 (.tmp 9) (.tmp 42)), none⟩])
 (.seq (.reg [⟨some 43, (.load 149 (.tmp 5)), none⟩,
 ⟨some 44, (.build 149 #[]), none⟩,
 ⟨some 45, (.binOp .eql 149 (.tmp 43) (.tmp 44) 149), none⟩,
 ⟨some 46, (.move (.tmp 45)), none⟩,
 ⟨some 47, (.load 149 (.tmp 9)), some (46, false)⟩,
 ⟨some 48, (.load 149 (.tmp 5)), some (46, false)⟩,
 ⟨some 49, (.call ⟨(.value (.func 127)), #[(.tmp 47), (.tmp 48)], #[149, 149]⟩), some (46, false)⟩,
 ⟨some 50, (.pick (.tmp 46) (.const (.bool true)) (.tmp 49)), none⟩])
 (.cond (.tmp 50) (.reg [⟨some 51, (.load 149 (.tmp 9)), none⟩,
 ⟨none, (.store 149 (.tmp 5) (.tmp 51)), none⟩]) .skip)))))))
 (.reg [⟨some 52, (.binOp .add 3 (.tmp 14) (.const (.int .i64 1)) 3), none⟩,
 ⟨some 14, (.move (.tmp 52)), none⟩]))))
def s97 : SC :=
 (.seq (.reg [⟨some 2, (.box 77 (.tmp 0)), none⟩,
 ⟨some 4, (.alloc 149), none⟩])
 (.seq (.reg [⟨some 5, (.alloc 149), none⟩])
 (.seq (.seq (.reg [⟨some 10, (.fieldAddr 77 (.tmp 2) 0), none⟩,
 ⟨some 11, (.fieldAddr 26 (.tmp 10) 6), none⟩,
 ⟨some 12, (.load 24 (.tmp 11)), none⟩,
 ⟨some 13, (.call ⟨(.builtin .len), #[(.tmp 12)], #[24]⟩), none⟩,
 ⟨some 14, (.move (.const (.int .i64 0))), none⟩])
 (.block 0 (.loop l97_0)))
 (.seq (.reg [⟨some 53, (.load 149 (.tmp 5)), none⟩,
 ⟨none, (.store 149 (.tmp 4) (.tmp 53)), none⟩])
 .ret))))
theorem fun97 : Fun Tryz.prog vmL 97 54 [(.cell 4 149)] s97 := Fun.of Tryz.func97 (by kernel_rfl) (by kernel_rfl) rfl rfl (by decide)
def s98 : SC :=
 (.seq (.reg [⟨some 2, (.assign (.const (.slice none 0 0))), none⟩])
 (.seq (.seq (.reg [⟨some 3, (.move (.tmp 0)), none⟩,
 ⟨some 4, (.binOp .eql 24 (.tmp 3) (.const (.slice none 0 0)) 24), none⟩])
 (.cond (.tmp 4) (.seq (.reg [⟨some 2, (.assign (.const (.slice none 0 0))), none⟩])
 .ret) .skip))
 (.seq (.reg [⟨some 5, (.buildSlice 24 0 #[]), none⟩,
 ⟨some 6, (.move (.tmp 0)), none⟩,
 ⟨some 7, (.call ⟨(.builtin .append), #[(.tmp 5), (.tmp 6)], #[24, 24]⟩), none⟩,
 ⟨some 2, (.assign (.tmp 7)), none⟩])
 .ret)))
theorem fun98 : Fun Tryz.prog vmL 98 8 [(.tmp 2)] s98 := Fun.of Tryz.func98 (by kernel_rfl) (by kernel_rfl) rfl rfl (by decide)
def s126 : SC :=
 (.seq (.reg [⟨some 2, (.box 149 (.tmp 0)), none⟩,
 ⟨some 4, (.alloc 149), none⟩])
 (.seq (.reg [⟨some 5, (.move (.tmp 1)), none⟩,
 ⟨some 6, (.indexAddr 149 (.tmp 2) (.tmp 5)), none⟩,
 ⟨some 7, (.load 3 (.tmp 6)), none⟩,
 ⟨some 8, (.binOp .add 3 (.tmp 7) (.const (.int .i64 1)) 3), none⟩,
 ⟨some 9, (.indexAddr 149 (.tmp 2) (.tmp 5)), none⟩,
 ⟨none, (.store 3 (.tmp 9) (.tmp 8)), none⟩])
 (.seq (.reg [⟨some 10, (.load 149 (.tmp 2)), none⟩,
 ⟨none, (.store 149 (.tmp 4) (.tmp 10)), none⟩])
 .ret)))
theorem fun126 : Fun Tryz.prog vmL 126 11 [(.cell 4 149)] s126 := Fun.of Tryz.func126 (by kernel_rfl) (by kernel_rfl) rfl rfl (by decide)
def s127 : SC :=
 (.seq (.reg [⟨some 2, (.box 149 (.tmp 0)), none⟩,
 ⟨some 3, (.box 149 (.tmp 1)), none⟩,
 ⟨some 4, (.assign (.const (.bool false))), none⟩])
 (.seq (.regD [⟨some 5, (.load 149 (.tmp 2)), none⟩,
 ⟨some 6, (.call ⟨(.value (.func 147)), #[(.tmp 5)], #[149]⟩), none⟩,
 ⟨some 7, (.load 149 (.tmp 3)), none⟩,
 ⟨some 8, (.call ⟨(.value (.func 147)), #[(.tmp 7)], #[149]⟩), none⟩,
 ⟨some 9, (.call ⟨(.value (.func 146)), #[(.tmp 6), (.tmp 8)], #[3, 3]⟩), none⟩,
 ⟨some 10, (.slice 149 (.tmp 2) none none none), none⟩,
 ⟨some 11, (.slice 149 (.tmp 3) none none none), none⟩,
 ⟨some 12, (.call ⟨(.value (.func 148)), #[(.tmp 10), (.tmp 11)], #[24, 24]⟩), none⟩,
 ⟨some 13, (.buildSlice 24 2 #[(0, (.tmp 9)), (1, (.tmp 12))]), none⟩,
 ⟨some 14, (.call ⟨(.value (.func 145)), #[(.tmp 13)], #[24]⟩), none⟩,
 ⟨some 15, (.binOp .lss 3 (.tmp 14) (.const (.int .i64 0)) 3), none⟩,
 ⟨some 4, (.assign (.tmp 15)), none⟩] [0, 1, 0, 7, 15, 0, 0, 127, 255, 511, 1023, 2047])
 .ret))
theorem fun127 : Fun Tryz.prog vmL 127 16 [(.tmp 4)] s127 := Fun.of Tryz.func127 (by kernel_rfl) (by kernel_rfl) rfl rfl (by decide)
def l145_0 : SC :=
 (.seq (.reg [⟨some 9, (.binOp .lss 3 (.tmp 8) (.tmp 7) 3), none⟩])
 (.seq (.cond (.tmp 9) .skip (.exit 0))
 (.seq (.block 1 (.seq (.reg [⟨some 10, (.indexAddr 24 (.tmp 6) (.tmp 8)), none⟩,
 ⟨some 11, (.load 3 (.tmp 10)), none⟩,
 ⟨some 5, (.assign (.tmp 11)), none⟩])
 (.seq (.reg [⟨some 12, (.move (.tmp 5)), none⟩,
 ⟨some 13, (.move (.tmp 3)), none⟩,
 ⟨some 14, (.binOp .neq 3 (.tmp 12) (.tmp 13) 3), none⟩])
 (.cond (.tmp 14) (.seq (.reg [⟨some 15, (.move (.tmp 5)), none⟩,
 ⟨some 2, (.assign (.tmp 15)), none⟩])
 .ret) .skip))))
 (.reg [⟨some 16, (.binOp .add 3 (.tmp 8) (.const (.int .i64 1)) 3), none⟩,
 ⟨some 8, (.move (.tmp 16)), none⟩]))))
def s145 : SC :=
 (.seq (.reg [⟨some 2, (.assign (.const (.int .i64 0))), none⟩])
 (.seq (.reg [⟨some 3, (.assign (.const (.int .i64 0))), none⟩])
 (.seq (.seq (.reg [⟨some 6, (.move (.tmp 0)), none⟩,
 ⟨some 7, (.call ⟨(.builtin .len), #[(.tmp 6)], #[24]⟩), none⟩,
 ⟨some 8, (.move (.const (.int .i64 0))), none⟩])
 (.block 0 (.loop l145_0)))
 (.seq (.reg [⟨some 17, (.move (.tmp 3)), none⟩,
 ⟨some 2, (.assign (.tmp 17)), none⟩])
 .ret))))
theorem fun145 : Fun Tryz.prog vmL 145 18 [(.tmp 2)] s145 := Fun.of Tryz.func145 (by kernel_rfl) (by kernel_rfl) rfl rfl (by decide)
def s146 : SC :=
 (.seq (.reg [⟨some 4, (.assign (.const (.int .i64 0))), none⟩])
 (.seq (.reg [⟨some 7, (.move (.tmp 0)), none⟩,
 ⟨some 8, (.call ⟨(.value (.func 152)), #[(.tmp 7)], #[3]⟩), none⟩,
 ⟨some 5, (.assign (.tmp 8)), none⟩])
 (.seq (.reg [⟨some 9, (.move (.tmp 1)), none⟩,
 ⟨some 10, (.call ⟨(.value (.func 152)), #[(.tmp 9)], #[3]⟩), none⟩,
 ⟨some 6, (.assign (.tmp 10)), none⟩])
 (.seq (.seq (.reg [⟨some 11, (.move (.tmp 5)), none⟩])
 (.cond (.tmp 11) (.seq (.seq (.reg [⟨some 12, (.move (.tmp 6)), none⟩])
 (.cond (.tmp 12) (.seq (.reg [⟨some 4, (.assign (.const (.int .i64 0))), none⟩])
 .ret) .skip))
 (.seq (.reg [⟨some 4, (.assign (.const (.int .i64 (-1)))), none⟩])
 .ret)) .skip))
 (.seq (.seq (.reg [⟨some 13, (.move (.tmp 6)), none⟩])
 (.cond (.tmp 13) (.seq (.reg [⟨some 4, (.assign (.const (.int .i64 1))), none⟩])
 .ret) .skip))
 (.seq (.seq (.reg [⟨some 14, (.move (.tmp 0)), none⟩,
 ⟨some 15, (.move (.tmp 1)), none⟩,
 ⟨some 16, (.binOp .lss 3 (.tmp 14) (.tmp 15) 3), none⟩])
 (.cond (.tmp 16) (.seq (.reg [⟨some 4, (.assign (.const (.int .i64 (-1)))), none⟩])
 .ret) .skip))
 (.seq (.seq (.reg [⟨some 17, (.move (.tmp 0)), none⟩,
 ⟨some 18, (.move (.tmp 1)), none⟩,
 ⟨some 19, (.binOp .gtr 3 (.tmp 17) (.tmp 18) 3), none⟩])
 (.cond (.tmp 19) (.seq (.reg [⟨some 4, (.assign (.const (.int .i64 1))), none⟩])
 .ret) .skip))
 (.seq (.reg [⟨some 4, (.assign (.const (.int .i64 0))), none⟩])
 .ret))))))))
theorem fun146 : Fun Tryz.prog vmL 146 20 [(.tmp 4)] s146 := Fun.of Tryz.func146 (by kernel_rfl) (by kernel_rfl) rfl rfl (by decide)
def s147 : SC :=
 (.seq (.reg [⟨some 1, (.box 149 (.tmp 0)), none⟩,
 ⟨some 2, (.assign (.const (.int .i64 0))), none⟩])
 (.seq (.reg [⟨some 3, (.slice 149 (.tmp 1) none none none), none⟩,
 ⟨some 4, (.call ⟨(.value (.func 153)), #[(.func 154), (.tmp 3)], #[193, 24]⟩), none⟩,
 ⟨some 2, (.assign (.tmp 4)), none⟩])
 .ret))
theorem fun147 : Fun Tryz.prog vmL 147 5 [(.tmp 2)] s147 := Fun.of Tryz.func147 (by kernel_rfl) (by kernel_rfl) rfl rfl (by decide)
def l148_0 : SC :=
 (.seq (.reg [⟨some 12, (.binOp .lss 3 (.tmp 11) (.tmp 10) 3), none⟩])
 (.seq (.cond (.tmp 12) .skip (.exit 0))
 (.seq (.block 1 (.seq (.reg [⟨some 13, (.move (.tmp 11)), none⟩,
 ⟨some 14, (.indexAddr 24 (.tmp 9) (.tmp 11)), none⟩,
 ⟨some 15, (.load 3 (.tmp 14)), none⟩,
 ⟨some 5, (.assign (.tmp 13)), none⟩,
 ⟨some 6, (.assign (.tmp 15)), none⟩])
 (.seq (.seq (.reg [⟨some 16, (.move (.tmp 5)), none⟩,
 ⟨some 17, (.move (.tmp 1)), none⟩,
 ⟨some 18, (.call ⟨(.builtin .len), #[(.tmp 17)], #[24]⟩), none⟩,
 ⟨some 19, (.binOp .geq 3 (.tmp 16) (.tmp 18) 3), none⟩])
 (.cond (.tmp 19) (.seq (.reg [⟨some 4, (.assign (.const (.int .i64 1))), none⟩])
 .ret) .skip))
 (.seq (.reg [⟨some 20, (.move (.tmp 1)), none⟩,
 ⟨some 21, (.move (.tmp 5)), none⟩,
 ⟨some 22, (.indexAddr 24 (.tmp 20) (.tmp 21)), none⟩,
 ⟨some 23, (.load 3 (.tmp 22)), none⟩,
 ⟨some 7, (.assign (.tmp 23)), none⟩])
 (.seq (.reg [⟨some 24, (.move (.tmp 6)), none⟩,
 ⟨some 25, (.move (.tmp 7)), none⟩,
 ⟨some 26, (.call ⟨(.value (.func 146)), #[(.tmp 24), (.tmp 25)], #[3, 3]⟩), none⟩,
 ⟨some 8, (.assign (.tmp 26)), none⟩])
 (.seq (.reg [⟨some 27, (.move (.tmp 8)), none⟩,
 ⟨some 28, (.binOp .neq 3 (.tmp 27) (.const (.int .i64 0)) 3), none⟩])
 (.cond (.tmp 28) (.seq (.reg [⟨some 29, (.move (.tmp 8)), none⟩,
 ⟨some 4, (.assign (.tmp 29)), none⟩])
 .ret) .skip)))))))
 (.reg [⟨some 30, (.binOp .add 3 (.tmp 11) (.const (.int .i64 1)) 3), none⟩,
 ⟨some 11, (.move (.tmp 30)), none⟩]))))
def s148 : SC :=
 (.seq (.reg [⟨some 4, (.assign (.const (.int .i64 0))), none⟩])
 (.seq (.seq (.reg [⟨some 9, (.move (.tmp 0)), none⟩,
 ⟨some 10, (.call ⟨(.builtin .len), #[(.tmp 9)], #[24]⟩), none⟩,
 ⟨some 11, (.move (.const (.int .i64 0))), none⟩])
 (.block 0 (.loop l148_0)))
 (.seq (.seq (.reg [⟨some 31, (.move (.tmp 0)), none⟩,
 ⟨some 32, (.call ⟨(.builtin .len), #[(.tmp 31)], #[24]⟩), none⟩,
 ⟨some 33, (.move (.tmp 1)), none⟩,
 ⟨some 34, (.call ⟨(.builtin .len), #[(.tmp 33)], #[24]⟩), none⟩,
 ⟨some 35, (.binOp .lss 3 (.tmp 32) (.tmp 34) 3), none⟩])
 (.cond (.tmp 35) (.seq (.reg [⟨some 4, (.assign (.const (.int .i64 (-1)))), none⟩])
 .ret) .skip))
 (.seq (.reg [⟨some 4, (.assign (.const (.int .i64 0))), none⟩])
 .ret))))
theorem fun148 : Fun Tryz.prog vmL 148 36 [(.tmp 4)] s148 := Fun.of Tryz.func148 (by kernel_rfl) (by kernel_rfl) rfl rfl (by decide)
def s152 : SC :=
 (.seq (.reg [⟨some 2, (.assign (.const (.bool false))), none⟩])
 (.seq (.reg [⟨some 3, (.move (.tmp 0)), none⟩,
 ⟨some 4, (.move (.tmp 0)), none⟩,
 ⟨some 5, (.binOp .neq 3 (.tmp 3) (.tmp 4) 3), none⟩,
 ⟨some 2, (.assign (.tmp 5)), none⟩])
 .ret))
theorem fun152 : Fun Tryz.prog vmL 152 6 [(.tmp 2)] s152 := Fun.of Tryz.func152 (by kernel_rfl) (by kernel_rfl) rfl rfl (by decide)
def l153_0 : SC :=
 (.seq (.reg [⟨some 11, (.binOp .lss 3 (.tmp 10) (.tmp 9) 3), none⟩])
 (.seq (.cond (.tmp 11) .skip (.exit 0))
 (.seq (.block 1 (.seq (.reg [⟨some 12, (.indexAddr 24 (.tmp 8) (.tmp 10)), none⟩,
 ⟨some 13, (.load 3 (.tmp 12)), none⟩,
 ⟨some 7, (.assign (.tmp 13)), none⟩])
 (.reg [⟨some 14, (.move (.tmp 5)), none⟩,
 ⟨some 15, (.move (.tmp 0)), none⟩,
 ⟨some 16, (.move (.tmp 7)), none⟩,
 ⟨some 17, (.call ⟨(.value (.tmp 15)), #[(.tmp 16)], #[3]⟩), none⟩,
 ⟨some 18, (.binOp .add 3 (.tmp 14) (.tmp 17) 3), none⟩,
 ⟨some 5, (.assign (.tmp 18)), none⟩])))
 (.reg [⟨some 19, (.binOp .add 3 (.tmp 10) (.const (.int .i64 1)) 3), none⟩,
 ⟨some 10, (.move (.tmp 19)), none⟩]))))
def s153 : SC :=
 (.seq (.reg [⟨some 4, (.assign (.const (.int .i64 0))), none⟩])
 (.seq (.reg [⟨some 5, (.assign (.const (.int .i64 0))), none⟩])
 (.seq (.seq (.reg [⟨some 8, (.move (.tmp 1)), none⟩,
 ⟨some 9, (.call ⟨(.builtin .len), #[(.tmp 8)], #[24]⟩), none⟩,
 ⟨some 10, (.move (.const (.int .i64 0))), none⟩])
 (.block 0 (.loop l153_0)))
 (.seq (.reg [⟨some 20, (.move (.tmp 5)), none⟩,
 ⟨some 4, (.assign (.tmp 20)), none⟩])
 .ret))))
theorem fun153 : Fun Tryz.prog vmL 153 21 [(.tmp 4)] s153 := Fun.of Tryz.func153 (by kernel_rfl) (by kernel_rfl) rfl rfl (by decide)
def s154 : SC :=
 (.seq (.reg [⟨some 2, (.assign (.const (.int .i64 0))), none⟩])
 (.seq (.reg [⟨some 3, (.move (.tmp 0)), none⟩,
 ⟨some 2, (.assign (.tmp 3)), none⟩])
 .ret))
theorem fun154 : Fun Tryz.prog vmL 154 4 [(.tmp 2)] s154 := Fun.of Tryz.func154 (by kernel_rfl) (by kernel_rfl) rfl rfl (by decide)
end Go.Proofs.YtcmkngajdckndaaGreatDoor
