/- Rules by which a run of that machine is computed; A machine that takes letters for numbers and lists: what it answers, the program answers (its operations, steps, calls, loops, lists of a world). Conditions: none. -/
import Derived.Test.YtcmkngajdckndaaGreatDoorZ03
import Derived.Below
set_option linter.unusedVariables false
set_option linter.unusedSimpArgs false
noncomputable section
namespace Go
namespace Lm
variable {P : Program}
structure SOp where
  dst : Option Nat
  op : Op
  g : Option (Nat × Bool)
inductive SC where
  | skip
  | reg (l : List SOp)
  | regD (l : List SOp) (bef : List Nat)
  | seq (a b : SC)
  | cond (x : Operand) (a b : SC)
  | block (id : Nat) (a : SC)
  | loop (a : SC)
  | range (g : Operand) (ps : List Nat) (asg body : Code)
  | exit (id : Nat)
  | ret
  | bad
def sop (ops : Array Oper) (o : Oper) : SOp :=
  ⟨o.dst, o.op, match o.guard with
    | none => none
    | some (j, b) => (match ops[j]? with
      | some g => (match g.dst with | some t => some (t, b) | none => some (1000000000, b))
      | none => some (1000000000, b))⟩
def z5o : Code → SC
  | .skip => .skip
  | .region _ ops draw => bif draw then .regD (ops.toList.map (sop ops)) (Region.before ops).toList else .reg (ops.toList.map (sop ops))
  | .seq a b => .seq (z5o a) (z5o b)
  | .cond x a b => .cond x (z5o a) (z5o b)
  | .block id a => .block id (z5o a)
  | .loop a => .loop (z5o a)
  | .rangeFunc g ps asg body => .range g ps.toList asg body
  | .exit id => .exit id
  | .scope a => z5o a
  | .label _ => .skip
  | .goto _ => .bad
  | .ret => .ret
  | .refuse _ => .bad
def opV (nv : Nat) (x : Operand) (vs : Vs) : Option Value := match dX nv x with | .mk f => f vs []
def rOp (P : Program) (nv : Nat) (ih : Rec) (op : Op) (vs : Vs) (h : Hp) (nx : Nat) : Out := runO (dOp P nv op) ih vs [] h nx
def sOne (P : Program) (nv : Nat) (ih : Rec) (o : SOp) (z : Z) (vs : Vs) (h : Hp) (nx : Nat) : RO :=
  match o.g with
  | none => rOut o.dst z vs h nx (rOp P nv ih o.op vs h nx)
  | some (t, b) => (match opV nv (.tmp t) vs with
    | some (.bool y) => bif y == b then rOut o.dst z vs h nx (rOp P nv ih o.op vs h nx) else .st z (put o.dst undef vs) h nx
    | some _ => .st z (put o.dst undef vs) h nx
    | none => .no)
def sOps (P : Program) (nv : Nat) (ih : Rec) : List SOp → Z → Vs → Hp → Nat → RO
  | [], z, vs, h, nx => .st z vs h nx
  | o :: l, z, vs, h, nx => (match sOne P nv ih o z vs h nx with | .st z vs h nx => sOps P nv ih l z vs h nx | .no => .no)
def sRec (P : Program) (nv : Nat) (ih : Rec) (o : SOp) (vs : Vs) (h : Hp) (nx : Nat) : Rec1 :=
  match o.g with
  | none => zj0 (altO (dOp P nv o.op) vs [] h) h (rOp P nv ih o.op vs h nx)
  | some (t, b) => (match opV nv (.tmp t) vs with
    | some (.bool y) => bif y == b then zj0 (altO (dOp P nv o.op) vs [] h) h (rOp P nv ih o.op vs h nx) else ⟨[], some [], z1i, h⟩
    | _ => ⟨[], some [], z1i, h⟩)
def z8b (bef : List Nat) (rs : List Rec1) : Bool :=
  rs.zipIdx.all fun (r, k) => (match r.M with
    | [] => true
    | M => rs.zipIdx.all fun (q, j) => Nat.beq j k || (bef.getD (max j k) 0).testBit (min j k) || (match q.T with | some T => disj T M | none => false) || (Nat.blt j k && q.A r.H))
def zdb (P : Program) (nv : Nat) (ih : Rec) (bef : List Nat) : List SOp → List Rec1 → Z → Vs → Hp → Nat → RO
  | [], rs, z, vs, h, nx => bif z8b bef rs.reverse then .st z vs h nx else .no
  | o :: l, rs, z, vs, h, nx => (match sOne P nv ih o z vs h nx with
    | .st z' vs' h' nx' => zdb P nv ih bef l (sRec P nv ih o vs h nx :: rs) z' vs' h' nx'
    | .no => .no)
def sC (P : Program) (nv n : Nat) (ih : Rec) : SC → Z → Vs → Hp → Nat → R
  | .skip, z, vs, h, nx => .nor z vs h nx
  | .reg l, z, vs, h, nx => roR (sOps P nv ih l z vs h nx)
  | .regD l bef, z, vs, h, nx => roR (zdb P nv ih bef l [] z vs h nx)
  | .seq a b, z, vs, h, nx => zbk (sC P nv n ih a z vs h nx) (sC P nv n ih b)
  | .cond x a b, z, vs, h, nx => (match opV nv x vs with
      | some (.bool t) => bif t then sC P nv n ih a z vs h nx else sC P nv n ih b z vs h nx
      | _ => .no)
  | .block id a, z, vs, h, nx => (match sC P nv n ih a z vs h nx with
    | .exi j z vs h nx => bif Nat.beq j id then .nor z vs h nx else .exi j z vs h nx
    | r => r)
  | .loop a, z, vs, h, nx => z14 (sC P nv n ih a) z vs h nx
  | .range g ps asg body, z, vs, h, nx => (match dX nv g with | .mk f => z4i nv n f ps asg body kNor ih z vs [] h nx)
  | .exit id, z, vs, h, nx => .exi id z vs h nx
  | .ret, z, vs, h, nx => .ret z vs h nx
  | .bad, _, _, _, _ => .no
theorem zgn {nv t : Nat} (h : nv ≤ t) (vs : Vs) : opV nv (.tmp t) vs = none := by
  unfold opV dX
  simp only [z0c]
  have : ¬ t < nv := by omega
  simp only [this, decide_false]
  rfl
theorem zic {nv : Nat} (hnv : nv ≤ 1000000000) (ops : Array Oper) (o : Oper) (vs : Vs) :
    zc4 nv ops.toList o.guard vs = match (sop ops o).g with
      | none => some true
      | some (t, b) => (match opV nv (.tmp t) vs with | some (.bool y) => some (y == b) | some _ => some false | none => none) := by
  unfold zc4 sop
  cases o.guard with
  | none => rfl
  | some jb =>
    obtain ⟨j, b⟩ := jb
    simp only
    unfold gdX
    rw [z5w, Array.getElem?_toList]
    cases hj : ops[j]? with
    | none => simp only [zgn hnv]
    | some g =>
      simp only
      cases hg : g.dst with
      | none => simp only [zgn hnv]
      | some t =>
        simp only
        unfold opV
        cases dX nv (.tmp t) with
        | mk x => rfl
theorem zq8 {nv : Nat} (hnv : nv ≤ 1000000000) {ih : Rec} (ops : Array Oper) (o : Oper) (z : Z) (vs : Vs) (h : Hp) (nx : Nat) : rOne P nv ih ops.toList o z vs h nx = sOne P nv ih (sop ops o) z vs h nx := by
  unfold rOne sOne
  rw [zic hnv]
  cases hg : (sop ops o).g with
  | none => rfl
  | some tb =>
    obtain ⟨t, b⟩ := tb
    simp only
    cases opV nv (.tmp t) vs with
    | none => rfl
    | some v =>
      cases v with
      | bool y =>
        simp only
        cases y == b <;> rfl
      | _ => rfl
theorem ztv {nv : Nat} (hnv : nv ≤ 1000000000) {ih : Rec} (ops : Array Oper) (o : Oper) (vs : Vs) (h : Hp) (nx : Nat) : rRec P nv ih ops.toList o vs h nx = sRec P nv ih (sop ops o) vs h nx := by
  unfold rRec sRec
  rw [zic hnv]
  cases hg : (sop ops o).g with
  | none => rfl
  | some tb =>
    obtain ⟨t, b⟩ := tb
    simp only
    cases opV nv (.tmp t) vs with
    | none => rfl
    | some v =>
      cases v with
      | bool y =>
        simp only
        cases y == b <;> rfl
      | _ => rfl
theorem zu1 {nv : Nat} (hnv : nv ≤ 1000000000) {ih : Rec} (ops : Array Oper) (l : List Oper) (z : Z) (vs : Vs) (h : Hp) (nx : Nat) : rOps P nv ih ops.toList l z vs h nx = sOps P nv ih (l.map (sop ops)) z vs h nx := by
  induction l generalizing z vs h nx with
  | nil => rfl
  | cons o l ihl =>
    rw [List.map_cons]
    conv => lhs; unfold rOps
    conv => rhs; unfold sOps
    rw [zq8 hnv]
    cases sOne P nv ih (sop ops o) z vs h nx with
    | no => rfl
    | st z vs h nx => exact ihl z vs h nx
theorem zp3 (ops : Array Oper) (rs : List Rec1) : z4k ops rs = z8b (Region.before ops).toList rs := by
  unfold z4k z8b z9f
  congr 1
  funext x
  obtain ⟨r, k⟩ := x
  simp only
  have e : ∀ i, (Region.before ops).toList.getD i 0 = (Region.before ops).getD i 0 := fun i => by simp [List.getD_eq_getElem?_getD, Array.getD_eq_getD_getElem?]
  cases r.M with
  | nil => rfl
  | cons a M => simp only [e]; rfl
theorem zrs {nv : Nat} (hnv : nv ≤ 1000000000) {ih : Rec} (ops : Array Oper) (l : List Oper) (rs : List Rec1) (z : Z) (vs : Vs) (h : Hp) (nx : Nat) : z9x P nv ih ops l rs z vs h nx = zdb P nv ih (Region.before ops).toList (l.map (sop ops)) rs z vs h nx := by
  induction l generalizing rs z vs h nx with
  | nil => unfold z9x; rw [List.map_nil]; unfold zdb; rw [zp3]
  | cons o l ihl =>
    rw [List.map_cons]
    conv => lhs; unfold z9x
    conv => rhs; unfold zdb
    rw [zq8 hnv, ztv hnv]
    cases sOne P nv ih (sop ops o) z vs h nx with
    | no => rfl
    | st z vs h nx => exact ihl _ z vs h nx
theorem z7q {b b' : Z → Vs → Hp → Nat → R} (h : ∀ z vs hp nx, b z vs hp nx = b' z vs hp nx) : b = b' := by
  funext z vs hp nx; exact h z vs hp nx
theorem znu {nv n : Nat} (hnv : nv ≤ 1000000000) {ih : Rec} (c : Code) (z : Z) (vs : Vs) (h : Hp) (nx : Nat) : rC P nv n ih c z vs h nx = sC P nv n ih (z5o c) z vs h nx := by
  induction c generalizing z vs h nx with
  | skip => rfl
  | region id ops draw =>
    rw [zeg]
    cases draw with
    | true =>
      have e : z5o (.region id ops true) = .regD (ops.toList.map (sop ops)) (Region.before ops).toList := rfl
      rw [e]
      show roR (z9x P nv ih ops ops.toList [] z vs h nx) = roR _
      rw [zrs hnv]
    | false =>
      have e : z5o (.region id ops false) = .reg (ops.toList.map (sop ops)) := rfl
      rw [e]
      show roR (rOps P nv ih ops.toList ops.toList z vs h nx) = roR _
      rw [zu1 hnv]
  | seq a b iha ihb =>
    rw [zq2]
    show _ = zbk (sC P nv n ih (z5o a) z vs h nx) (sC P nv n ih (z5o b))
    rw [iha, z7q ihb]
  | cond x a b iha ihb =>
    rw [zko]
    show _ = (match opV nv x vs with
      | some (.bool t) => bif t then sC P nv n ih (z5o a) z vs h nx else sC P nv n ih (z5o b) z vs h nx
      | _ => .no)
    unfold opV
    cases dX nv x with
    | mk f =>
      simp only [iha, ihb]
      cases f vs [] with
      | none => rfl
      | some v => cases v <;> rfl
  | block id a iha =>
    rw [zht]
    show _ = (match sC P nv n ih (z5o a) z vs h nx with
      | .exi j z vs h nx => bif Nat.beq j id then R.nor z vs h nx else R.exi j z vs h nx
      | r => r)
    rw [iha]
    cases sC P nv n ih (z5o a) z vs h nx <;> rfl
  | loop a iha =>
    rw [zkn]
    show _ = z14 (sC P nv n ih (z5o a)) z vs h nx
    rw [z7q iha]
  | rangeFunc g ps a b _ _ => rfl
  | exit id => rfl
  | scope a iha => exact iha z vs h nx
  | label l => rfl
  | goto l => rfl
  | ret => rfl
  | refuse s => rfl
end Lm
end Go
namespace Go
namespace Lm
variable {P : Program} {nv : Nat} {ih : Rec} {vs : Vs} {h : Hp} {nx : Nat}
theorem z6w {x : Operand} {f : OpV} (hx : dX nv x = .mk f) : f vs [] = opV nv x vs := by unfold opV; rw [hx]
theorem zrt (t : Nat) (ht : t < nv) : opV nv (.tmp t) vs = vs t := by
  unfold opV dX
  simp only [z0c, ht, decide_true]
  rfl
theorem zlc (k : IntKind) (i : Int) : opV nv (.const (.int k i)) vs = some (.int k i) := rfl
theorem zi0 (b : Bool) : opV nv (.const (.bool b)) vs = some (.bool b) := rfl
theorem zla (s : ByteArray) : opV nv (.const (.string s)) vs = some (.string s) := rfl
theorem zlb (n c : Nat) : opV nv (.const (.slice none n c)) vs = some (.slice none n c) := rfl
theorem zhy : opV nv (.const (.map none)) vs = some (.map none) := rfl
theorem zld : opV nv (.const .nilFunc) vs = some .nilFunc := rfl
theorem zhz (f : FuncId) : opV nv (.func f) vs = some (.func (.func f) #[] #[]) := rfl
theorem zj4 (g : Nat) (hg : g < NG) : opV nv (.global g) vs = some (.pointer (some ⟨g, 0, none⟩)) := by
  unfold opV dX
  simp only [z0c, hg, decide_true]
  rfl
def outP (v : Option Value) : Out := match v with | some v => .pur v | none => .bad
def rdO (r : Nat) (v : Option Value) : Out := match v with | some v => .rd v r | none => .bad
theorem zeh (v : Value) : outP (some v) = .pur v := rfl
theorem zhs (r : Nat) (v : Value) : rdO r (some v) = .rd v r := rfl
theorem z5r (n : Nat) : room n = true := by unfold room; rw [z1b]; simp
theorem zq3 (t : Nat) (v : Value) (j : Nat) : put (some t) v vs j = if j = t then some v else vs j := rfl
theorem zdf (t : Nat) (v : Value) (j : Nat) : put (some t) v vs j = bif decide (j = t) then some v else vs j := by
  rw [zq3]
  by_cases q : j = t <;> simp [q]
theorem zhu (t : Nat) (v : Value) : put (some t) v vs t = some v := by rw [zq3]; simp
theorem z02 (v : Value) : put none v vs = vs := rfl
theorem z1c (r : Nat) (x : Row) : hget (hset h r x) r = some x := by rw [hget_hset (Nat.le_refl _) (Nat.le_refl _)]; simp
theorem z0l {r s : Nat} (x : Row) (hn : s ≠ r) : hget (hset h r x) s = hget h s := by rw [hget_hset (Nat.le_refl _) (Nat.le_refl _)]; simp [hn]
theorem zf8 (cs : List Value) : z64 h nx cs = .new (.pointer (some ⟨nx, 0, none⟩)) (hset h nx (.cells cs none)) (nx + 1) := by unfold z64; rw [z5r]
theorem zab (cs : List Value) (n c : Nat) : z2y h nx cs n c = .new (.slice (some ⟨nx, 0, none⟩) n c) (hset h nx (.cells cs none)) (nx + 1) := by unfold z2y; rw [z5r]
theorem z75 (k : OpV → OpV) (x : Operand) (g : Option Value → Option Value) (hk : ∀ f : OpV, k f vs [] = g (f vs [])) : runO (pv1 nv k x) ih vs [] h nx = outP (g (opV nv x vs)) := by
  unfold pv1 opV
  cases dX nv x with
  | mk f => show outP (k f vs []) = _; rw [hk]
theorem zgj (k : OpV → OpV → OpV) (x y : Operand) (g : Option Value → Option Value → Option Value) (hk : ∀ f e : OpV, k f e vs [] = g (f vs []) (e vs [])) : runO (pv2 nv k x y) ih vs [] h nx = outP (g (opV nv x vs) (opV nv y vs)) := by
  unfold pv2 opV
  cases dX nv x with
  | mk f => cases dX nv y with
    | mk e => show outP (k f e vs []) = _; rw [hk]
theorem zrq (k : OpV → OpV → OpV → OpV) (x y z : Operand) (g : Option Value → Option Value → Option Value → Option Value) (hk : ∀ f e d : OpV, k f e d vs [] = g (f vs []) (e vs []) (d vs [])) : runO (pv3 nv k x y z) ih vs [] h nx = outP (g (opV nv x vs) (opV nv y vs) (opV nv z vs)) := by
  unfold pv3 opV
  cases dX nv x with
  | mk f => cases dX nv y with
    | mk e => cases dX nv z with
      | mk d => show outP (k f e d vs []) = _; rw [hk]
theorem zqa (x : Operand) : rOp P nv ih (.move x) vs h nx = outP (opV nv x vs) := z75 zdh x id fun _ => rfl
theorem zi1 (x : Operand) : rOp P nv ih (.assign x) vs h nx = outP (opV nv x vs) := z75 zdh x id fun _ => rfl
def zo5 (b x y : Option Value) : Option Value := match b with | some (.bool t) => bif t then x else y | _ => none
theorem zq9 (b x y : Operand) : rOp P nv ih (.pick b x y) vs h nx = outP (zo5 (opV nv b vs) (opV nv x vs) (opV nv y vs)) := zrq zdg b x y zo5 fun f e d => by
  unfold zdg zo5
  cases f vs [] with
  | none => rfl
  | some v => cases v with
    | bool t => cases t <;> rfl
    | _ => rfl
theorem zhx (t : Bool) (x y : Option Value) : zo5 (some (.bool t)) x y = bif t then x else y := rfl
def tyS (P : Program) (t : TypeId) : Option (Bool × Nat) := match ty P t with | some i => some (i.agg, i.size) | none => none
def tyZ (P : Program) (t : TypeId) : Option (List Value) := match ty P t with
  | some i => (match i.zero with | some z => (match cellsL z with | some cs => bif ground z then some cs else none | none => none) | none => none)
  | none => none
def offF (P : Program) (t : TypeId) (f : Nat) : Option Nat := match ty P t with
  | some i => (match i.desc with | .struct fs => (match z1z P fs f with | some (off, size) => bif Nat.blt 0 size then some off else none | none => none) | _ => none)
  | none => none
def zif (P : Program) (t : TypeId) (f : Nat) : Option ((Bool × Nat) × Nat) := match ty P t with
  | some i => (match i.desc with | .struct fs => (match fs[f]? with | some f => (match ty P f.type with | some j => some ((j.agg, j.size), f.offset) | none => none) | none => none) | _ => none)
  | none => none
def z5h (P : Program) (t : TypeId) : Option (Option Nat × Bool × Nat) := match ty P t with
  | some i => (match i.desc with
    | .array n e => (match ty P e with | some j => some (some n, j.agg, j.size) | none => none)
    | .slice e => (match ty P e with | some j => some (none, j.agg, j.size) | none => none)
    | _ => none)
  | none => none
theorem zlh (t : TypeId) : rOp P nv ih (.alloc t) vs h nx = match tyZ P t with | some cs => .new (.pointer (some ⟨nx, 0, none⟩)) (hset h nx (.cells cs none)) (nx + 1) | none => .bad := by
  unfold rOp
  show runO (z53 P t) ih vs [] h nx = _
  unfold z53 tyZ
  cases ty P t with
  | none => rfl
  | some i =>
    simp only
    cases i.zero with
    | none => rfl
    | some z =>
      simp only
      cases cellsL z with
      | none => rfl
      | some cs =>
        simp only
        cases ground z with
        | false => rfl
        | true => exact zf8 cs
def boxO (h : Hp) (nx : Nat) (v : Option Value) : Out := match v with | some v => (match cellsL v with | some cs => .new (.pointer (some ⟨nx, 0, none⟩)) (hset h nx (.cells cs none)) (nx + 1) | none => .bad) | none => .bad
theorem zu6 (t : TypeId) (x : Operand) : rOp P nv ih (.box t x) vs h nx = boxO h nx (opV nv x vs) := by
  unfold rOp
  show runO (ge1 nv oBox x) ih vs [] h nx = _
  unfold ge1 opV
  cases dX nv x with
  | mk f =>
    show oBox f ih vs [] h nx = boxO h nx (f vs [])
    unfold oBox boxO
    cases f vs [] with
    | none => rfl
    | some v =>
      simp only
      cases cellsL v with
      | none => rfl
      | some cs => exact zf8 cs
def loadO (h : Hp) (s : Option (Bool × Nat)) (v : Option Value) : Out := match s, v with
  | some (agg, size), some (.pointer (some ⟨r, o, none⟩)) => rdO r (loadAt agg size h r o)
  | _, _ => .bad
theorem zqb (t : TypeId) (x : Operand) : rOp P nv ih (.load t x) vs h nx = loadO h (tyS P t) (opV nv x vs) := by
  unfold rOp
  show runO (z8u P nv t x) ih vs [] h nx = _
  unfold z8u tyS opV
  cases ty P t with
  | none => rfl
  | some i =>
    cases dX nv x with
    | mk f =>
      show (match zgp i.agg i.size f vs [] h with | .v v r => Out.rd v r | .no => .bad) = loadO h (some (i.agg, i.size)) (f vs [])
      unfold zgp zj2 loadO
      cases f vs [] with
      | none => rfl
      | some v =>
        cases v with
        | pointer p =>
          cases p with
          | none => rfl
          | some a =>
            obtain ⟨r, o, sp⟩ := a
            cases sp with
            | some _ => rfl
            | none =>
              simp only
              cases loadAt i.agg i.size h r o <;> rfl
        | _ => rfl
def storeO (h : Hp) (s : Option (Bool × Nat)) (x v : Option Value) : Out := match s, x, v with
  | some (_, size), some (.pointer (some ⟨r, o, none⟩)), some v => storeAt size h r o v
  | _, _, _ => .bad
theorem zle (t : TypeId) (x y : Operand) : rOp P nv ih (.store t x y) vs h nx = storeO h (tyS P t) (opV nv x vs) (opV nv y vs) := by
  unfold rOp
  show runO (z4z P nv t x y) ih vs [] h nx = _
  unfold z4z tyS opV ge2
  cases ty P t with
  | none => rfl
  | some i =>
    cases dX nv x with
    | mk f => cases dX nv y with
      | mk e =>
        show zaa i.size f e ih vs [] h nx = storeO h (some (i.agg, i.size)) (f vs []) (e vs [])
        unfold zaa storeO
        cases f vs [] with
        | none => rfl
        | some v =>
          cases v with
          | pointer p =>
            cases p with
            | none => rfl
            | some a =>
              obtain ⟨r, o, sp⟩ := a
              cases sp with
              | some _ => rfl
              | none => cases e vs [] <;> rfl
          | _ => rfl
theorem zu7 (op : BinOp) (t : TypeId) (x y : Operand) (yt : TypeId) : rOp P nv ih (.binOp op t x y yt) vs h nx = outP (match opV nv x vs, opV nv y vs with | some u, some v => binV P op t x y u v | _, _ => none) :=
  zgj (oBin P op t x y) x y (fun a b => match a, b with | some u, some v => binV P op t x y u v | _, _ => none) fun f e => rfl
theorem o_un (op : UnOp) (t : TypeId) (x : Operand) : rOp P nv ih (.unOp op t x) vs h nx = outP (match opV nv x vs with | some v => unV P op v | none => none) :=
  z75 (oUn P op) x (fun a => match a with | some v => unV P op v | none => none) fun f => by unfold oUn; cases f vs [] <;> rfl
theorem zf6 (x : Operand) (i : Nat) : rOp P nv ih (.extract x i) vs h nx = outP (match opV nv x vs with | some (.tuple us) => us.toList[i]? | _ => none) :=
  z75 (fun x => z3s x i) x (fun a => match a with | some (.tuple us) => us.toList[i]? | _ => none) fun f => by
    unfold z3s
    cases f vs [] with
    | none => rfl
    | some v => cases v <;> first | exact z95 _ _ | rfl
theorem za9 (t : TypeId) (x : Operand) (f : Nat) : rOp P nv ih (.fieldAddr t x f) vs h nx = match offF P t f with
    | some off => outP (match opV nv x vs with | some (.pointer (some ⟨r, o, none⟩)) => some (.pointer (some ⟨r, o + off, none⟩)) | _ => none)
    | none => .bad := by
  unfold rOp
  show runO (z1f P nv t x f) ih vs [] h nx = _
  unfold z1f offF
  cases ty P t with
  | none => rfl
  | some i =>
    simp only
    cases i.desc with
    | struct fs =>
      simp only
      cases z1z P fs f with
      | none => rfl
      | some p =>
        obtain ⟨off, size⟩ := p
        simp only
        cases Nat.blt 0 size with
        | false => rfl
        | true =>
          simp only [cond_true]
          refine z75 (z3a off) x (fun a => match a with | some (.pointer (some ⟨r, o, none⟩)) => some (.pointer (some ⟨r, o + off, none⟩)) | _ => none) fun g => ?_
          unfold z3a
          simp only [z0h]
          rfl
    | _ => rfl
theorem zlf (t : TypeId) (x : Operand) (f : Nat) : rOp P nv ih (.field t x f) vs h nx = match zif P t f with
    | some ((agg, size), off) => outP (match opV nv x vs with | some (.agg cs) => z09 agg size cs.toList off | _ => none)
    | none => .bad := by
  unfold rOp
  show runO (z51 P nv t x f) ih vs [] h nx = _
  unfold z51 zif
  cases ty P t with
  | none => rfl
  | some i =>
    simp only
    cases i.desc with
    | struct fs =>
      simp only
      cases fs[f]? with
      | none => rfl
      | some p =>
        simp only
        cases ty P p.type with
        | none => rfl
        | some j => exact z75 (zcs j.agg j.size p.offset) x (fun a => match a with | some (.agg cs) => z09 j.agg j.size cs.toList p.offset | _ => none) fun g => rfl
    | _ => rfl
def addrO (n : Nat) (r o size : Nat) (ix : Value) : Option Value := match z6u n ix with | some i => some (.pointer (some ⟨r, o + i * size, none⟩)) | none => none
theorem zb3 (r o n size : Nat) (ix : Value) : z2g r o n size ix = addrO n r o size ix := by
  unfold z2g addrO
  cases z6u n ix with
  | none => rfl
  | some i => simp only [z0h]; rfl
theorem za8 (t : TypeId) (x y : Operand) : rOp P nv ih (.indexAddr t x y) vs h nx = match z5h P t with
    | some (none, _, size) => outP (match opV nv x vs, opV nv y vs with | some (.slice (some ⟨r, o, none⟩) n _), some ix => addrO n r o size ix | _, _ => none)
    | some (some n, _, size) => outP (match opV nv x vs, opV nv y vs with | some (.pointer (some ⟨r, o, none⟩)), some ix => addrO n r o size ix | _, _ => none)
    | none => .bad := by
  unfold rOp
  show runO (z1e P nv t x y) ih vs [] h nx = _
  unfold z1e z5h
  cases ty P t with
  | none => rfl
  | some i =>
    simp only
    cases i.desc with
    | array n e =>
      simp only
      cases ty P e with
      | none => rfl
      | some j =>
        refine zgj (z45 n j.size) x y (fun a b => match a, b with | some (.pointer (some ⟨r, o, none⟩)), some ix => addrO n r o j.size ix | _, _ => none) fun f g => ?_
        unfold z45
        simp only [zb3]
        rfl
    | slice e =>
      simp only
      cases ty P e with
      | none => rfl
      | some j =>
        refine zgj (z5b j.size) x y (fun a b => match a, b with | some (.slice (some ⟨r, o, none⟩) n _), some ix => addrO n r o j.size ix | _, _ => none) fun f g => ?_
        unfold z5b
        simp only [zb3]
        rfl
    | _ => rfl
def opVs (nv : Nat) (vs : Vs) : List Operand → Option (List Value)
  | [] => some []
  | x :: l => (match opV nv x vs with | some v => (match opVs nv vs l with | some us => some (v :: us) | none => none) | none => none)
theorem z8j {l : List Operand} {m : List OpV} (hl : dXs nv l = .mk m) : evs m vs [] = opVs nv vs l := by
  induction l generalizing m with
  | nil => cases hl; rfl
  | cons x l ihl =>
    obtain ⟨f, hf⟩ := z03 nv x
    obtain ⟨k, hk⟩ := z1a nv l
    have e : dXs nv (x :: l) = match dX nv x, dXs nv l with | .mk f, .mk l => .mk (f :: l) := rfl
    rw [e, hf, hk] at hl
    cases hl
    have e2 : evs (f :: k) vs [] = match f vs [] with | some v => (match evs k vs [] with | some us => some (v :: us) | none => none) | none => none := rfl
    rw [e2, ihl hk, z6w hf]
    rfl
theorem zqc (f : FuncId) (args : Array Operand) (ts : Array TypeId) : rOp P nv ih (.call { callee := .value (.func f), args := args, argTypes := ts }) vs h nx =
    match opVs nv vs args.toList with | some us => (bif hasBody P f then z06 f us ih h nx else .bad) | none => .bad := by
  unfold rOp
  show runO (z4d P nv { callee := .value (.func f), args := args, argTypes := ts }) ih vs [] h nx = _
  unfold z4d
  obtain ⟨m, hm⟩ := z1a nv args.toList
  simp only [hm]
  cases hb : hasBody P f with
  | false =>
    simp only [cond_false]
    cases opVs nv vs args.toList <;> rfl
  | true =>
    simp only [cond_true]
    show z7y f m ih vs [] h nx = _
    unfold z7y
    rw [z8j hm]
    cases opVs nv vs args.toList <;> rfl
theorem zrv (x : Operand) (hx : ∀ f, x ≠ .func f) (args : Array Operand) (ts : Array TypeId) : rOp P nv ih (.call { callee := .value x, args := args, argTypes := ts }) vs h nx =
    match opV nv x vs, opVs nv vs args.toList with
    | some (.func (.func f) xs ys), some us => z06 f (xs.toList ++ us ++ ys.toList) ih h nx
    | some (.func (.yield l) xs ys), some us => bif xs.isEmpty && ys.isEmpty then z3y l us ih h nx else .bad
    | _, _ => .bad := by
  unfold rOp
  show runO (z4d P nv { callee := .value x, args := args, argTypes := ts }) ih vs [] h nx = _
  unfold z4d
  obtain ⟨m, hm⟩ := z1a nv args.toList
  obtain ⟨g, hg⟩ := z03 nv x
  simp only [hm]
  cases x with
  | func f => exact absurd rfl (hx f)
  | _ =>
    simp only [hg]
    show z7x g m ih vs [] h nx = _
    unfold z7x
    rw [z8j hm, z6w hg]
    rfl
def lenK (P : Program) (t : TypeId) : Option Nat := match ty P t with
  | some i => (match i.desc with | .slice _ => some 0 | .string => some 1 | .map _ _ => some 2 | .array n _ => some (n + 3) | _ => none)
  | none => none
def lenO (h : Hp) (k : Option Nat) (v : Option Value) : Out := match k with
  | some 0 => outP (match v with | some (.slice _ n _) => some (.int .i64 (n : Int)) | _ => none)
  | some 1 => outP (match v with | some (.string s) => some (.int .i64 (s.size : Int)) | _ => none)
  | some 2 => (match (match v with
    | some (.map (some r)) => (match hget h r with | some (.map es _) => LV.v (.int .i64 (.ofNat es.length)) r | _ => .no)
    | _ => .no) with | .v v r => .rd v r | .no => .bad)
  | some (n + 3) => outP (match v with | some _ => some (.int .i64 (n : Int)) | none => none)
  | none => .bad
theorem zu5 (x : Operand) (t : TypeId) : rOp P nv ih (.call { callee := .builtin .len, args := #[x], argTypes := #[t] }) vs h nx = lenO h (lenK P t) (opV nv x vs) := by
  unfold rOp
  show runO (z4d P nv { callee := .builtin .len, args := #[x], argTypes := #[t] }) ih vs [] h nx = _
  obtain ⟨f, hf⟩ := z03 nv x
  have hm : dXs nv [x] = .mk [f] := by
    have e : dXs nv [x] = match dX nv x, dXs nv [] with | .mk f, .mk l => .mk (f :: l) := rfl
    rw [e, hf]; rfl
  unfold z4d
  simp only [hm]
  rw [← z6w hf]
  unfold z30 lenK lenO
  simp only
  cases hi : ty P t with
  | none => rfl
  | some i =>
    simp only
    cases hd : i.desc with
    | slice e => show outP (z94 f vs []) = _; rfl
    | string => show outP (z5y f vs []) = _; rfl
    | map k e => show (match z5z f vs [] h with | .v v r => Out.rd v r | .no => .bad) = _; rfl
    | array n e => show outP (z60 n f vs []) = _; rfl
    | _ => rfl
theorem zu3 (x : Operand) : rOp P nv ih (.nilCheck x) vs h nx = outP (match opV nv x vs with | some (.pointer (some p)) => some (.pointer (some p)) | _ => none) := z75 oNil x (fun a => match a with | some (.pointer (some p)) => some (.pointer (some p)) | _ => none) fun f => rfl
theorem zcr (f : FuncId) (xs ys : Array Operand) : rOp P nv ih (.makeFunc (.func f) xs ys) vs h nx = outP (match opVs nv vs xs.toList, opVs nv vs ys.toList with | some us, some ws => some (.func (.func f) us.toArray ws.toArray) | _, _ => none) := by
  unfold rOp
  show runO (z1r nv (.func f) xs ys) ih vs [] h nx = _
  unfold z1r
  obtain ⟨m, hm⟩ := z1a nv xs.toList
  obtain ⟨k, hk⟩ := z1a nv ys.toList
  simp only [hm, hk]
  show outP (z44 f m k vs []) = _
  unfold z44
  rw [z8j hm, z8j hk]
  rfl
theorem z3w (op : BinOp) (t : TypeId) (x y : Operand) (a b : Int) (ho : z6d op = true) : binV P op t x y (.int .i64 a) (.int .i64 b) = z2p op .i64 a b := by
  unfold binV
  simp only [ho]
  rfl
theorem zml (k : IntKind) (a b : Int) : z2p .add k a b = some (.int k (k.wrap (a + b))) := by unfold z2p; simp only [z96, z6o]; rfl
theorem zmd (k : IntKind) (a b : Int) : z2p .sub k a b = some (.int k (k.wrap (a - b))) := by unfold z2p; simp only [z96, z6o]; rfl
theorem zmf (k : IntKind) (a b : Int) : z2p .mul k a b = some (.int k (k.wrap (a * b))) := by unfold z2p; simp only [z96, z6o]; rfl
theorem zmk (k : IntKind) (a b : Int) : z2p .eql k a b = some (.bool (a == b)) := by unfold z2p; simp only [z2l, zb1]
theorem zme (k : IntKind) (a b : Int) : z2p .neq k a b = some (.bool (!(a == b))) := by unfold z2p; simp only [z2l, zb1]
theorem zmg (k : IntKind) (a b : Int) : z2p .lss k a b = some (.bool (decide (a < b))) := by unfold z2p; simp only [z2l, zae]
theorem zmh (k : IntKind) (a b : Int) : z2p .leq k a b = some (.bool (decide (a ≤ b))) := by
  unfold z2p; simp only [z2l, zae]
  congr 2
  by_cases q : a ≤ b
  · have : ¬ b < a := by omega
    simp [q, this]
  · have : b < a := by omega
    simp [q, this]
theorem zmi (k : IntKind) (a b : Int) : z2p .gtr k a b = some (.bool (decide (b < a))) := by unfold z2p; simp only [z2l, zae]
theorem zmj (k : IntKind) (a b : Int) : z2p .geq k a b = some (.bool (decide (b ≤ a))) := by
  unfold z2p; simp only [z2l, zae]
  congr 2
  by_cases q : b ≤ a
  · have : ¬ a < b := by omega
    simp [q, this]
  · have : a < b := by omega
    simp [q, this]
theorem z21 (n : Int) (h1 : -9223372036854775808 ≤ n) (h2 : n ≤ 9223372036854775807) : IntKind.wrap .i64 n = n := by
  show (if (true && decide ((n % 18446744073709551616 : Int) ≥ 9223372036854775808)) = true then (n % 18446744073709551616 : Int) - 18446744073709551616 else (n % 18446744073709551616 : Int)) = n
  by_cases hc : (n % 18446744073709551616 : Int) ≥ 9223372036854775808
  · rw [if_pos (by simpa using hc)]; omega
  · rw [if_neg (by simpa using hc)]; omega
theorem zjq (b : Bool) : unV P .not (.bool b) = some (.bool (!b)) := by unfold unV; simp only [z2l]
theorem z8m (n : Nat) (k : IntKind) (i : Nat) (hi : i < n) : z6u n (.int k (i : Int)) = some i := by
  show (Bool.rec none (some i) (Nat.blt i n) : Option Nat) = _
  rw [z0c]; simp [hi]
theorem zmn (n : Nat) (k : IntKind) (z : Int) (h0 : 0 ≤ z) (h1 : z < n) : z6u n (.int k z) = some z.toNat := by
  obtain ⟨i, rfl⟩ := Int.eq_ofNat_of_zero_le h0
  rw [z8m n k i (by omega)]
  rfl
theorem z3k (size : Nat) (cs : List Value) (o : Nat) : z09 false size cs o = cs[o]? := z95 cs o
theorem z4t (size : Nat) (cs : List Value) (o : Nat) (hs : o + size ≤ cs.length) : z09 true size cs o = some (.agg ((cs.drop o).take size).toArray) := by
  show (match z2s size (z5p o cs) with | some l => some (.agg l.toArray) | none => none : Option Value) = _
  rw [z3g]
  have : z2s size (cs.drop o) = some ((cs.drop o).take size) := by
    have key : ∀ (n : Nat) (l : List Value), n ≤ l.length → z2s n l = some (l.take n) := by
      intro n
      induction n with
      | zero => intro l _; rw [z4q]; simp
      | succ n ihn =>
        intro l hl
        cases l with
        | nil => simp at hl
        | cons y l => rw [z34, ihn l (by simpa using hl)]; rfl
    exact key size _ (by simp; omega)
  rw [this]
end Lm
end Go
namespace Go
namespace Lm
variable [Lo]
open Go.RowKit
variable {P : Program}
abbrev Kn := FuncId → List Value → Hp → Nat → Option Value
def Kn.Ok (P : Program) (S : Kn) : Prop := ∀ f args h nx v, S f args h nx = some v → hasBody P f = true ∧ ∀ (R : Ren) (w : World) (F : Fence) (args' : Array Value), HR R h w → Dom R nx → (∀ g, g < NG → R.blk g = some g) → Wd F → VL R args args'.toList →
  CallsIn F 0 P f args' w (fun e w' => ∃ v', e = .returned v' ∧ VR R v v' ∧ Below w.heap.size w w')
def orcL (S : Kn) (ih : Rec) : Rec := fun t h nx =>
  match t with
  | .call f args => (match S f args h nx with | some v => .val v h nx [] | none => ih (.call f args) h nx)
  | t => ih t h nx
variable (P) in
def zjl (nvs : List (Nat × Nat)) (S : Kn) (n : Nat) : Rec := Nat.rec (fun _ _ _ => .no) (fun _ ih t => zfl P nvs t (orcL S ih)) n
variable (P) in
def z07 (nvs : List (Nat × Nat)) (S : Kn) (n : Nat) : Rec := orcL S (zjl P nvs S n)
theorem zl8 {ih : Rec} (hr : RecOk P ih) {S : Kn} (hS : S.Ok P) : RecOk P (orcL S ih) := by
  have key : ∀ {f : FuncId} {args : List Value} {h : Hp} {nx : Nat} {v : Value} {h' : Hp} {nx' : Nat} {M : List Nat}, orcL S ih (.call f args) h nx = .val v h' nx' M →
      ih (.call f args) h nx = .val v h' nx' M ∨ (S f args h nx = some v ∧ h' = h ∧ nx' = nx ∧ M = []) := by
    intro f args h nx v h' nx' M e
    have e2 : orcL S ih (.call f args) h nx = (match S f args h nx with | some v => .val v h nx [] | none => ih (.call f args) h nx) := rfl
    rw [e2] at e
    cases h1 : S f args h nx with
    | none => rw [h1] at e; exact .inl e
    | some u =>
      rw [h1] at e
      cases e
      exact .inr ⟨rfl, rfl, rfl, rfl⟩
  refine ⟨fun e => ?_, fun e => ?_, fun hB hF st g => hr.code hB hF st g⟩
  · rcases key e with q | ⟨q, _⟩
    · exact hr.body q
    · exact (hS _ _ _ _ _ q).1
  · intro R w F args' hh hd hgl hF hv
    rcases key e with q | ⟨q, rfl, rfl, rfl⟩
    · exact hr.call q hh hd hgl hF hv
    · have hc := (hS _ _ _ _ _ q).2 R w F args' hh hd hgl hF hv
      refine hc.mono fun e w' q => ?_
      obtain ⟨v', h1, h2, h3⟩ := q
      refine ⟨v', R, h1, h2, ⟨.refl R, Nat.le_refl _, Nat.le_refl _, h3.size, h3.os, h3.tape, h3.output, fun r b hb => .inl hb, fun k hk _ => h3.block k hk, fun _ _ _ => rfl, fun r b x hr hb _ _ => ?_, fun r s b h1 _ h3 _ _ _ => ?_, fun m hm => (by cases hm), fun m hm => (by cases hm)⟩⟩
      · rcases hr with hr | hr
        · have := hd.2 r b hb; omega
        · cases hr
      · have := hd.2 r b h3; omega
theorem zom (hdr : z6l P) {nvs : List (Nat × Nat)} {S : Kn} (hS : S.Ok P) (m : Nat) : RecOk P (z07 P nvs S m) := by
  have base : RecOk P (zjl P nvs S m) := by
    induction m with
    | zero =>
      refine ⟨fun h => ?_, fun h => ?_, fun hB hF st g => ?_⟩
      · cases h
      · cases h
      · exact g.elim
    | succ m ih =>
      have ih' := zl8 ih hS
      refine ⟨fun h => ?_, fun h => ?_, fun {c nv n z vs h nx B F R a w Q} hB hF st g => ?_⟩
      · exact (z6e hdr ih' h).1
      · exact (z6e hdr ih' h).2
      · have e : zjl P nvs S (m + 1) (.code c nv n z vs) h nx = zax P c nv n z vs (orcL S (zjl P nvs S m)) h nx := rfl
        rw [e] at g
        unfold zax at g
        split at g
        · rename_i f hf
          exact z7c hdr hB hF ih' c hf (z68 _ Q) _ _ _ _ _ _ _ _ st g
        · exact g.elim
  exact zl8 base hS
omit [Lo] in
theorem z4x {nvs : List (Nat × Nat)} {S : Kn} {m : Nat} {f : FuncId} {args : List Value} {h : Hp} {nx : Nat} (hn : S f args h nx = none) : z07 P nvs S (m + 1) (.call f args) h nx = z6f P nvs f args (z07 P nvs S m) h nx := by
  show (match S f args h nx with | some v => R.val v h nx [] | none => zjl P nvs S (m + 1) (.call f args) h nx) = _
  rw [hn]
  rfl
omit [Lo] in
theorem zh3 {nvs : List (Nat × Nat)} {S : Kn} {m : Nat} {f : FuncId} {args : List Value} {h : Hp} {nx : Nat} {v : Value} (hn : S f args h nx = some v) : z07 P nvs S m (.call f args) h nx = .val v h nx [] := by
  show (match S f args h nx with | some v => R.val v h nx [] | none => zjl P nvs S m (.call f args) h nx) = _
  rw [hn]
end Lm
end Go
namespace Go
namespace Lm
variable {P : Program} {nvs : List (Nat × Nat)}
theorem zig (i : Nat) : enum [] i = Lv.nil Value VD := rfl
theorem zfo (x : Value) (l : List Value) (i : Nat) : enum (x :: l) i = put (some i) x (enum l (i + 1)) := rfl
def resO (P : Program) (nv : Nat) (r : ResultVar) (vs : Vs) (h : Hp) : Option Value :=
  match r with
  | .tmp t => opV nv (.tmp t) vs
  | .cell a t => (match tyS P t, opV nv (.tmp a) vs with
    | some (agg, size), some (.pointer (some ⟨r, o, none⟩)) => loadAt agg size h r o
    | _, _ => none)
def resVs (P : Program) (nv : Nat) (vs : Vs) (h : Hp) : List ResultVar → Option (List Value)
  | [] => some []
  | r :: l => (match resO P nv r vs h with | some v => (match resVs P nv vs h l with | some us => some (v :: us) | none => none) | none => none)
theorem zro (nv : Nat) (r : ResultVar) (vs : Vs) (h : Hp) : zdd (dRes P nv r) vs h = resO P nv r vs h := by
  cases r with
  | tmp t =>
    unfold dRes resO opV
    cases dX nv (.tmp t) with
    | mk f => rfl
  | cell a t =>
    unfold dRes resO opV tyS
    simp only
    cases ty P t with
    | none =>
      cases dX nv (.tmp a) with
      | mk f => cases f vs [] <;> rfl
    | some i =>
      cases dX nv (.tmp a) with
      | mk f =>
        show (match f vs [] with | some (.pointer (some ⟨r, o, none⟩)) => loadAt i.agg i.size h r o | _ => none) = (match some (i.agg, i.size), f vs [] with
          | some (agg, size), some (.pointer (some ⟨r, o, none⟩)) => loadAt agg size h r o
          | _, _ => none)
        cases f vs [] with
        | none => rfl
        | some v => cases v with
          | pointer p => cases p with
            | none => rfl
            | some a => obtain ⟨r, o, sp⟩ := a; cases sp <;> rfl
          | _ => rfl
theorem zhr (nv : Nat) (rs : List ResultVar) (vs : Vs) (h : Hp) : resL (rs.map (dRes P nv)) vs h = resVs P nv vs h rs := by
  induction rs with
  | nil => rfl
  | cons r l ih =>
    have e : resL ((r :: l).map (dRes P nv)) vs h = match zdd (dRes P nv r) vs h with | some v => (match resL (l.map (dRes P nv)) vs h with | some us => some (v :: us) | none => none) | none => none := rfl
    rw [e, zro, ih]
    rfl
def z9i (P : Program) (nv : Nat) (rs : List ResultVar) (r : R) : R :=
  match r with
  | .nor z vs h nx => (match shut z.D h with | some h' => (match resVs P nv vs h' rs with | some us => .val (tup us) h' nx z.log | none => .no) | none => .no)
  | .ret z vs h nx => (match shut z.D h with | some h' => (match resVs P nv vs h' rs with | some us => .val (tup us) h' nx z.log | none => .no) | none => .no)
  | _ => .no
theorem zt0 (nv : Nat) (rs : List ResultVar) (r : R) : finR P nv rs r = z9i P nv rs r := by
  unfold finR fin z9i z9h
  cases r with
  | nor z vs h nx =>
    simp only
    cases shut z.D h with
    | none => rfl
    | some h' => simp only [zhr]; cases resVs P nv vs h' rs <;> rfl
  | ret z vs h nx =>
    simp only
    cases shut z.D h with
    | none => rfl
    | some h' => simp only [zhr]; cases resVs P nv vs h' rs <;> rfl
  | _ => rfl
theorem zho (h : Hp) : shut [] h = some h := rfl
theorem zkg (v : Value) : tup [v] = v := rfl
theorem zkf (u v : Value) : tup [u, v] = .tuple #[u, v] := rfl
theorem zeb (u v x : Value) : tup [u, v, x] = .tuple #[u, v, x] := rfl
theorem zmt {f : FuncId} {fn : Func} {body : Code} (hf : P.funcs[f]? = some fn) (hb : fn.body = some body) (hm : fnMk P nvs f fn = true) (ih : Rec) (args : List Value) (h : Hp) (nx : Nat) (ha : args.length ≤ fn.ntmps) :
    z6f P nvs f args ih h nx = finR P fn.ntmps fn.results.toList (rC P fn.ntmps fn.ntmps ih body ⟨nx, none, [], []⟩ (enum args 0) h nx) := by
  unfold z6f
  unfold fnMk at hm
  cases hd : dFn P nvs f with
  | bad => rw [hd] at hm; cases hm
  | mk g rs n nv =>
    rw [hd] at hm
    simp only [Bool.and_eq_true] at hm
    obtain ⟨fn', body', h1, h2, h3, h4, h5, h6, _⟩ := ziq hd
    rw [hf] at h1; cases h1
    rw [hb] at h2; cases h2
    have hnv : n = nv := Nat.eq_of_beq_eq_true hm.1
    subst hnv h5
    simp only
    rw [Nat.ble_eq_true_of_le ha]
    simp only [Bool.and_self, cond_true]
    rw [zoq rfl h3, h4]
    unfold finR
    rw [show (fun z vs h nx => kNor ih z vs [] h nx) = R.nor from rfl, zg6]
def Kn.Only (S : Kn) (W : List FuncId) : Prop := ∀ f a h nx, f ∉ W → S f a h nx = none
structure Fun (P : Program) (nvs : List (Nat × Nat)) (f : FuncId) (n : Nat) (rs : List ResultVar) (s : SC) : Prop where
  run : ∀ (ih : Rec) (args : List Value) (h : Hp) (nx : Nat), args.length ≤ n → z6f P nvs f args ih h nx = z9i P n rs (sC P n n ih s ⟨nx, none, [], []⟩ (enum args 0) h nx)
theorem Fun.of {f : FuncId} {fn : Func} {s : SC} {n : Nat} {rs : List ResultVar} (hf : P.funcs[f]? = some fn) (hs : fn.body.map z5o = some s) (hm : fnMk P nvs f fn = true) (hn : fn.ntmps = n) (hr : fn.results.toList = rs) (hl : n ≤ 1000000000) : Fun P nvs f n rs s := by
  refine ⟨fun ih args h nx ha => ?_⟩
  subst hn hr
  cases hb : fn.body with
  | none => rw [hb] at hs; cases hs
  | some body =>
    rw [hb] at hs
    cases hs
    rw [zmt hf hb hm ih args h nx ha, zt0, znu hl]
theorem z9d {f : FuncId} {us : List Value} {ih : Rec} {h : Hp} {nx : Nat} {v : Value} (hg : ground v = true) {h1 : Hp} {n1 : Nat} (hv : ih (.call f us) h nx = .val v h1 n1 []) : z06 f us ih h nx = .gen v h nx [] := by
  unfold z06
  rw [hv]
  show (Bool.rec (match cmp3 h1 nx v ⟨h, nx, []⟩ with | some (u, s) => Out.gen u s.h s.nx [] | none => Out.gen v h1 n1 []) (Out.gen v h nx []) (ground v) : Out) = _
  rw [hg]
theorem Fun.ground {f : FuncId} {n : Nat} {rs : List ResultVar} {s : SC} (F : Fun P nvs f n rs s) {S : Kn} {m : Nat} {us : List Value} {h : Hp} {nx : Nat} {v : Value} (hn : S f us h nx = none) (hm : 1 ≤ m) (hg : ground v = true) (ha : us.length ≤ n)
    (hx : ∃ h1 n1, z9i P n rs (sC P n n (z07 P nvs S (m - 1)) s ⟨nx, none, [], []⟩ (enum us 0) h nx) = .val v h1 n1 []) : z06 f us (z07 P nvs S m) h nx = .gen v h nx [] := by
  obtain ⟨k, rfl⟩ : ∃ k, m = k + 1 := ⟨m - 1, by omega⟩
  obtain ⟨h1, n1, hx⟩ := hx
  rw [Nat.add_sub_cancel] at hx
  exact z9d hg ((z4x hn).trans ((F.run _ us h nx ha).trans hx))
theorem zfd {f : FuncId} {S : Kn} {m : Nat} {us : List Value} {h : Hp} {nx : Nat} {v : Value} (hn : S f us h nx = some v) (hg : ground v = true) : z06 f us (z07 P nvs S m) h nx = .gen v h nx [] :=
  z9d hg (zh3 hn)
section
variable {nv n : Nat} {ih : Rec} {z : Z} {vs : Vs} {h : Hp} {nx : Nat}
theorem zpx : sC P nv n ih .skip z vs h nx = .nor z vs h nx := rfl
theorem zts (l : List SOp) : sC P nv n ih (.reg l) z vs h nx = roR (sOps P nv ih l z vs h nx) := rfl
variable (P nv n ih) in
def zos (b : SC) (r : R) : R := zbk r (sC P nv n ih b)
theorem ztq (a b : SC) : sC P nv n ih (.seq a b) z vs h nx = zos P nv n ih b (sC P nv n ih a z vs h nx) := rfl
theorem zvb (b : SC) : zos P nv n ih b (.nor z vs h nx) = sC P nv n ih b z vs h nx := rfl
theorem zva (b : SC) : zos P nv n ih b (.ret z vs h nx) = .ret z vs h nx := rfl
theorem zvc (b : SC) (id : Nat) : zos P nv n ih b (.exi id z vs h nx) = .exi id z vs h nx := rfl
variable (P nv n ih) in
def zt8 (a b : SC) (z : Z) (vs : Vs) (h : Hp) (nx : Nat) (v : Option Value) : R := match v with
      | some (.bool t) => bif t then sC P nv n ih a z vs h nx else sC P nv n ih b z vs h nx
      | _ => .no
theorem zq0 (x : Operand) (a b : SC) : sC P nv n ih (.cond x a b) z vs h nx = zt8 P nv n ih a b z vs h nx (opV nv x vs) := rfl
theorem zra (a b : SC) : zt8 P nv n ih a b z vs h nx (some (.bool true)) = sC P nv n ih a z vs h nx := rfl
theorem zn9 (a b : SC) : zt8 P nv n ih a b z vs h nx (some (.bool false)) = sC P nv n ih b z vs h nx := rfl
def zg5 (id : Nat) (r : R) : R := match r with
    | .exi j z vs h nx => bif Nat.beq j id then .nor z vs h nx else .exi j z vs h nx
    | r => r
theorem zkj (id : Nat) (a : SC) : sC P nv n ih (.block id a) z vs h nx = zg5 id (sC P nv n ih a z vs h nx) := by
  show (match sC P nv n ih a z vs h nx with
    | .exi j z vs h nx => bif Nat.beq j id then R.nor z vs h nx else R.exi j z vs h nx
    | r => r) = _
  unfold zg5
  cases sC P nv n ih a z vs h nx <;> rfl
theorem zrc (id : Nat) : zg5 id (.nor z vs h nx) = .nor z vs h nx := rfl
theorem zrb (id : Nat) : zg5 id (.ret z vs h nx) = .ret z vs h nx := rfl
theorem zrd (id j : Nat) : zg5 id (.exi j z vs h nx) = if j = id then .nor z vs h nx else .exi j z vs h nx := by
  show (bif Nat.beq j id then R.nor z vs h nx else R.exi j z vs h nx) = _
  by_cases q : j = id
  · subst q; simp
  · have : Nat.beq j id = false := by rw [z0s]; simpa using q
    rw [this, if_neg q]; rfl
theorem z1j (a : SC) : sC P nv n ih (.loop a) z vs h nx = z14 (sC P nv n ih a) z vs h nx := rfl
theorem zpz (id : Nat) : sC P nv n ih (.exit id) z vs h nx = .exi id z vs h nx := rfl
theorem ztr : sC P nv n ih .ret z vs h nx = .ret z vs h nx := rfl
theorem ztu : roR (.st z vs h nx) = .nor z vs h nx := rfl
theorem ztz : sOps P nv ih [] z vs h nx = .st z vs h nx := rfl
variable (P nv ih) in
def zt7 (l : List SOp) (r : RO) : RO := match r with | .st z vs h nx => sOps P nv ih l z vs h nx | .no => .no
theorem zq5 (o : SOp) (l : List SOp) : sOps P nv ih (o :: l) z vs h nx = zt7 P nv ih l (sOne P nv ih o z vs h nx) := by
  show (match sOne P nv ih o z vs h nx with | .st z vs h nx => sOps P nv ih l z vs h nx | .no => .no) = _
  unfold zt7
  cases sOne P nv ih o z vs h nx <;> rfl
theorem zv9 (l : List SOp) : zt7 P nv ih l (.st z vs h nx) = sOps P nv ih l z vs h nx := rfl
theorem zei (d : Option Nat) (op : Op) : sOne P nv ih ⟨d, op, none⟩ z vs h nx = rOut d z vs h nx (rOp P nv ih op vs h nx) := rfl
variable (P nv ih) in
def zap (d : Option Nat) (op : Op) (b : Bool) (z : Z) (vs : Vs) (h : Hp) (nx : Nat) (v : Option Value) : RO := match v with
    | some (.bool y) => bif y == b then rOut d z vs h nx (rOp P nv ih op vs h nx) else .st z (put d undef vs) h nx
    | some _ => .st z (put d undef vs) h nx
    | none => .no
theorem zej (d : Option Nat) (op : Op) (t : Nat) (b : Bool) : sOne P nv ih ⟨d, op, some (t, b)⟩ z vs h nx = zap P nv ih d op b z vs h nx (opV nv (.tmp t) vs) := by
  show (match opV nv (.tmp t) vs with
    | some (.bool y) => bif y == b then rOut d z vs h nx (rOp P nv ih op vs h nx) else RO.st z (put d undef vs) h nx
    | some _ => RO.st z (put d undef vs) h nx
    | none => .no) = _
  unfold zap
  cases opV nv (.tmp t) vs with
  | none => rfl
  | some v => cases v <;> rfl
theorem g_tt (d : Option Nat) (op : Op) : zap P nv ih d op true z vs h nx (some (.bool true)) = rOut d z vs h nx (rOp P nv ih op vs h nx) := rfl
theorem g_ff (d : Option Nat) (op : Op) : zap P nv ih d op false z vs h nx (some (.bool false)) = rOut d z vs h nx (rOp P nv ih op vs h nx) := rfl
theorem g_tf (d : Option Nat) (op : Op) : zap P nv ih d op true z vs h nx (some (.bool false)) = .st z (put d undef vs) h nx := rfl
theorem g_ft (d : Option Nat) (op : Op) : zap P nv ih d op false z vs h nx (some (.bool true)) = .st z (put d undef vs) h nx := rfl
theorem zl3 (d : Option Nat) (v : Value) : rOut d z vs h nx (.pur v) = .st z (put d v vs) h nx := rfl
theorem zq7 (d : Option Nat) (v : Value) (r : Nat) : rOut d z vs h nx (.rd v r) = .st z (put d v vs) h nx := rfl
theorem zl4 (d : Option Nat) (v : Value) (h' : Hp) (n' : Nat) : rOut d z vs h nx (.new v h' n') = .st z (put d v vs) h' n' := rfl
theorem zq6 (d : Option Nat) (h' : Hp) (r : Nat) : rOut d z vs h nx (.wr h' r) = .st (logZ z [r]) (put d undef vs) h' nx := rfl
theorem zl5 (d : Option Nat) (v : Value) (h' : Hp) (n' : Nat) (M : List Nat) : rOut d z vs h nx (.gen v h' n' M) = .st (logZ z M) (put d v vs) h' n' := rfl
theorem zlz : logZ z [] = z := rfl
theorem z26 (z : Z) (r : Nat) (hr : z.n0 ≤ r) : logZ z [r] = z := by
  unfold logZ
  rw [z4w hr]
theorem zin (rs : List ResultVar) (n0 : Nat) (rd : Option Nat) (log : List Nat) : z9i P nv rs (.ret ⟨n0, rd, [], log⟩ vs h nx) = (match resVs P nv vs h rs with | some us => .val (tup us) h nx log | none => .no) := rfl
theorem zio (rs : List ResultVar) (n0 : Nat) (rd : Option Nat) (log : List Nat) : z9i P nv rs (.nor ⟨n0, rd, [], log⟩ vs h nx) = (match resVs P nv vs h rs with | some us => .val (tup us) h nx log | none => .no) := rfl
end
theorem znn (t : TypeId) (x y : Operand) (a b : Int) : binV P .add t x y (.int .i64 a) (.int .i64 b) = some (.int .i64 (IntKind.wrap .i64 (a + b))) := (z3w .add t x y a b rfl).trans (zml .i64 a b)
theorem znd (t : TypeId) (x y : Operand) (a b : Int) : binV P .sub t x y (.int .i64 a) (.int .i64 b) = some (.int .i64 (IntKind.wrap .i64 (a - b))) := (z3w .sub t x y a b rfl).trans (zmd .i64 a b)
theorem znh (t : TypeId) (x y : Operand) (a b : Int) : binV P .mul t x y (.int .i64 a) (.int .i64 b) = some (.int .i64 (IntKind.wrap .i64 (a * b))) := (z3w .mul t x y a b rfl).trans (zmf .i64 a b)
theorem znm (t : TypeId) (x y : Operand) (a b : Int) : binV P .eql t x y (.int .i64 a) (.int .i64 b) = some (.bool (a == b)) := (z3w .eql t x y a b rfl).trans (zmk .i64 a b)
theorem zng (t : TypeId) (x y : Operand) (a b : Int) : binV P .neq t x y (.int .i64 a) (.int .i64 b) = some (.bool (!(a == b))) := (z3w .neq t x y a b rfl).trans (zme .i64 a b)
theorem zni (t : TypeId) (x y : Operand) (a b : Int) : binV P .lss t x y (.int .i64 a) (.int .i64 b) = some (.bool (decide (a < b))) := (z3w .lss t x y a b rfl).trans (zmg .i64 a b)
theorem znj (t : TypeId) (x y : Operand) (a b : Int) : binV P .leq t x y (.int .i64 a) (.int .i64 b) = some (.bool (decide (a ≤ b))) := (z3w .leq t x y a b rfl).trans (zmh .i64 a b)
theorem znk (t : TypeId) (x y : Operand) (a b : Int) : binV P .gtr t x y (.int .i64 a) (.int .i64 b) = some (.bool (decide (b < a))) := (z3w .gtr t x y a b rfl).trans (zmi .i64 a b)
theorem znl (t : TypeId) (x y : Operand) (a b : Int) : binV P .geq t x y (.int .i64 a) (.int .i64 b) = some (.bool (decide (b ≤ a))) := (z3w .geq t x y a b rfl).trans (zmj .i64 a b)
theorem z01 {h : Hp} {r : Nat} (cs : List Value) (b : Option Nat) : rowL (hset h r (.cells cs b)) r = some cs := by unfold rowL; rw [z1c]
theorem z0a {h : Hp} {r s : Nat} (x : Row) (hn : s ≠ r) : rowL (hset h r x) s = rowL h s := by unfold rowL; rw [z0l x hn]
theorem zc2 {h : Hp} {size r o : Nat} {v : Value} : storeAt size h r o v = (match hget h r, cellsL v with
  | some (.cells cs b), some l => bif Nat.beq l.length size then
      (match z0y cs o l with | some cs' => .wr (hset h r (.cells cs' b)) r | none => .bad)
    else .bad
  | _, _ => .bad) := rfl
theorem z8a (n : Nat) : Nat.beq n n = true := by simp
theorem zu2 {nv t : Nat} {vs : Vs} : opV nv (.tmp t) vs = bif decide (t < nv) then vs t else none := by
  by_cases q : t < nv
  · rw [zrt t q]; simp [q]
  · rw [zgn (by omega)]; simp [q]
end Lm
end Go
namespace Go
namespace Lm
def zsn : R → Prop
  | .nor _ _ _ _ => False
  | _ => True
theorem zge {b : Z → Vs → Hp → Nat → R} {Post : R → Prop} (Inv : Nat → Z → Vs → Hp → Nat → Prop) (N : Nat)
    (step : ∀ i z vs h nx, Inv i z vs h nx → (i < N ∧ ∃ z' vs' h' nx', b z vs h nx = .nor z' vs' h' nx' ∧ Inv (i + 1) z' vs' h' nx') ∨ (zsn (b z vs h nx) ∧ Post (b z vs h nx))) :
    ∀ (k i : Nat) z vs h nx, Inv i z vs h nx → (i + 2 ^ k ≤ N ∧ ∃ z' vs' h' nx', z23 b k z vs h nx = .nor z' vs' h' nx' ∧ Inv (i + 2 ^ k) z' vs' h' nx') ∨ (zsn (z23 b k z vs h nx) ∧ Post (z23 b k z vs h nx)) := by
  intro k
  induction k with
  | zero => intro i z vs h nx hi; exact step i z vs h nx hi
  | succ k ih =>
    intro i z vs h nx hi
    have e : z23 b (k + 1) z vs h nx = (match z23 b k z vs h nx with | .nor z vs h nx => z23 b k z vs h nx | r => r) := rfl
    rw [e]
    have hp : 2 ^ (k + 1) = 2 ^ k + 2 ^ k := by rw [Nat.pow_succ]; omega
    rcases ih i z vs h nx hi with ⟨h1, z', vs', h', nx', h2, h3⟩ | ⟨h1, h2⟩
    · rw [h2]
      simp only
      rcases ih (i + 2 ^ k) z' vs' h' nx' h3 with ⟨q1, z2, vs2, h2', nx2, q2, q3⟩ | ⟨q1, q2⟩
      · exact .inl ⟨by omega, z2, vs2, h2', nx2, q2, by rw [hp, ← Nat.add_assoc]; exact q3⟩
      · exact .inr ⟨q1, q2⟩
    · cases hr : z23 b k z vs h nx with
      | nor z2 vs2 h2' nx2 => rw [hr] at h1; exact h1.elim
      | no => rw [hr] at h1 h2; exact .inr ⟨h1, h2⟩
      | exi j z2 vs2 h2' nx2 => rw [hr] at h1 h2; exact .inr ⟨h1, h2⟩
      | ret z2 vs2 h2' nx2 => rw [hr] at h1 h2; exact .inr ⟨h1, h2⟩
      | val v h2' nx2 M => rw [hr] at h1 h2; exact .inr ⟨h1, h2⟩
theorem z0n {b : Z → Vs → Hp → Nat → R} {Post : R → Prop} (Inv : Nat → Z → Vs → Hp → Nat → Prop) (N : Nat) (hN : N < 2 ^ 62) {z : Z} {vs : Vs} {h : Hp} {nx : Nat} (h0 : Inv 0 z vs h nx)
    (step : ∀ i z vs h nx, Inv i z vs h nx → (i < N ∧ ∃ z' vs' h' nx', b z vs h nx = .nor z' vs' h' nx' ∧ Inv (i + 1) z' vs' h' nx') ∨ (zsn (b z vs h nx) ∧ Post (b z vs h nx))) : Post (z14 b z vs h nx) := by
  rcases zge Inv N step 62 0 z vs h nx h0 with ⟨h1, _⟩ | ⟨h1, h2⟩
  · omega
  · unfold z14
    cases hr : z23 b 62 z vs h nx with
    | nor z2 vs2 h2' nx2 => rw [hr] at h1; exact h1.elim
    | no => rw [hr] at h2; exact h2
    | exi j z2 vs2 h2' nx2 => rw [hr] at h2; exact h2
    | ret z2 vs2 h2' nx2 => rw [hr] at h2; exact h2
    | val v h2' nx2 M => rw [hr] at h2; exact h2
end Lm
end Go
namespace Go
namespace Lm
abbrev vi (n : Int) : Value := .int .i64 n
structure Lst (h : Hp) (nx sz : Nat) (v : Value) (rows : List (List Value)) : Prop where
  form : ∃ a c, v = .slice a rows.length c ∧ ∀ (i : Nat) row, rows[i]? = some row → row.length = sz ∧ ∃ r o cs, a = some ⟨r, o, none⟩ ∧ r < nx ∧ rowL h r = some cs ∧ o + (i + 1) * sz ≤ cs.length ∧ (cs.drop (o + i * sz)).take sz = row
def Same (n : Nat) (h h' : Hp) : Prop := ∀ r, r < n → hget h' r = hget h r
theorem Same.refl (n : Nat) (h : Hp) : Same n h h := fun _ _ => rfl
theorem Same.trans {n : Nat} {h h1 h2 : Hp} (a : Same n h h1) (b : Same n h1 h2) : Same n h h2 := fun r hr => (b r hr).trans (a r hr)
theorem Same.set {n : Nat} {h h1 : Hp} (a : Same n h h1) {r : Nat} (hr : n ≤ r) (x : Row) : Same n h (hset h1 r x) := fun s hs => by rw [z0l x (by omega)]; exact a s hs
theorem Same.mono {n m : Nat} {h h1 : Hp} (a : Same n h h1) (hm : m ≤ n) : Same m h h1 := fun s hs => a s (by omega)
theorem z0w {h h' : Hp} {n r : Nat} (a : Same n h h') (hr : r < n) : rowL h' r = rowL h r := by unfold rowL; rw [a r hr]
theorem Lst.same {h h' : Hp} {nx nx' sz : Nat} {v : Value} {rows : List (List Value)} (k : Lst h nx sz v rows) (a : Same nx h h') (hn : nx ≤ nx') : Lst h' nx' sz v rows := by
  obtain ⟨a0, c, hv, hr⟩ := k.form
  refine ⟨a0, c, hv, fun i row hi => ?_⟩
  obtain ⟨h1, r, o, cs, h2, h3, h4, h5, h6⟩ := hr i row hi
  exact ⟨h1, r, o, cs, h2, by omega, by rw [z0w a h3]; exact h4, h5, h6⟩
theorem Lst.load {h : Hp} {nx sz : Nat} {a : Option Addr} {n c : Nat} {rows : List (List Value)} (k : Lst h nx sz (.slice a n c) rows) {i : Nat} (hi : i < n) :
    n = rows.length ∧ ∃ r o row cs, a = some ⟨r, o, none⟩ ∧ r < nx ∧ rows[i]? = some row ∧ row.length = sz ∧ rowL h r = some cs ∧ o + i * sz + sz ≤ cs.length ∧ (cs.drop (o + i * sz)).take sz = row := by
  obtain ⟨a0, c0, hv, hr⟩ := k.form
  cases hv
  have hg := List.getElem?_eq_getElem hi
  obtain ⟨h1, r, o, cs, h2, h3, h4, h5, h6⟩ := hr i _ hg
  exact ⟨rfl, r, o, _, cs, h2, h3, hg, h1, h4, by rw [Nat.succ_mul] at h5; omega, h6⟩
theorem zix : ∀ (c l : List Value), l.length = c.length → z0y c 0 l = some l := by
  intro c
  induction c with
  | nil => intro l hl; cases l with
    | nil => rfl
    | cons _ _ => simp at hl
  | cons x c ih =>
    intro l hl
    cases l with
    | nil => simp at hl
    | cons v l => rw [z57, ih l (by simpa using hl)]
theorem z5q {h : Hp} {r : Nat} {cs l : List Value} {b : Option Nat} (hr : hget h r = some (.cells cs b)) (hl : l.length = cs.length) : storeAt cs.length h r 0 (.agg l.toArray) = .wr (hset h r (.cells l b)) r := by
  unfold storeAt
  rw [hr]
  simp only [cellsL, z0s, hl, decide_true, cond_true, zix cs l hl]
end Lm
end Go
