/- A machine that takes letters for numbers and lists: what it answers, the program answers (its operations, steps, calls, loops, lists of a world). Conditions: none. -/
import Derived.RangeFuncLeaves
import Derived.Tactics2
import Derived.Laws.Sem
import Derived.Laws.Entries
import Derived.Laws.CopyRow
set_option linter.unusedVariables false
set_option linter.unusedSimpArgs false
noncomputable section
namespace Go
namespace Lm
@[reducible] def Lv (α : Type) (_ : Nat) : Type := Nat → Option α
def Lv.nil (α : Type) (d : Nat) : Lv α d := fun _ => none
def forceLv {α β : Type} (d : Nat) (x : Lv α d) (k : Lv α d → β) : β := k x
def Lv.get {α : Type} (d : Nat) (k : Nat) (p : Lv α d) : Option α := p k
def Lv.set {α : Type} (d : Nat) (k : Nat) (a : α) (p : Lv α d) : Lv α d := fun j => if j = k then some a else p j
inductive GF (α : Type) (d : Nat) where
  | mk (f : Lv α d → Option α)
inductive SF (α : Type) (d : Nat) where
  | mk (f : α → Lv α d → Lv α d)
def mkGet {α : Type} (d : Nat) (k : Nat) : GF α d := .mk fun p => Lv.get d k p
def mkSet {α : Type} (d : Nat) (k : Nat) : SF α d := .mk fun a p => Lv.set d k a p
def VD : Nat := 6
def HD : Nat := 12
abbrev Vs := Lv Value VD
abbrev Ts := List (Nat × Value)
def find (t : Nat) (l : Ts) : Option Value :=
  List.rec none (fun p _ ih => Bool.rec ih (some p.2) (Nat.beq p.1 t)) l
structure Z where
  n0 : Nat
  rd : Option Nat
  D : List Nat
  log : List Nat
inductive Row where
  | cells (c : List Value) (loose : Option Nat)
  | ro (c : List Value)
  | map (es : List (Value × Value)) (clock : Nat)
  | loop (ready : Bool) (pending : Option Code) (nv n : Nat) (vars : Vs) (ps : List Nat) (assign body : Code) (defers : Nat)
  | deferred
  | dead
abbrev Hp := Lv Row HD
inductive R where
  | no
  | nor (z : Z) (vs : Vs) (h : Hp) (nx : Nat)
  | exi (id : Nat) (z : Z) (vs : Vs) (h : Hp) (nx : Nat)
  | ret (z : Z) (vs : Vs) (h : Hp) (nx : Nat)
  | val (v : Value) (h : Hp) (nx : Nat) (M : List Nat)
inductive Out where
  | bad
  | pur (v : Value)
  | rd (v : Value) (r : Nat)
  | new (v : Value) (h : Hp) (nx : Nat)
  | wr (h : Hp) (r : Nat)
  | gen (v : Value) (h : Hp) (nx : Nat) (M : List Nat)
inductive Task where
  | call (f : FuncId) (args : List Value)
  | code (c : Code) (nv n : Nat) (z : Z) (vs : Vs)
abbrev Rec := Task → Hp → Nat → R
abbrev OpF := Rec → Vs → Ts → Hp → Nat → Out
abbrev K := Rec → Z → Vs → Ts → Hp → Nat → R
abbrev OpV := Vs → Ts → Option Value
inductive LV where
  | no
  | v (x : Value) (r : Nat)
abbrev OpL := Vs → Ts → Hp → LV
def SENT : Nat := 2 ^ 64
def HALF : Nat := 2 ^ 63
def hget (h : Hp) (r : Nat) : Option Row := Lv.get HD r h
def hset (h : Hp) (r : Nat) (x : Row) : Hp := Lv.set HD r x h
def room (nx : Nat) : Bool := Nat.ble nx nx
def groundL (f : Value → Bool) (l : List Value) : Bool := List.rec true (fun v _ ih => Bool.rec false ih (f v)) l
def flat : Value → Bool
  | .bool _ | .int _ _ | .string _ | .pointer none | .slice none _ _ | .map none | .nilFunc | .nilIface => true
  | _ => false
def ground (v : Value) : Bool :=
  match v with
  | .agg cs => groundL flat cs.toList
  | .tuple cs => groundL flat cs.toList
  | v => flat v
inductive X where
  | mk (f : OpV)
def eVar (g : Vs → Option Value) : OpV := fun vs _ => g vs
def eTmp (t : Nat) : OpV := fun _ ts => find t ts
def eCon (v : Value) : OpV := fun _ _ => some v
def eBad : OpV := fun _ _ => none
def dVar (t : Nat) : X := match mkGet VD t with | .mk g => .mk (eVar g)
def NG : Nat := 1
def dX (nv : Nat) (x : Operand) : X :=
  match x with
  | .tmp t => Bool.rec (.mk (eTmp t)) (dVar t) (Nat.blt t nv)
  | .const v => Bool.rec (.mk eBad) (.mk (eCon v)) (ground v)
  | .global g => Bool.rec (.mk eBad) (.mk (eCon (.pointer (some ⟨g, 0, none⟩)))) (Nat.blt g NG)
  | .func f => .mk (eCon (.func (.func f) #[] #[]))
inductive XL where
  | mk (l : List OpV)
def dXs (nv : Nat) (l : List Operand) : XL :=
  List.rec (.mk []) (fun x _ ih => match dX nv x, ih with | .mk f, .mk l => .mk (f :: l)) l
def evs (l : List OpV) (vs : Vs) (ts : Ts) : Option (List Value) :=
  List.rec (some []) (fun f _ ih => match f vs ts with | some v => (match ih with | some us => some (v :: us) | none => none) | none => none) l
structure TI where
  agg : Bool
  size : Nat
  bytes : Nat
  desc : TypeDesc
  zero : Option Value
def isAggD : TypeDesc → Bool
  | .struct _ | .array _ _ => true
  | _ => false
def ty (P : Program) (t : TypeId) : Option TI :=
  match P.info? t, P.underlying t with
  | some i, some d => some ⟨isAggD d, i.size, i.bytes, d, i.zero⟩
  | _, _ => none
def nth (l : List Value) (i : Nat) : Option Value := (List.rec (fun _ => none) (fun v _ ih i => Nat.rec (some v) (fun j _ => ih j) i) l : Nat → Option Value) i
def dropL (n : Nat) (l : List Value) : List Value := (Nat.rec (fun l => l) (fun _ ih l => List.casesOn l [] (fun _ r => ih r)) n : List Value → List Value) l
def takeL (n : Nat) (l : List Value) : Option (List Value) :=
  (Nat.rec (fun _ => some []) (fun _ ih l => List.casesOn l none (fun v r => match ih r with | some x => some (v :: x) | none => none)) n : List Value → Option (List Value)) l
def splice (c : List Value) (o : Nat) (vs : List Value) : Option (List Value) :=
  (List.rec (fun o vs => match vs with | [] => some [] | _ :: _ => none)
    (fun x r ih o vs => Nat.rec (match vs with | [] => some (x :: r) | v :: vs => (match ih 0 vs with | some y => some (v :: y) | none => none))
      (fun j _ => match ih j vs with | some y => some (x :: y) | none => none) o) c : Nat → List Value → Option (List Value)) o vs
variable (P : Program)
def oMove (x : OpV) : OpV := fun vs ts => (x vs ts)
def oPick (b x y : OpV) : OpV := fun vs ts =>
  match b vs ts with
  | some (.bool t) => (Bool.rec (y vs ts) (x vs ts) t)
  | _ => none
def cellsL (v : Value) : Option (List Value) :=
  match v with
  | .agg cs => some cs.toList
  | .tuple _ => none
  | v => some [v]
def newOut (h : Hp) (nx : Nat) (cs : List Value) : Out :=
  Bool.rec .bad (.new (.pointer (some ⟨nx, 0, none⟩)) (hset h nx (.cells cs none)) (Nat.succ nx)) (room nx)
def oAlloc (cs : List Value) : OpF := fun _ _ _ h nx => newOut h nx cs
def oBox (x : OpV) : OpF := fun _ vs ts h nx =>
  match x vs ts with
  | some v => (match cellsL v with | some cs => newOut h nx cs | none => .bad)
  | none => .bad
def rowL (h : Hp) (r : Nat) : Option (List Value) :=
  match hget h r with
  | some (.cells cs _) => some cs
  | some (.ro cs) => some cs
  | _ => none
def part1 (agg : Bool) (size : Nat) (cs : List Value) (o : Nat) : Option Value :=
  Bool.rec (nth cs o) (match takeL size (dropL o cs) with | some l => some (.agg l.toArray) | none => none) agg
def loadAt (agg : Bool) (size : Nat) (h : Hp) (r o : Nat) : Option Value :=
  match rowL h r with
  | some cs => part1 agg size cs o
  | none => none
def rdOut (r : Nat) (v : Option Value) : LV := match v with | some v => .v v r | none => .no
def oLoad (agg : Bool) (size : Nat) (x : OpV) : OpL := fun vs ts h =>
  match x vs ts with
  | some (.pointer (some ⟨r, o, none⟩)) => rdOut r (loadAt agg size h r o)
  | _ => .no
def storeAt (size : Nat) (h : Hp) (r o : Nat) (v : Value) : Out :=
  match hget h r, cellsL v with
  | some (.cells cs b), some l => bif Nat.beq l.length size then
      (match splice cs o l with | some cs' => .wr (hset h r (.cells cs' b)) r | none => .bad)
    else .bad
  | _, _ => .bad
def oStore (size : Nat) (x y : OpV) : OpF := fun _ vs ts h _ =>
  match x vs ts, y vs ts with
  | some (.pointer (some ⟨r, o, none⟩)), some v => storeAt size h r o v
  | _, _ => .bad
def wrapI (k : IntKind) (n : Int) : Int :=
  match n with
  | .ofNat m => bif Nat.blt m 2147483648 then (match k with | .i64 => .ofNat m | k => k.wrap n) else k.wrap n
  | n => IntKind.wrap k n
def forceN {α : Type} (n : Nat) (k : Nat → α) : α := Nat.rec (k 0) (fun m _ => k (Nat.succ m)) n
def forceI {α : Type} (i : Int) (k : Int → α) : α := Int.casesOn i (fun n => forceN n fun n => k (.ofNat n)) (fun n => forceN n fun n => k (.negSucc n))
def mkI (k : IntKind) (i : Int) : Option Value := forceI i fun i => some (.int k i)
def mkB (b : Bool) : Option Value := Bool.rec (some (.bool false)) (some (.bool true)) b
def same (k k' : IntKind) : Bool := match k, k' with | .i64, .i64 => true | _, _ => false
def ltI (a b : Int) : Bool :=
  match a, b with
  | .ofNat m, .ofNat n => Nat.blt m n
  | .ofNat _, .negSucc _ => false
  | .negSucc _, .ofNat _ => true
  | .negSucc m, .negSucc n => Nat.blt n m
def eqI (a b : Int) : Bool :=
  match a, b with
  | .ofNat m, .ofNat n => Nat.beq m n
  | .negSucc m, .negSucc n => Nat.beq m n
  | _, _ => false
def intOp (op : BinOp) : IntKind → Int → Int → Option Value :=
  match op with
  | .add => fun k a b => mkI k (wrapI k (Int.add a b))
  | .sub => fun k a b => mkI k (wrapI k (Int.sub a b))
  | .mul => fun k a b => mkI k (wrapI k (Int.mul a b))
  | .eql => fun _ a b => mkB (eqI a b)
  | .neq => fun _ a b => mkB (not (eqI a b))
  | .lss => fun _ a b => mkB (ltI a b)
  | .leq => fun _ a b => mkB (not (ltI b a))
  | .gtr => fun _ a b => mkB (ltI b a)
  | .geq => fun _ a b => mkB (not (ltI a b))
  | _ => fun _ _ _ => none
def fastOp (op : BinOp) : Bool :=
  match op with
  | .add | .sub | .mul | .eql | .neq | .lss | .leq | .gtr | .geq => true
  | _ => false
def pureOf {α : Type} (P : Program) : Sem α → Option α
  | .pure a => some a
  | .program k => pureOf P (k P)
  | .mark _ k => pureOf P k
  | _ => none
def gr (v : Option Value) : Option Value := match v with | some v => Bool.rec none (some v) (ground v) | none => none
def ground2 (P : Program) (op : BinOp) (t : TypeId) (x y : Operand) (a b : Value) : Option Value :=
  bif ground a && ground b then gr (pureOf P (do eqGuard op t x y a b; binOp op t a b)) else none
def eqN (d : TypeDesc) (a b : Value) : Option Bool :=
  match d, a, b with
  | .pointer _, .pointer none, .pointer b => some b.isNone
  | .pointer _, .pointer (some _), .pointer none => some false
  | .slice _, .slice none _ _, .slice b _ _ => some b.isNone
  | .slice _, .slice (some _) _ _, .slice none _ _ => some false
  | .map _ _, .map none, .map b => some b.isNone
  | .map _ _, .map (some _), .map none => some false
  | .func _ _ _, .nilFunc, .nilFunc => some true
  | .func _ _ _, .nilFunc, .func _ _ _ => some false
  | .func _ _ _, .func _ _ _, .nilFunc => some false
  | _, _, _ => none
def eqNil (P : Program) (op : BinOp) (t : TypeId) (a b : Value) : Option Value :=
  match ty P t with
  | some i => (match eqN i.desc a b, op with
    | some x, .eql => mkB x
    | some x, .neq => mkB (not x)
    | _, _ => none)
  | none => none
def binV (P : Program) (op : BinOp) (t : TypeId) (x y : Operand) (a b : Value) : Option Value :=
  match a, b with
  | .int k m, .int k' n => bif fastOp op && same k k' then intOp op k m n else ground2 P op t x y a b
  | a, b => bif ground a && ground b then ground2 P op t x y a b else eqNil P op t a b
def oBin (op : BinOp) (t : TypeId) (x y : Operand) (a b : OpV) : OpV := fun vs ts =>
  match a vs ts, b vs ts with
  | some u, some v => (binV P op t x y u v)
  | _, _ => none
def unV (op : UnOp) (v : Value) : Option Value :=
  match op, v with
  | .not, .bool b => mkB (not b)
  | op, v => bif ground v then gr (pureOf P (Op.unary op v)) else none
def oUn (op : UnOp) (x : OpV) : OpV := fun vs ts =>
  match x vs ts with
  | some v => (unV P op v)
  | _ => none
def oConv (s d : TypeId) (x : OpV) : OpV := fun vs ts =>
  match x vs ts with
  | some v => (bif ground v then gr (pureOf P (convert s d v)) else none)
  | _ => none
def oExtract (x : OpV) (i : Nat) : OpV := fun vs ts =>
  match x vs ts with
  | some (.tuple us) => (nth us.toList i)
  | _ => none
def fillL (l : List ((Nat × Nat) × Value)) : List Value → Option (List Value) :=
  List.rec (fun cs => some cs) (fun p _ ih cs =>
    match cellsL p.2 with
    | some l => bif Nat.beq l.length p.1.2 then (match splice cs p.1.1 l with | some cs' => ih cs' | none => none) else none
    | none => none) l
def evP (l : List ((Nat × Nat) × OpV)) (vs : Vs) (ts : Ts) : Option (List ((Nat × Nat) × Value)) :=
  List.rec (some []) (fun p _ ih => match p.2 vs ts with | some v => (match ih with | some us => some ((p.1, v) :: us) | none => none) | none => none) l
def fieldAtP (fs : Array Field) (i : Nat) : Option (Nat × Nat) :=
  match fs[i]? with
  | some f => (match ty P f.type with | some j => some (f.offset, j.size) | none => none)
  | none => none
inductive PL where
  | bad
  | mk (l : List ((Nat × Nat) × OpV))
def placesL (place : Nat → Option (Nat × Nat)) (nv : Nat) (l : List (Nat × Operand)) : PL :=
  List.rec (.mk []) (fun p _ ih => match place p.1, dX nv p.2, ih with | some q, .mk f, .mk r => Bool.rec .bad (.mk ((q, f) :: r)) (Nat.blt 0 q.2) | _, _, _ => .bad) l
def oBuild (z : List Value) (l : List ((Nat × Nat) × OpV)) : OpV := fun vs ts =>
  match evP l vs ts with
  | some us => (match fillL us z with | some cs => some (.agg cs.toArray) | none => none)
  | none => none
def repL (n : Nat) (z l : List Value) : List Value := Nat.rec l (fun _ ih => z ++ ih) n
def newSlice (h : Hp) (nx : Nat) (cs : List Value) (n c : Nat) : Out :=
  Bool.rec .bad (.new (.slice (some ⟨nx, 0, none⟩) n c) (hset h nx (.cells cs none)) (Nat.succ nx)) (room nx)
def oBuildSlice (z : List Value) (n : Nat) (l : List ((Nat × Nat) × OpV)) : OpF := fun _ vs ts h nx =>
  match evP l vs ts with
  | some us => (match fillL us z with | some cs => newSlice h nx cs n n | none => .bad)
  | none => .bad
def oField (agg : Bool) (size off : Nat) (x : OpV) : OpV := fun vs ts =>
  match x vs ts with
  | some (.agg cs) => (part1 agg size cs.toList off)
  | _ => none
def oFieldAddr (off : Nat) (x : OpV) : OpV := fun vs ts =>
  match x vs ts with
  | some (.pointer (some ⟨r, o, none⟩)) => forceN (Nat.add o off) fun o => some (.pointer (some ⟨r, o, none⟩))
  | _ => none
def idxOf (n : Nat) (v : Value) : Option Nat :=
  match v with
  | .int _ (.ofNat i) => Bool.rec none (some i) (Nat.blt i n)
  | _ => none
def elemAddr (r o n size : Nat) (ix : Value) : Option Value :=
  match idxOf n ix with
  | some i => forceN (Nat.add o (Nat.mul i size)) fun o => some (.pointer (some ⟨r, o, none⟩))
  | none => none
def oIndexArr (n size : Nat) (x y : OpV) : OpV := fun vs ts =>
  match x vs ts, y vs ts with
  | some (.pointer (some ⟨r, o, none⟩)), some ix => elemAddr r o n size ix
  | _, _ => none
def oIndexSl (size : Nat) (x y : OpV) : OpV := fun vs ts =>
  match x vs ts, y vs ts with
  | some (.slice (some ⟨r, o, none⟩) n _), some ix => elemAddr r o n size ix
  | _, _ => none
def oIndexAgg (n : Nat) (agg : Bool) (size : Nat) (x y : OpV) : OpV := fun vs ts =>
  match x vs ts, y vs ts with
  | some (.agg cs), some ix => (match idxOf n ix with | some k => (part1 agg size cs.toList (Nat.mul k size)) | none => none)
  | _, _ => none
def oIndexStr (t : TypeId) (x y : OpV) : OpV := fun vs ts =>
  match x vs ts, y vs ts with
  | some (.string s), some ix => (bif ground ix then gr (pureOf P (Instr.index t (.string s) ix)) else none)
  | _, _ => none
def bound (n : Nat) (x : Option Value) (d : Nat) : Option Nat :=
  match x with
  | none => some d
  | some (.int _ (.ofNat i)) => Bool.rec none (some i) (Nat.ble i n)
  | _ => none
def evO (x : Option OpV) (vs : Vs) (ts : Ts) : Option (Option Value) :=
  match x with
  | none => some none
  | some x => (match x vs ts with | some v => some (some v) | none => none)
def mkSl (size r o l hh m : Nat) : Option Value :=
  forceN (Bool.rec (Nat.add o (Nat.mul l size)) o (Nat.beq m l)) fun o' => forceN (Nat.sub hh l) fun n => forceN (Nat.sub m l) fun c => some (.slice (some ⟨r, o', none⟩) n c)
def sliceOf (size r o len cap top : Nat) (lo hi mx : Option Value) : Option Value :=
  match mx, hi with
  | some m, some hv => (match bound top (some m) 0 with
    | some m => (match bound m (some hv) 0 with
      | some hh => (match bound hh lo 0 with | some l => Bool.rec none (mkSl size r o l hh m) (Nat.blt m HALF) | none => none)
      | none => none)
    | none => none)
  | some _, none => none
  | none, hi => (match bound top hi len with
    | some hh => (match bound hh lo 0 with
      | some l => Bool.rec none (mkSl size r o l hh cap) (Nat.blt cap HALF || ((Nat.blt l len || Nat.beq l 0) && Nat.blt l HALF && Nat.ble HALF (Nat.sub cap l)))
      | none => none)
    | none => none)
def oSliceSl (size : Nat) (x : OpV) (lo hi mx : Option OpV) : OpV := fun vs ts =>
  match x vs ts, evO lo vs ts, evO hi vs ts, evO mx vs ts with
  | some (.slice (some ⟨r, o, none⟩) n c), some lo, some hi, some mx => sliceOf size r o n c (Bool.rec n c (Nat.blt c HALF)) lo hi mx
  | some (.slice none 0 0), some lo, some hi, some mx => (match mx, hi with
    | some _, none => none
    | _, _ => (match bound 0 lo 0, bound 0 hi 0, bound 0 mx 0 with | some _, some _, some _ => some (.slice none 0 0) | _, _, _ => none))
  | _, _, _, _ => none
def oSliceArr (n size : Nat) (x : OpV) (lo hi mx : Option OpV) : OpV := fun vs ts =>
  match x vs ts, evO lo vs ts, evO hi vs ts, evO mx vs ts with
  | some (.pointer (some ⟨r, o, none⟩)), some lo, some hi, some mx => sliceOf size r o n n n lo hi mx
  | _, _, _, _ => none
def oNil (x : OpV) : OpV := fun vs ts =>
  match x vs ts with
  | some (.pointer (some p)) => some (.pointer (some p))
  | _ => none
def natOf (v : Value) : Option Nat := match v with | .int _ (.ofNat i) => some i | _ => none
def oMakeSlice (z : List Value) (x y : OpV) : OpF := fun _ vs ts h nx =>
  match x vs ts, y vs ts with
  | some x, some y => (match natOf x, natOf y with
    | some n, some k => bif Nat.ble n k && Nat.ble k 65536 then forceN n fun n => forceN k fun k => newSlice h nx (repL k z []) n k else .bad
    | _, _ => .bad)
  | _, _ => .bad
def oMakeFunc (f : FuncId) (xs ys : List OpV) : OpV := fun vs ts =>
  match evs xs vs ts, evs ys vs ts with
  | some us, some ws => some (.func (.func f) us.toArray ws.toArray)
  | _, _ => none
def oMakeMap : OpF := fun _ _ _ h nx => Bool.rec .bad (.new (.map (some nx)) (hset h nx (.map [] 0)) (Nat.succ nx)) (room nx)
def nomem (l : Nat) (log : List Nat) : Bool := List.rec true (fun r _ ih => Bool.rec ih false (Nat.beq r l)) log
structure CS where
  h : Hp
  nx : Nat
  used : List Nat
def cmp1 (h1 : Hp) (n0 : Nat) (v : Value) (s : CS) : Option (Value × CS) :=
  match v with
  | .slice (some ⟨r, o, none⟩) n c =>
    bif Nat.blt r n0 then some (.slice (some ⟨r, o, none⟩) n c, s)
    else bif nomem r s.used then
      (match hget h1 r with
      | some (.cells cs b) => bif groundL flat cs then some (.slice (some ⟨s.nx, o, none⟩) n c, ⟨hset s.h s.nx (.cells cs b), Nat.succ s.nx, r :: s.used⟩) else none
      | _ => none)
    else none
  | v => bif ground v then some (v, s) else none
def cmpL (g : Value → CS → Option (Value × CS)) : List Value → CS → Option (List Value × CS)
  | [], s => some ([], s)
  | v :: l, s => (match g v s with
    | some (u, s) => (match cmpL g l s with | some (us, s) => some (u :: us, s) | none => none)
    | none => none)
def cmp2 (h1 : Hp) (n0 : Nat) (v : Value) (s : CS) : Option (Value × CS) :=
  match v with
  | .agg cs => (match cmpL (cmp1 h1 n0) cs.toList s with | some (l, s) => some (.agg l.toArray, s) | none => none)
  | v => cmp1 h1 n0 v s
def cmp3 (h1 : Hp) (n0 : Nat) (v : Value) (s : CS) : Option (Value × CS) :=
  match v with
  | .tuple cs => (match cmpL (cmp2 h1 n0) cs.toList s with | some (l, s) => some (.tuple l.toArray, s) | none => none)
  | v => cmp2 h1 n0 v s
def callF (f : FuncId) (args : List Value) (ih : Rec) (h : Hp) (nx : Nat) : Out :=
  match ih (.call f args) h nx with
  | .val v h1 n M => (match M with
    | [] => Bool.rec (match cmp3 h1 nx v ⟨h, nx, []⟩ with | some (u, s) => .gen u s.h s.nx [] | none => .gen v h1 n []) (.gen v h nx []) (ground v)
    | M => .gen v h1 n M)
  | _ => .bad
def oCallF (f : FuncId) (l : List OpV) : OpF := fun ih vs ts h nx =>
  match evs l vs ts with
  | some us => callF f us ih h nx
  | none => .bad
def oLenSl (x : OpV) : OpV := fun vs ts =>
  match x vs ts with
  | some (.slice _ n _) => some (.int .i64 (.ofNat n))
  | _ => none
def oLenMap (x : OpV) : OpL := fun vs ts h =>
  match x vs ts with
  | some (.map (some r)) => (match hget h r with | some (.map es _) => .v (.int .i64 (.ofNat es.length)) r | _ => .no)
  | _ => .no
def oLenStr (x : OpV) : OpV := fun vs ts =>
  match x vs ts with
  | some (.string s) => some (.int .i64 (.ofNat s.size))
  | _ => none
def appended (h : Hp) (size : Nat) (x : Value) : Option (Nat × List Value) :=
  match x with
  | .slice none n _ => Bool.rec none (some (0, [])) (Nat.beq n 0)
  | .slice (some ⟨r, o, none⟩) n _ => (match rowL h r with
    | some cs => (match takeL (Nat.mul n size) (dropL o cs) with | some l => some (n, l) | none => none)
    | _ => none)
  | _ => none
def small (n : Nat) (o : Out) : Out := Bool.rec .bad o (Nat.ble n 65536)
def appNew (h : Hp) (nx size need : Nat) (cs : List Value) (M : List Nat) : Out :=
  .gen (.slice (some ⟨nx, 0, none⟩) need SENT) (hset h nx (.cells cs (some size))) (Nat.succ nx) M
def szOk (b : Option Nat) (size : Nat) : Bool := match b with | some z => Nat.beq z size | none => false
def appTo (h : Hp) (nx size : Nat) (s : Value) (n : Nat) (new : List Value) : Out :=
  match s with
  | .slice none 0 0 => small n (appNew h nx size n new [])
  | .slice (some ⟨r, o, none⟩) len cap => (match hget h r with
    | some (.cells cs b) => forceN (Nat.add len n) fun need => small need
      (bif Nat.blt cap HALF then
        bif Nat.blt cap need then (match takeL (Nat.mul len size) (dropL o cs) with
          | some old => appNew h nx size need (old ++ new) []
          | none => .bad)
        else (match splice cs (Nat.add o (Nat.mul len size)) new with
          | some cs' => .gen (.slice (some ⟨r, o, none⟩) need cap) (hset h r (.cells cs' b)) nx [r]
          | none => .bad)
      else bif Nat.beq cap SENT && Nat.beq o 0 && Nat.beq (Nat.mul len size) cs.length && szOk b size then
        appNew (hset h r .dead) nx size need (cs ++ new) [r] else .bad)
    | _ => .bad)
  | _ => .bad
def sameSl (h : Hp) (nx : Nat) (s : Value) : Out :=
  match s with
  | .slice none 0 0 => .gen s h nx []
  | .slice (some ⟨_, _, none⟩) _ _ => .gen s h nx []
  | _ => .bad
def oAppend (size : Nat) (s x : OpV) : OpF := fun _ vs ts h nx =>
  match s vs ts, x vs ts with
  | some s, some x => (match appended h size x with
    | some (n, new) => Nat.rec (sameSl h nx s) (fun _ _ => Bool.rec .bad (appTo h nx size s n new) (room nx)) n
    | none => .bad)
  | _, _ => .bad
def oMinMax (b : Builtin) (l : List OpV) : OpV := fun vs ts =>
  match evs l vs ts with
  | some us => (bif groundL flat us then (match b with | .min => gr (pureOf P (Builtin.min_ #[] 0 us.toArray)) | .max => gr (pureOf P (Builtin.max_ #[] 0 us.toArray)) | _ => none) else none)
  | none => none
def putAll (nv n : Nat) (ps : List Nat) (us : List Value) (vs : Vs) : Option Vs :=
  (List.rec (fun us vs => match us with | [] => some vs | _ => none) (fun p _ ih us vs => match us with
    | v :: us => bif Nat.blt p n && Nat.blt p nv then ih us (Lv.set VD p v vs) else none
    | [] => none) ps : List Value → Vs → Option Vs) us vs
def logs (n0 : Nat) (M log : List Nat) : List Nat := List.rec log (fun r _ ih => Bool.rec ih (r :: ih) (Nat.blt r n0)) M
def yieldEnd (l : Nat) (nv n : Nat) (F0 : Vs) (ps : List Nat) (asg body : Code) (d n0 : Nat) (log0 : List Nat) (r : R) : Out :=
  match r with
  | .nor ⟨_, _, [], log⟩ _ h nx => Bool.rec .bad (.gen (.bool true) (hset h l (.loop true none nv n F0 ps asg body d)) nx (l :: logs n0 log (l :: log0))) (nomem l log)
  | .exi id ⟨_, _, [], log⟩ _ h nx => Bool.rec .bad (.gen (.bool false) (hset h l (.loop false (some (.exit id)) nv n F0 ps asg body d)) nx (l :: logs n0 log (l :: log0))) (nomem l log)
  | .ret ⟨_, _, [], log⟩ _ h nx => Bool.rec .bad (.gen (.bool false) (hset h l (.loop false (some .ret) nv n F0 ps asg body d)) nx (l :: logs n0 log (l :: log0))) (nomem l log)
  | _ => .bad
def yieldV (l : Nat) (args : List Value) (ih : Rec) (h : Hp) (nx : Nat) : Out :=
  match hget h l with
  | some (.loop true none nv n F0 ps asg body d) => (match putAll nv n ps args F0 with
    | some vs => (match ih (.code asg nv n ⟨nx, some l, [], []⟩ vs) h nx with
      | .nor ⟨_, _, [], log⟩ vs h1 n1 => Bool.rec .bad (yieldEnd l nv n F0 ps asg body d nx log (ih (.code body nv n ⟨n1, some l, [], []⟩ vs) (hset h1 l (.loop false none nv n F0 ps asg body d)) n1)) (nomem l log)
      | _ => .bad)
    | none => .bad)
  | _ => .bad
def oCallV (f : OpV) (l : List OpV) : OpF := fun ih vs ts h nx =>
  match f vs ts, evs l vs ts with
  | some (.func (.func f) xs ys), some us => callF f (xs.toList ++ us ++ ys.toList) ih h nx
  | some (.func (.yield l) xs ys), some us => bif xs.isEmpty && ys.isEmpty then yieldV l us ih h nx else .bad
  | _, _ => .bad
inductive WO where
  | bad
  | pv (f : OpV)
  | ld (f : OpL)
  | ge (f : OpF)
def hasBody (f : FuncId) : Bool :=
  match P.funcs[f]? with
  | some fn => not (fn.name == "runtime.NumGoroutine") && fn.body.isSome
  | none => false
def oLenArr (n : Nat) (x : OpV) : OpV := fun vs ts => match x vs ts with | some _ => some (.int .i64 (.ofNat n)) | none => none
def dBuiltin (b : Builtin) (ts : List TypeId) (l : List OpV) : WO :=
  match b, l, ts with
  | .len, [x], t :: _ => (match ty P t with
    | some i => (match i.desc with
      | .slice _ => .pv (oLenSl x)
      | .string => .pv (oLenStr x)
      | .array n _ => .pv (oLenArr n x)
      | .map _ _ => .ld (oLenMap x)
      | _ => .bad)
    | none => .bad)
  | .append, [s, x], t :: u :: _ => (match ty P t, ty P u with
    | some i, some k => (match i.desc, k.desc with
      | .slice e, .slice _ => (match ty P e with | some j => (match j.zero with | some z => bif Nat.ble 1 j.size && Nat.beq z.cells.size j.size && Nat.ble j.bytes 65536 && Nat.ble 1 j.bytes then .ge (oAppend j.size s x) else .bad | none => .bad) | none => .bad)
      | _, _ => .bad)
    | _, _ => .bad)
  | .min, l, _ => .pv (oMinMax P .min l)
  | .max, l, _ => .pv (oMinMax P .max l)
  | _, _, _ => .bad
def dCall (nv : Nat) (c : Call) : WO :=
  match dXs nv c.args.toList with
  | .mk l => (match c.callee with
    | .builtin b => dBuiltin P b c.argTypes.toList l
    | .value (.func f) => bif hasBody P f then .ge (oCallF f l) else .bad
    | .value f => (match dX nv f with | .mk f => .ge (oCallV f l))
    | _ => .bad)
def pv1 (nv : Nat) (k : OpV → OpV) (x : Operand) : WO := match dX nv x with | .mk f => .pv (k f)
def pv2 (nv : Nat) (k : OpV → OpV → OpV) (x y : Operand) : WO := match dX nv x, dX nv y with | .mk f, .mk g => .pv (k f g)
def pv3 (nv : Nat) (k : OpV → OpV → OpV → OpV) (x y z : Operand) : WO := match dX nv x, dX nv y, dX nv z with | .mk f, .mk g, .mk e => .pv (k f g e)
def ge1 (nv : Nat) (k : OpV → OpF) (x : Operand) : WO := match dX nv x with | .mk f => .ge (k f)
def ge2 (nv : Nat) (k : OpV → OpV → OpF) (x y : Operand) : WO := match dX nv x, dX nv y with | .mk f, .mk g => .ge (k f g)
def dLoad (nv : Nat) (t : TypeId) (x : Operand) : WO := match ty P t, dX nv x with | some i, .mk f => .ld (oLoad i.agg i.size f) | none, _ => .bad
def dStore (nv : Nat) (t : TypeId) (x y : Operand) : WO := match ty P t with | some i => ge2 nv (oStore i.size) x y | none => .bad
def dAlloc (t : TypeId) : WO := match ty P t with | some i => (match i.zero with | some z => (match cellsL z with | some cs => bif ground z then .ge (oAlloc cs) else .bad | none => .bad) | none => .bad) | none => .bad
def dBuild (nv : Nat) (t : TypeId) (ps : Array (Nat × Operand)) : WO :=
  match ty P t with
  | some i => (match i.zero, i.desc with
    | some z, .struct fs => (match placesL (fieldAtP P fs) nv ps.toList with | .mk l => (match z with | .agg cs => bif ground (.agg cs) && (fs.toList.all fun f => (ty P f.type).isSome) then .pv (oBuild cs.toList l) else .bad | _ => .bad) | .bad => .bad)
    | some z, .array _ e => (match ty P e with
      | some j => (match placesL (fun k => some (k * j.size, j.size)) nv ps.toList with | .mk l => (match z with | .agg cs => bif ground (.agg cs) then .pv (oBuild cs.toList l) else .bad | _ => .bad) | .bad => .bad)
      | none => .bad)
    | _, _ => .bad)
  | none => .bad
def dBuildSlice (nv : Nat) (t : TypeId) (n : Nat) (ps : Array (Nat × Operand)) : WO :=
  match ty P t with
  | some i => (match i.desc with
    | .slice e => (match ty P e with
      | some j => (match j.zero, placesL (fun k => some (k * j.size, j.size)) nv ps.toList with
        | some z, .mk l => (match cellsL z with | some cs => bif Nat.ble (n * j.size) 16777216 && Nat.beq cs.length j.size && Nat.blt 0 j.size && ground z then .ge (oBuildSlice (repL n cs []) n l) else .bad | none => .bad)
        | _, _ => .bad)
      | none => .bad)
    | _ => .bad)
  | none => .bad
def dField (nv : Nat) (t : TypeId) (x : Operand) (f : Nat) : WO :=
  match ty P t with
  | some i => (match i.desc with
    | .struct fs => (match fs[f]? with
      | some f => (match ty P f.type with | some j => pv1 nv (oField j.agg j.size f.offset) x | none => .bad)
      | none => .bad)
    | _ => .bad)
  | none => .bad
def dFieldAddr (nv : Nat) (t : TypeId) (x : Operand) (f : Nat) : WO :=
  match ty P t with
  | some i => (match i.desc with
    | .struct fs => (match fieldAtP P fs f with
      | some (off, size) => bif Nat.blt 0 size then pv1 nv (oFieldAddr off) x else .bad
      | none => .bad)
    | _ => .bad)
  | none => .bad
def dIndexAddr (nv : Nat) (t : TypeId) (x y : Operand) : WO :=
  match ty P t with
  | some i => (match i.desc with
    | .array n e => (match ty P e with | some j => pv2 nv (oIndexArr n j.size) x y | none => .bad)
    | .slice e => (match ty P e with | some j => pv2 nv (oIndexSl j.size) x y | none => .bad)
    | _ => .bad)
  | none => .bad
def dIndex (nv : Nat) (t : TypeId) (x y : Operand) : WO :=
  match ty P t with
  | some i => (match i.desc with
    | .array n e => (match ty P e with | some j => pv2 nv (oIndexAgg n j.agg j.size) x y | none => .bad)
    | .string => pv2 nv (oIndexStr P t) x y
    | _ => .bad)
  | none => .bad
def XO (x : Option Operand) (nv : Nat) : Option (Option OpV) :=
  match x with
  | none => some none
  | some x => (match dX nv x with | .mk f => some (some f))
def dSlice (nv : Nat) (t : TypeId) (x : Operand) (lo hi mx : Option Operand) : WO :=
  match ty P t, XO lo nv, XO hi nv, XO mx nv with
  | some i, some lo', some hi', some mx' => (match i.desc with
    | .slice e => (match ty P e with | some j => pv1 nv (fun x => oSliceSl j.size x lo' hi' mx') x | none => .bad)
    | .array n e => (match ty P e with | some j => bif Nat.blt n HALF then pv1 nv (fun x => oSliceArr n j.size x lo' hi' mx') x else .bad | none => .bad)
    | _ => .bad)
  | _, _, _, _ => .bad
def dMakeSlice (nv : Nat) (t : TypeId) (x y : Operand) : WO :=
  match ty P t with
  | some i => (match i.desc with
    | .slice e => (match ty P e with
      | some j => (match j.zero with
        | some z => (match cellsL z with | some cs => bif Nat.ble j.bytes 65536 && Nat.beq cs.length j.size && Nat.blt 0 j.size && ground z then ge2 nv (oMakeSlice cs) x y else .bad | none => .bad)
        | none => .bad)
      | none => .bad)
    | _ => .bad)
  | none => .bad
def dMakeFunc (nv : Nat) (fn : Fn) (xs ys : Array Operand) : WO :=
  match fn, dXs nv xs.toList, dXs nv ys.toList with
  | .func f, .mk l, .mk m => .pv (oMakeFunc f l m)
  | _, _, _ => .bad
def dOp (nv : Nat) (op : Op) : WO :=
  match op with
  | .move x => pv1 nv oMove x
  | .assign x => pv1 nv oMove x
  | .pick b x y => pv3 nv oPick b x y
  | .alloc t => dAlloc P t
  | .box _ x => ge1 nv oBox x
  | .build t ps => dBuild P nv t ps
  | .buildSlice t n ps => dBuildSlice P nv t n ps
  | .load t x => dLoad P nv t x
  | .store t x y => dStore P nv t x y
  | .binOp op t x y _ => pv2 nv (oBin P op t x y) x y
  | .unOp op _ x => pv1 nv (oUn P op) x
  | .convert s d x => pv1 nv (oConv P s d) x
  | .makeFunc fn xs ys => dMakeFunc nv fn xs ys
  | .makeMap _ none => .ge oMakeMap
  | .makeSlice t x y => dMakeSlice P nv t x y
  | .slice t x lo hi mx => dSlice P nv t x lo hi mx
  | .fieldAddr t x f => dFieldAddr P nv t x f
  | .field t x f => dField P nv t x f
  | .indexAddr t x y => dIndexAddr P nv t x y
  | .index t x y => dIndex P nv t x y
  | .extract x i => pv1 nv (fun x => oExtract x i) x
  | .nilCheck x => pv1 nv oNil x
  | .call c => dCall P nv c
  | _ => .bad
structure Rec1 where
  M : List Nat
  T : Option (List Nat)
  A : Hp → Bool
  H : Hp
def never : Hp → Bool := fun _ => false
def sameV (x y : Value) : Bool :=
  match x, y with
  | .int .i64 m, .int .i64 n => eqI m n
  | .bool a, .bool b => Bool.rec (not b) b a
  | _, _ => false
def groundE (l : List (Value × Value)) : Bool := List.rec true (fun p _ ih => Bool.rec false ih (ground p.2)) l
def groundRow (x : Option Row) : Bool := match x with | some (.map es _) => groundE es | _ => false
def againV (x y : LV) (h : Hp) : Bool :=
  match x, y with
  | .v u r, .v v s => Nat.beq r s && sameV u v && groundRow (hget h r)
  | _, _ => false
def logZ (z : Z) (M : List Nat) : Z := ⟨z.n0, z.rd, z.D, logs z.n0 M z.log⟩
inductive Dst where
  | no
  | var (s : Value → Vs → Vs)
  | tmp (t : Nat)
def putK (d : Dst) (v : Value) (k : K) : K :=
  match d with
  | .no => k
  | .var s => fun ih z vs ts h nx => k ih z (s v vs) ts h nx
  | .tmp t => fun ih z vs ts h nx => k ih z vs ((t, v) :: ts) h nx
def vVar (s : Value → Vs → Vs) (f : OpV) (k : K) : K := fun ih z vs ts h nx => match f vs ts with | some v => forceLv VD (s v vs) fun vs => k ih z vs ts h nx | none => .no
def vTmp (t : Nat) (f : OpV) (k : K) : K := fun ih z vs ts h nx => match f vs ts with | some v => k ih z vs ((t, v) :: ts) h nx | none => .no
def lVar (s : Value → Vs → Vs) (f : OpL) (k : K) : K := fun ih z vs ts h nx => match f vs ts h with | .v v _ => forceLv VD (s v vs) fun vs => k ih z vs ts h nx | .no => .no
def lTmp (t : Nat) (f : OpL) (k : K) : K := fun ih z vs ts h nx => match f vs ts h with | .v v _ => k ih z vs ((t, v) :: ts) h nx | .no => .no
def outK (d : Dst) (k : K) (o : Out) (ih : Rec) (z : Z) (vs : Vs) (ts : Ts) (h : Hp) (nx : Nat) : R :=
  match o with
  | .bad => .no
  | .pur v => putK d v k ih z vs ts h nx
  | .rd v r => putK d v k ih z vs ts h nx
  | .new v h nx => forceLv HD h fun h => putK d v k ih z vs ts h nx
  | .wr h r => forceLv HD h fun h => putK d undef k ih (logZ z [r]) vs ts h nx
  | .gen v h nx M => (match M with | [] => putK d v k ih z vs ts h nx | M => forceLv HD h fun h => putK d v k ih (logZ z M) vs ts h nx)
def gAny (d : Dst) (f : OpF) (k : K) : K := fun ih z vs ts h nx => outK d k (f ih vs ts h nx) ih z vs ts h nx
inductive WK where
  | bad
  | mk (k : K)
def stepW (d : Dst) (o : WO) (k : K) : WK :=
  match o, d with
  | .pv f, .var s => .mk (vVar s f k)
  | .pv f, .tmp t => .mk (vTmp t f k)
  | .ld f, .var s => .mk (lVar s f k)
  | .ld f, .tmp t => .mk (lTmp t f k)
  | .ge f, d => .mk (gAny d f k)
  | _, _ => .bad
def gd (x : OpV) (b : Bool) (k k' : K) : K := fun ih z vs ts h nx =>
  match x vs ts with
  | some (.bool y) => Bool.rec (k' ih z vs ts h nx) (k ih z vs ts h nx) (y == b)
  | some _ => k' ih z vs ts h nx
  | none => .no
def dDst (nv n : Nat) (d : Option Nat) : Option Dst :=
  match d with
  | none => some .no
  | some t => Bool.rec none (Bool.rec (some (.tmp t)) (match mkSet VD t with | .mk s => some (.var s)) (Nat.blt t nv)) (Nat.blt t n)
def opAt (l : List Oper) (i : Nat) : Option Oper := (List.rec (fun _ => none) (fun v _ ih i => Nat.rec (some v) (fun j _ => ih j) i) l : Nat → Option Oper) i
def gdX (nv : Nat) (ops : List Oper) (j : Nat) : Option X :=
  match opAt ops j with
  | some g => (match g.dst with | some t => some (dX nv (.tmp t)) | none => none)
  | none => none
def withG (nv : Nat) (ops : List Oper) (o : Oper) (d : Dst) (k s : K) : WK :=
  match o.guard with
  | none => .mk s
  | some (j, b) => (match gdX nv ops j with
    | some (.mk x) => .mk (gd x b s (putK d undef k))
    | none => .bad)
def dOne (nv : Nat) (ops : List Oper) (o : Oper) (d : Dst) (k : K) : WK :=
  match stepW d (dOp P nv o.op) k with
  | .mk s => withG nv ops o d k s
  | .bad => .bad
def dOps (nv n : Nat) (ops : List Oper) (k : K) (l : List Oper) : WK :=
  List.rec (.mk k) (fun o _ ih => match ih, dDst nv n o.dst with
    | .mk k, some d => dOne P nv ops o d k
    | _, _ => .bad) l
abbrev KD := List Rec1 → K
def recOf (A : Hp → Bool) (h0 : Hp) (o : Out) : Rec1 :=
  match o with
  | .bad => ⟨[], some [], never, h0⟩
  | .pur _ => ⟨[], some [], never, h0⟩
  | .rd _ r => ⟨[], some [r], A, h0⟩
  | .new _ h _ => ⟨[], some [], never, h⟩
  | .wr h r => ⟨[r], some [r], never, h⟩
  | .gen _ h _ M => ⟨M, none, never, h⟩
def outD (A : Hp → Bool) (d : Dst) (k : KD) (o : Out) (rs : List Rec1) (ih : Rec) (z : Z) (vs : Vs) (ts : Ts) (h : Hp) (nx : Nat) : R :=
  match o with
  | .bad => .no
  | .pur v => putK d v (k (⟨[], some [], never, h⟩ :: rs)) ih z vs ts h nx
  | .rd v r => putK d v (k (⟨[], some [r], A, h⟩ :: rs)) ih z vs ts h nx
  | .new v h nx => putK d v (k (⟨[], some [], never, h⟩ :: rs)) ih z vs ts h nx
  | .wr h r => putK d undef (k (⟨[r], some [r], never, h⟩ :: rs)) ih (logZ z [r]) vs ts h nx
  | .gen v h nx M => putK d v (k (⟨M, none, never, h⟩ :: rs)) ih (logZ z M) vs ts h nx
def altO (o : WO) (vs : Vs) (ts : Ts) (h : Hp) : Hp → Bool :=
  match o with
  | .ld f => fun h2 => againV (f vs ts h) (f vs ts h2) h2
  | _ => never
def runO (o : WO) (ih : Rec) (vs : Vs) (ts : Ts) (h : Hp) (nx : Nat) : Out :=
  match o with
  | .bad => .bad
  | .pv f => (match f vs ts with | some v => .pur v | none => .bad)
  | .ld f => (match f vs ts h with | .v v r => .rd v r | .no => .bad)
  | .ge f => f ih vs ts h nx
def stepD (d : Dst) (o : WO) (k : KD) : KD := fun rs ih z vs ts h nx => outD (altO o vs ts h) d k (runO o ih vs ts h nx) rs ih z vs ts h nx
def gdD (x : OpV) (b : Bool) (d : Dst) (s k : KD) : KD := fun rs ih z vs ts h nx =>
  match x vs ts with
  | some (.bool y) => Bool.rec (putK d undef (k (⟨[], some [], never, h⟩ :: rs)) ih z vs ts h nx) (s rs ih z vs ts h nx) (y == b)
  | some _ => putK d undef (k (⟨[], some [], never, h⟩ :: rs)) ih z vs ts h nx
  | none => .no
inductive WD where
  | bad
  | mk (k : KD)
def dOneD (nv : Nat) (ops : List Oper) (o : Oper) (d : Dst) (k : KD) : WD :=
  match o.guard with
  | none => .mk (stepD d (dOp P nv o.op) k)
  | some (j, b) => (match gdX nv ops j with
    | some (.mk x) => .mk (gdD x b d (stepD d (dOp P nv o.op) k) k)
    | none => .bad)
def dOpsD (nv n : Nat) (ops : List Oper) (k : KD) (l : List Oper) : WD :=
  List.rec (.mk k) (fun o _ ih => match ih, dDst nv n o.dst with
    | .mk k, some d => dOneD P nv ops o d k
    | _, _ => .bad) l
def disj (a b : List Nat) : Bool := a.all fun x => b.all fun y => not (Nat.beq x y)
def apart1 (ops : Array Oper) (rs : List Rec1) (k : Nat) (M : List Nat) (hk : Hp) : Bool :=
  rs.zipIdx.all fun (r, j) => Nat.beq j k || ((Region.before ops).getD (max j k) 0).testBit (min j k) || (match r.T with | some T => disj T M | none => false) || (Nat.blt j k && r.A hk)
def apartR (ops : Array Oper) (rs : List Rec1) : Bool :=
  rs.zipIdx.all fun (r, k) => (match r.M with | [] => true | M => apart1 ops rs k M r.H)
def endD (ops : Array Oper) (k : K) : KD := fun rs ih z vs ts h nx => Bool.rec .no (k ih z vs ts h nx) (apartR ops rs.reverse)
def kReg (k : K) : K := fun ih z vs _ h nx => k ih z vs [] h nx
def w1 (k : K → K) (a : WK) : WK := match a with | .mk f => .mk (k f) | _ => .bad
def w2 (k : K → K → K) (a b : WK) : WK := match a, b with | .mk f, .mk g => .mk (k f g) | _, _ => .bad
def bindW (a : WK) (f : K → WK) : WK := match a with | .mk k => f k | .bad => .bad
def namesOf (ops : List Oper) (o : Oper) : List Nat :=
  List.rec (List.rec (match o.guard with | none => [] | some (j, _) => (match opAt ops j with | some g => (match g.dst with | some t => [t] | none => []) | none => []))
    (fun x _ ih => match x with | .tmp t => t :: ih | _ => ih) o.op.operands.toList) (fun t _ ih => t :: ih) o.dst.toList
def namesOk (ops : Array Oper) : Bool :=
  ops.toList.zipIdx.all fun (o, j) => (namesOf ops.toList o).all fun t => ops.toList.zipIdx.all fun (o', i) =>
    Nat.beq i j || (match o'.dst with | some d => not (Nat.beq d t) || ((Region.before ops).getD (max i j) 0).testBit (min i j) | none => true)
def edgesOk (ops : Array Oper) : Bool :=
  ops.toList.zipIdx.all fun (o, i) => o.after.toList.all fun e => not (Region.binds .any e) || Nat.blt e.on i
def dRegion (nv n : Nat) (ops : Array Oper) (draw : Bool) (k : K) : WK :=
  Bool.rec (w1 kReg (dOps P nv n ops.toList k ops.toList))
    (Bool.rec .bad (match dOpsD P nv n ops.toList (endD ops k) ops.toList with | .mk f => .mk (kReg (f [])) | .bad => .bad) (and (edgesOk ops) (namesOk ops))) draw
def kNor : K := fun _ z vs _ h nx => .nor z vs h nx
def kExit (id : Nat) : K := fun _ z vs _ h nx => .exi id z vs h nx
def kRet : K := fun _ z vs _ h nx => .ret z vs h nx
def kCond (x : OpV) (a b : K) : K := fun ih z vs ts h nx =>
  match x vs ts with
  | some (.bool t) => Bool.rec (b ih z vs ts h nx) (a ih z vs ts h nx) t
  | _ => .no
def kBlock (id : Nat) (a k : K) : K := fun ih z vs ts h nx =>
  match a ih z vs ts h nx with
  | .nor z vs h nx => k ih z vs [] h nx
  | .exi j z vs h nx => Bool.rec (.exi j z vs h nx) (k ih z vs [] h nx) (Nat.beq j id)
  | r => r
def rounds (a : K) (n : Nat) : Rec → Z → Vs → Hp → Nat → R :=
  Nat.rec (fun ih z vs h nx => a ih z vs [] h nx) (fun _ go ih z vs h nx => match go ih z vs h nx with
    | .nor z vs h nx => go ih z vs h nx
    | r => r) n
def kLoop (a : K) : K := fun ih z vs _ h nx =>
  match rounds a 62 ih z vs h nx with
  | .nor _ _ _ _ => .no
  | r => r
def rangeEnd (l : Nat) (o : Out) (k : K) (ih : Rec) (z : Z) (vs : Vs) : R :=
  match o with
  | .gen _ h nx M => (match hget h l with
    | some (.loop true none _ _ _ _ _ _ _) => k ih (logZ z M) vs [] (hset h l .dead) nx
    | some (.loop false (some .ret) _ _ _ _ _ _ _) => .ret (logZ z M) vs (hset h l .dead) nx
    | some (.loop false (some (.exit id)) _ _ _ _ _ _ _) => .exi id (logZ z M) vs (hset h l .dead) nx
    | _ => .no)
  | _ => .no
def rangeGo (nv n : Nat) (ps : List Nat) (asg body : Code) (k : K) (g : Value) (d : Nat) (ih : Rec) (z : Z) (vs : Vs) (h : Hp) (l : Nat) : R :=
  match g with
  | .func (.func f) xs ys =>
    Bool.rec .no (rangeEnd l (callF f (xs.toList ++ [.func (.yield l) #[] #[]] ++ ys.toList) ih (hset h l (.loop true none nv n vs ps asg body d)) (Nat.succ l)) k ih z vs) (room l)
  | _ => .no
def kRange (nv n : Nat) (g : OpV) (ps : List Nat) (asg body : Code) (k : K) : K := fun ih z vs ts h nx =>
  match g vs ts with
  | some g => (match z.rd with
    | none => Bool.rec .no (rangeGo nv n ps asg body k g nx ih ⟨z.n0, z.rd, nx :: z.D, z.log⟩ vs (hset h nx .deferred) (Nat.succ nx)) (room nx)
    | some l => (match hget h l with
      | some (.loop _ _ _ _ _ _ _ _ d) => rangeGo nv n ps asg body k g d ih z vs h nx
      | _ => .no))
  | none => .no
def dCode (nv n : Nat) (c : Code) : K → WK :=
  Code.rec (fun k => .mk k) (fun _ ops draw k => dRegion P nv n ops draw k) (fun _ _ a b k => bindW (b k) a)
    (fun x _ _ a b k => match dX nv x with | .mk f => w2 (kCond f) (a k) (b k))
    (fun id _ a k => w1 (fun f => kBlock id f k) (a kNor)) (fun _ a _ => w1 kLoop (a kNor))
    (fun g ps asg body _ _ k => match dX nv g with | .mk f => .mk (kRange nv n f ps.toList asg body k))
    (fun id _ => .mk (kExit id)) (fun _ a k => a k) (fun _ k => .mk k) (fun _ _ => .bad) (fun _ => .mk kRet) (fun _ _ => .bad) c
def enum (l : List Value) (i : Nat) : Vs := (List.rec (fun _ => Lv.nil Value VD) (fun v _ ih i => Lv.set VD i v (ih (Nat.succ i))) l : Nat → Vs) i
inductive XR where
  | x (x : OpV)
  | cell (x : OpV) (agg : Bool) (size : Nat)
  | bad
def dRes (nv : Nat) (r : ResultVar) : XR :=
  match r with
  | .tmp t => (match dX nv (.tmp t) with | .mk f => .x f)
  | .cell a t => (match ty P t, dX nv (.tmp a) with | some i, .mk f => .cell f i.agg i.size | none, _ => .bad)
def resOf (r : XR) (vs : Vs) (h : Hp) : Option Value :=
  match r with
  | .x x => x vs []
  | .cell x agg size => (match x vs [] with
    | some (.pointer (some ⟨r, o, none⟩)) => loadAt agg size h r o
    | _ => none)
  | .bad => none
def resL (l : List XR) (vs : Vs) (h : Hp) : Option (List Value) :=
  List.rec (some []) (fun x _ ih => match resOf x vs h with | some v => (match ih with | some us => some (v :: us) | none => none) | none => none) l
def tup (l : List Value) : Value := match l with | [v] => v | l => .tuple l.toArray
def shut (D : List Nat) (h : Hp) : Option Hp :=
  (List.rec (fun h => some h) (fun d _ ih h => match hget h d with | some .deferred => ih (hset h d .dead) | _ => none) D : Hp → Option Hp) h
variable (nvs : List (Nat × Nat))
def nvOf (f : Nat) : Nat := List.rec 0 (fun p _ ih => Bool.rec ih p.2 (Nat.beq p.1 f)) nvs
inductive WF where
  | bad
  | mk (f : K) (rs : List XR) (n nv : Nat)
def dFn (f : FuncId) : WF :=
  match P.funcs[f]? with
  | some fn => (match fn.body with
    | some body => (match dCode P (nvOf nvs f) fn.ntmps body kNor with
      | .mk g => Bool.rec .bad (.mk g (fn.results.toList.map (dRes P (nvOf nvs f))) fn.ntmps (nvOf nvs f)) (and (hasBody P f) (Nat.ble (nvOf nvs f) (nvOf nvs f)))
      | .bad => .bad)
    | none => .bad)
  | none => .bad
def leave (rs : List XR) (z : Z) (vs : Vs) (h : Hp) (nx : Nat) : R :=
  match shut z.D h with
  | some h' => (match resL rs vs h' with
    | some us => .val (tup us) h' nx z.log
    | none => .no)
  | none => .no
def fin (rs : List XR) (r : R) : R :=
  match r with
  | .nor z vs h nx => leave rs z vs h nx
  | .ret z vs h nx => leave rs z vs h nx
  | _ => .no
def exCall (f : FuncId) (args : List Value) (ih : Rec) (h : Hp) (nx : Nat) : R :=
  match dFn P nvs f with
  | .mk g rs n nv => bif Nat.ble args.length n && Nat.ble args.length nv then fin rs (g ih ⟨nx, none, [], []⟩ (enum args 0) [] h nx) else .no
  | .bad => .no
def exCode (c : Code) (nv n : Nat) (z : Z) (vs : Vs) (ih : Rec) (h : Hp) (nx : Nat) : R :=
  match dCode P nv n c kNor with
  | .mk g => g ih z vs [] h nx
  | .bad => .no
def exTask (t : Task) (ih : Rec) : Hp → Nat → R :=
  match t with
  | .call f args => exCall P nvs f args ih
  | .code c nv n z vs => exCode P c nv n z vs ih
def exec (n : Nat) : Rec := Nat.rec (fun _ _ _ => .no) (fun _ ih t => exTask P nvs t ih) n
end Lm
end Go
namespace Go
namespace Lm
class Lo where
  lo : Nat → Nat
  arg : Nat
  new : ∀ r, arg ≤ r → lo r = 0
  gl : ∀ g, g < NG → lo g = 0
  odd : Nat
  oddlt : odd < arg
theorem Lo.nz [Lo] {nx : Nat} (h : Lo.arg ≤ nx) : Lo.lo nx ≤ 0 := by rw [Lo.new nx h]; exact Nat.le_refl _
theorem Lo.gz [Lo] {g : Nat} (h : g < NG) : Lo.lo g ≤ 0 := by rw [Lo.gl g h]; exact Nat.le_refl _
variable [Lo]
structure Ren where
  blk : Nat → Option Nat
  cap : Nat → Nat
def Ren.le (R R' : Ren) : Prop := ∀ r b, R.blk r = some b → R'.blk r = some b ∧ R'.cap r = R.cap r
omit [Lo] in
theorem Ren.le.refl (R : Ren) : R.le R := fun _ _ h => ⟨h, rfl⟩
omit [Lo] in
theorem Ren.le.trans {R S T : Ren} (h : R.le S) (k : S.le T) : R.le T := fun r b hb =>
  ⟨(k r b (h r b hb).1).1, (k r b (h r b hb).1).2.trans (h r b hb).2⟩
def capOk (R : Ren) (r c c' : Nat) : Prop := (c < HALF ∧ c' = c) ∨ (HALF ≤ c ∧ c ≤ SENT ∧ c' + (SENT - c) = R.cap r)
omit [Lo] in
theorem capOk.mono {R S : Ren} (h : R.le S) {r b c c' : Nat} (hb : R.blk r = some b) (k : capOk R r c c') : capOk S r c c' := by
  rcases k with k | ⟨k1, k2, k3⟩
  · exact .inl k
  · exact .inr ⟨k1, k2, by rw [(h r b hb).2]; exact k3⟩
inductive VR [Lo] (R : Ren) : Value → Value → Prop where
  | bool (b : Bool) : VR R (.bool b) (.bool b)
  | int (k : IntKind) (n : Int) : VR R (.int k n) (.int k n)
  | string (s : ByteArray) : VR R (.string s) (.string s)
  | ptr0 : VR R (.pointer none) (.pointer none)
  | ptr {r b : Nat} (o : Nat) (h : R.blk r = some b) (hl : Lo.lo r ≤ o) : VR R (.pointer (some ⟨r, o, none⟩)) (.pointer (some ⟨b, o, none⟩))
  | slice0 (n c : Nat) : VR R (.slice none n c) (.slice none n c)
  | sliceW {o : Nat} (a : Addr) : VR R (.slice (some ⟨Lo.odd, o, none⟩) 0 0) (.slice (some a) 0 0)
  | slice {r b : Nat} (o n : Nat) {c c' : Nat} (h : R.blk r = some b) (hl : Lo.lo r ≤ o) (hc : capOk R r c c') (hn : n ≤ c') : VR R (.slice (some ⟨r, o, none⟩) n c) (.slice (some ⟨b, o, none⟩) n c')
  | map0 : VR R (.map none) (.map none)
  | map {r b : Nat} (h : R.blk r = some b) : VR R (.map (some r)) (.map (some b))
  | nilFunc : VR R .nilFunc .nilFunc
  | nilIface : VR R .nilIface .nilIface
  | fn (f : FuncId) {xs xs' ys ys' : Array Value} (hx : xs.size = xs'.size) (hxs : ∀ (i : Nat) x x', xs[i]? = some x → xs'[i]? = some x' → VR R x x')
      (hy : ys.size = ys'.size) (hys : ∀ (i : Nat) x x', ys[i]? = some x → ys'[i]? = some x' → VR R x x') : VR R (.func (.func f) xs ys) (.func (.func f) xs' ys')
  | yld {r b : Nat} (h : R.blk r = some b) : VR R (.func (.yield r) #[] #[]) (.func (.yield b) #[] #[])
  | agg {xs xs' : Array Value} (hx : xs.size = xs'.size) (hxs : ∀ (i : Nat) x x', xs[i]? = some x → xs'[i]? = some x' → VR R x x') (h1 : ∀ (i : Nat) x, xs[i]? = some x → x.oneCell' = true) :
      VR R (.agg xs) (.agg xs')
  | tuple {xs xs' : Array Value} (hx : xs.size = xs'.size) (hxs : ∀ (i : Nat) x x', xs[i]? = some x → xs'[i]? = some x' → VR R x x') : VR R (.tuple xs) (.tuple xs')
theorem VR.mono {R S : Ren} (h : R.le S) {v v' : Value} (k : VR R v v') : VR S v v' := by
  induction k with
  | bool b => exact .bool b
  | int k n => exact .int k n
  | string s => exact .string s
  | ptr0 => exact .ptr0
  | ptr o hb hl => exact .ptr o (h _ _ hb).1 hl
  | sliceW a => exact .sliceW a
  | slice0 n c => exact .slice0 n c
  | slice o n hb hl hc hn => exact .slice o n (h _ _ hb).1 hl (hc.mono h hb) hn
  | map0 => exact .map0
  | map hb => exact .map (h _ _ hb).1
  | nilFunc => exact .nilFunc
  | nilIface => exact .nilIface
  | fn f hx _ hy _ ih1 ih2 => exact .fn f hx ih1 hy ih2
  | yld hb => exact .yld (h _ _ hb).1
  | agg hx _ h1 ih => exact .agg hx ih h1
  | tuple hx _ ih => exact .tuple hx ih
def VL (R : Ren) (l l' : List Value) : Prop := l.length = l'.length ∧ ∀ (i : Nat) x x', l[i]? = some x → l'[i]? = some x' → VR R x x'
theorem VL.nil (R : Ren) : VL R [] [] := ⟨rfl, by simp⟩
theorem VL.cons {R : Ren} {x x' : Value} {l l' : List Value} (h : VR R x x') (k : VL R l l') : VL R (x :: l) (x' :: l') := by
  refine ⟨by simp [k.1], fun i y y' hy hy' => ?_⟩
  cases i with
  | zero => simp at hy hy'; subst hy hy'; exact h
  | succ i => exact k.2 i y y' (by simpa using hy) (by simpa using hy')
theorem VL.tail {R : Ren} {x x' : Value} {l l' : List Value} (k : VL R (x :: l) (x' :: l')) : VR R x x' ∧ VL R l l' :=
  ⟨k.2 0 x x' rfl rfl, by simpa using k.1, fun i y y' hy hy' => k.2 (i + 1) y y' (by simpa using hy) (by simpa using hy')⟩
theorem VL.of_cons {R : Ren} {x : Value} {l m : List Value} (k : VL R (x :: l) m) : ∃ x' l', m = x' :: l' ∧ VR R x x' ∧ VL R l l' := by
  cases m with
  | nil => simp [VL] at k
  | cons x' l' => exact ⟨x', l', rfl, k.tail.1, k.tail.2⟩
theorem VL.of_nil {R : Ren} {m : List Value} (k : VL R [] m) : m = [] := by
  cases m with
  | nil => rfl
  | cons x' l' => simp [VL] at k
theorem VL.mono {R S : Ren} (h : R.le S) {l l' : List Value} (k : VL R l l') : VL S l l' := ⟨k.1, fun i x x' a b => (k.2 i x x' a b).mono h⟩
theorem VL.get {R : Ren} {l l' : List Value} (k : VL R l l') {i : Nat} {x : Value} (h : l[i]? = some x) : ∃ x', l'[i]? = some x' ∧ VR R x x' := by
  have hi : i < l'.length := by rw [← k.1]; exact (List.getElem?_eq_some_iff.1 h).1
  exact ⟨l'[i], List.getElem?_eq_getElem hi, k.2 i _ _ h (List.getElem?_eq_getElem hi)⟩
theorem VL.append {R : Ren} {l l' m m' : List Value} (h : VL R l l') (k : VL R m m') : VL R (l ++ m) (l' ++ m') := by
  induction l generalizing l' with
  | nil => cases h.of_nil; exact k
  | cons x l ih => obtain ⟨x', l', rfl, h1, h2⟩ := h.of_cons; exact .cons h1 (ih h2)
theorem VL.drop {R : Ren} {l l' : List Value} (h : VL R l l') (n : Nat) : VL R (l.drop n) (l'.drop n) := by
  refine ⟨by simp [h.1], fun i x x' a b => h.2 (n + i) x x' ?_ ?_⟩
  · rw [List.getElem?_drop] at a; exact a
  · rw [List.getElem?_drop] at b; exact b
theorem VL.take {R : Ren} {l l' : List Value} (h : VL R l l') (n : Nat) : VL R (l.take n) (l'.take n) := by
  refine ⟨by simp [h.1], fun i x x' a b => ?_⟩
  rw [List.getElem?_take] at a b
  split at a
  · exact h.2 i x x' a (by simpa [*] using b)
  · simp at a
theorem VL.of_arr {R : Ren} {xs xs' : Array Value} (hx : xs.size = xs'.size) (h : ∀ (i : Nat) x x', xs[i]? = some x → xs'[i]? = some x' → VR R x x') : VL R xs.toList xs'.toList :=
  ⟨by simpa using hx, fun i x x' a b => h i x x' (by simpa using a) (by simpa using b)⟩
theorem VL.arr {R : Ren} {l l' : List Value} (h : VL R l l') : (l.toArray).size = (l'.toArray).size ∧ ∀ (i : Nat) x x', (l.toArray)[i]? = some x → (l'.toArray)[i]? = some x' → VR R x x' :=
  ⟨by simpa using h.1, fun i x x' a b => h.2 i x x' (by simpa using a) (by simpa using b)⟩
theorem VR.oneCell {R : Ren} {v v' : Value} (h : VR R v v') : v'.oneCell' = v.oneCell' := by cases h <;> rfl
omit [Lo] in
theorem nth_eq (l : List Value) (i : Nat) : nth l i = l[i]? := by
  unfold nth
  induction l generalizing i with
  | nil => rfl
  | cons x l ih => cases i with
    | zero => rfl
    | succ i => simpa using ih i
omit [Lo] in
theorem dropL_eq (n : Nat) (l : List Value) : dropL n l = l.drop n := by
  unfold dropL
  induction n generalizing l with
  | zero => rfl
  | succ n ih => cases l with
    | nil => simp
    | cons x l => simpa using ih l
omit [Lo] in
theorem takeL_zero (l : List Value) : takeL 0 l = some [] := rfl
omit [Lo] in
theorem takeL_nil (n : Nat) : takeL (n + 1) [] = none := rfl
omit [Lo] in
theorem takeL_cons (n : Nat) (x : Value) (l : List Value) : takeL (n + 1) (x :: l) = match takeL n l with | some y => some (x :: y) | none => none := rfl
omit [Lo] in
theorem takeL_eq {n : Nat} {l m : List Value} (h : takeL n l = some m) : n ≤ l.length ∧ m = l.take n := by
  induction n generalizing l m with
  | zero => rw [takeL_zero] at h; cases h; exact ⟨Nat.zero_le _, by simp⟩
  | succ n ih => cases l with
    | nil => rw [takeL_nil] at h; cases h
    | cons x l =>
      rw [takeL_cons] at h
      split at h
      · rename_i y hy
        obtain ⟨h1, h2⟩ := ih hy
        cases h
        exact ⟨by simp; omega, by simp [h2]⟩
      · cases h
omit [Lo] in
theorem splice_n (o : Nat) : splice [] o [] = some [] := rfl
omit [Lo] in
theorem splice_x (o : Nat) (v : Value) (vs : List Value) : splice [] o (v :: vs) = none := rfl
omit [Lo] in
theorem splice_z (x : Value) (c : List Value) : splice (x :: c) 0 [] = some (x :: c) := rfl
omit [Lo] in
theorem splice_c (x : Value) (c : List Value) (v : Value) (vs : List Value) : splice (x :: c) 0 (v :: vs) = match splice c 0 vs with | some y => some (v :: y) | none => none := rfl
omit [Lo] in
theorem splice_s (x : Value) (c : List Value) (o : Nat) (vs : List Value) : splice (x :: c) (o + 1) vs = match splice c o vs with | some y => some (x :: y) | none => none := rfl
omit [Lo] in
theorem splice_eq {c : List Value} {o : Nat} {vs d : List Value} (h : splice c o vs = some d) :
    (vs = [] ∨ o + vs.length ≤ c.length) ∧ d.length = c.length ∧ ∀ i, d[i]? = if o ≤ i ∧ i < o + vs.length then vs[i - o]? else c[i]? := by
  induction c generalizing o vs d with
  | nil =>
    cases vs with
    | nil => rw [splice_n] at h; cases h; exact ⟨.inl rfl, rfl, fun i => by simp⟩
    | cons v vs => rw [splice_x] at h; cases h
  | cons x c ih =>
    cases o with
    | zero =>
      cases vs with
      | nil => rw [splice_z] at h; cases h; exact ⟨.inl rfl, rfl, fun i => by simp⟩
      | cons v vs =>
        rw [splice_c] at h
        split at h
        · rename_i y hy
          obtain ⟨h1, h2, h3⟩ := ih hy
          cases h
          refine ⟨.inr ?_, by simp [h2], fun i => ?_⟩
          · rcases h1 with rfl | h1
            · simp
            · simp at h1 ⊢; omega
          · cases i with
            | zero => simp
            | succ i =>
              have := h3 i
              simp at this ⊢
              rw [this]
        · cases h
    | succ o =>
      rw [splice_s] at h
      split at h
      · rename_i y hy
        obtain ⟨h1, h2, h3⟩ := ih hy
        cases h
        refine ⟨h1.imp id (fun h => by simp; omega), by simp [h2], fun i => ?_⟩
        cases i with
        | zero => simp
        | succ i =>
          have := h3 i
          simp only [List.getElem?_cons_succ, this]
          have e : i + 1 - (o + 1) = i - o := by omega
          rw [e]
          have e2 : (o + 1 ≤ i + 1 ∧ i + 1 < o + 1 + vs.length) ↔ (o ≤ i ∧ i < o + vs.length) := by omega
          simp only [e2]
      · cases h
omit [Lo] in
theorem find_cons (t : Nat) (p : Nat × Value) (l : Ts) : find t (p :: l) = if p.1 = t then some p.2 else find t l := by
  show (Bool.rec (find t l) (some p.2) (Nat.beq p.1 t) : Option Value) = _
  by_cases h : p.1 = t
  · have : Nat.beq p.1 t = true := by rw [Nat.beq_eq]; exact h
    rw [this, if_pos h]
  · have : Nat.beq p.1 t = false := by
      cases hb : Nat.beq p.1 t with
      | false => rfl
      | true => exact absurd (Nat.eq_of_beq_eq_true hb) h
    rw [this, if_neg h]
section
variable {α : Type}
omit [Lo] in
theorem forceLv_eq {β : Type} (d : Nat) (x : Lv α d) (k : Lv α d → β) : forceLv d x k = k x := rfl
omit [Lo] in
theorem Lv.get_nil (d k : Nat) : Lv.get d k (Lv.nil α d) = none := rfl
omit [Lo] in
theorem Lv.get_set (d k j : Nat) (a : α) (p : Lv α d) (_ : k ≤ k) (_ : j ≤ j) : Lv.get d j (Lv.set d k a p) = if j = k then some a else Lv.get d j p := rfl
omit [Lo] in
theorem mkGet_eq (d k : Nat) : ∃ g, mkGet (α := α) d k = .mk g ∧ ∀ p, g p = Lv.get d k p := ⟨_, rfl, fun _ => rfl⟩
omit [Lo] in
theorem mkSet_eq (d k : Nat) : ∃ s, mkSet (α := α) d k = .mk s ∧ ∀ a p, s a p = Lv.set d k a p := ⟨_, rfl, fun _ _ => rfl⟩
end
omit [Lo] in
theorem forceN_eq {β : Type} (n : Nat) (k : Nat → β) : forceN n k = k n := by cases n <;> rfl
omit [Lo] in
theorem forceI_eq {β : Type} (n : Int) (k : Int → β) : forceI n k = k n := by
  cases n with
  | ofNat n => exact forceN_eq n fun n => k (.ofNat n)
  | negSucc n => exact forceN_eq n fun n => k (.negSucc n)
omit [Lo] in
theorem blt_eq {a b : Nat} : Nat.blt a b = decide (a < b) := by
  cases h : Nat.blt a b with
  | true => simp [Nat.blt, Nat.ble_eq] at h ⊢; omega
  | false =>
    have : ¬ a < b := fun h' => by
      have : Nat.blt a b = true := by simp [Nat.blt, Nat.ble_eq]; omega
      rw [this] at h; cases h
    simp [this]
omit [Lo] in
theorem ble_eq' {a b : Nat} : Nat.ble a b = decide (a ≤ b) := by
  cases h : Nat.ble a b with
  | true => simp [Nat.le_of_ble_eq_true h]
  | false =>
    have : ¬ a ≤ b := fun h' => by rw [Nat.ble_eq_true_of_le h'] at h; cases h
    simp [this]
omit [Lo] in
theorem beq_eq' {a b : Nat} : Nat.beq a b = decide (a = b) := by
  cases h : Nat.beq a b with
  | true => simp [Nat.eq_of_beq_eq_true h]
  | false =>
    have : ¬ a = b := fun h' => by subst h'; rw [Nat.beq_refl] at h; cases h
    simp [this]
omit [Lo] in
theorem mkI_eq (k : IntKind) (i : Int) : mkI k i = some (.int k i) := by unfold mkI; rw [forceI_eq]
omit [Lo] in
theorem mkB_eq (b : Bool) : mkB b = some (.bool b) := by cases b <;> rfl
omit [Lo] in
theorem ltI_eq (a b : Int) : ltI a b = decide (a < b) := by
  cases a <;> cases b <;> simp only [ltI, blt_eq] <;> simp <;> omega
omit [Lo] in
theorem eqI_eq (a b : Int) : eqI a b = (a == b) := by
  have e : ∀ (x y : Int), (x == y) = decide (x = y) := fun x y => by
    by_cases h : x = y <;> simp [h]
  rw [e]
  cases a <;> cases b <;> simp only [eqI, beq_eq'] <;> simp <;> omega
end Lm
end Go
namespace Go
namespace Lm
variable [Lo]
variable {P : Program}
omit [Lo] in
theorem ty_eq {t : TypeId} {i : TI} (h : ty P t = some i) :
    ∃ f, P.info? t = some f ∧ P.underlying t = some i.desc ∧ f.size = i.size ∧ f.bytes = i.bytes ∧ f.zero = i.zero ∧ i.agg = isAggD i.desc := by
  unfold ty at h
  split at h
  · rename_i f d hf hd
    cases h
    exact ⟨f, hf, hd, rfl, rfl, rfl, rfl⟩
  · cases h
omit [Lo] in
theorem run_typeInfo' {t : TypeId} {f : TypeInfo} (h : P.info? t = some f) (w : World) : (typeInfo t).run P w = .ok f w := by
  simp [typeInfo, Sem.run_bind, h, Result.andThen]
omit [Lo] in
theorem run_sizeOf' {t : TypeId} {i : TI} (h : ty P t = some i) (w : World) : (sizeOf t).run P w = .ok i.size w := by
  obtain ⟨f, hf, _, hs, _⟩ := ty_eq h
  simp [sizeOf, Sem.run_bind, run_typeInfo' hf, Result.andThen, hs]
omit [Lo] in
theorem run_under {t : TypeId} {i : TI} (h : ty P t = some i) (w : World) : (underlying t).run P w = .ok i.desc w := by
  obtain ⟨f, _, hd, _⟩ := ty_eq h
  exact run_underlying hd w
omit [Lo] in
theorem run_isAgg' {t : TypeId} {i : TI} (h : ty P t = some i) (w : World) : (isAgg t).run P w = .ok i.agg w := by
  obtain ⟨f, _, _, _, _, _, ha⟩ := ty_eq h
  unfold isAgg
  rw [Sem.run_bind, run_under h, ha]
  simp only [Result.andThen_ok]
  cases i.desc <;> rfl
omit [Lo] in
theorem run_zero {t : TypeId} {i : TI} {z : Value} (h : ty P t = some i) (hz : i.zero = some z) (w : World) : (zeroValue t).run P w = .ok z w := by
  obtain ⟨f, hf, _, _, _, h0, _⟩ := ty_eq h
  simp [zeroValue, Sem.run_bind, run_typeInfo' hf, Result.andThen, h0, hz]
omit [Lo] in
theorem pureOf_run {α : Type} {s : Sem α} {x : α} (h : pureOf P s = some x) (w : World) : s.run P w = .ok x w := by
  induction s with
  | pure a => simp [pureOf] at h; subst h; rfl
  | program k ih => exact ih P (by simpa [pureOf] using h)
  | mark m k ih => exact ih (by simpa [pureOf] using h)
  | _ => simp [pureOf] at h
theorem flat_vr {v : Value} (h : flat v = true) (R : Ren) : VR R v v := by
  unfold flat at h
  split at h <;> first | (cases h; done) | skip
  · exact .bool _
  · exact .int _ _
  · exact .string _
  · exact .ptr0
  · exact .slice0 _ _
  · exact .map0
  · exact .nilFunc
  · exact .nilIface
theorem flat_eq {v v' : Value} {R : Ren} (h : flat v = true) (k : VR R v v') : v' = v := by
  cases k <;> first | rfl | (simp [flat] at h)
omit [Lo] in
theorem flat_one {v : Value} (h : flat v = true) : v.oneCell' = true := by
  unfold flat at h
  split at h <;> first | (cases h; done) | rfl
omit [Lo] in
theorem groundL_all {f : Value → Bool} {l : List Value} (h : groundL f l = true) : ∀ (i : Nat) x, l[i]? = some x → f x = true := by
  induction l with
  | nil => intro i x hx; simp at hx
  | cons y l ih =>
    have e : groundL f (y :: l) = (Bool.rec false (groundL f l) (f y) : Bool) := rfl
    rw [e] at h
    cases hy : f y with
    | false => rw [hy] at h; cases h
    | true =>
      rw [hy] at h
      intro i x hx
      cases i with
      | zero => simp at hx; subst hx; exact hy
      | succ i => exact ih h i x (by simpa using hx)
theorem ground_vr {v : Value} (h : ground v = true) (R : Ren) : VR R v v := by
  unfold ground at h
  split at h
  · have hg := groundL_all h
    refine .agg rfl (fun i x x' a b => ?_) (fun i x a => flat_one (hg i x (by simpa using a)))
    rw [a] at b; cases b
    exact flat_vr (hg i x (by simpa using a)) R
  · have hg := groundL_all h
    refine .tuple rfl (fun i x x' a b => ?_)
    rw [a] at b; cases b
    exact flat_vr (hg i x (by simpa using a)) R
  · exact flat_vr h R
theorem arr_eq {R : Ren} {xs xs' : Array Value} (hx : xs.size = xs'.size) (hxs : ∀ (i : Nat) x x', xs[i]? = some x → xs'[i]? = some x' → VR R x x')
    (hg : ∀ (i : Nat) x, xs[i]? = some x → flat x = true) : xs' = xs := by
  apply Array.ext hx.symm
  intro i h1 h2
  have a : xs[i]? = some xs[i] := Array.getElem?_eq_getElem h2
  have b : xs'[i]? = some xs'[i] := Array.getElem?_eq_getElem h1
  exact flat_eq (hg i _ a) (hxs i _ _ a b)
theorem ground_eq {v v' : Value} {R : Ren} (h : ground v = true) (k : VR R v v') : v' = v := by
  cases k with
  | agg hx hxs h1 =>
    have hg := groundL_all (show groundL flat _ = true from h)
    rw [arr_eq hx hxs (fun i x a => hg i x (by simpa using a))]
  | tuple hx hxs =>
    have hg := groundL_all (show groundL flat _ = true from h)
    rw [arr_eq hx hxs (fun i x a => hg i x (by simpa using a))]
  | _ => first | rfl | (simp [ground, flat] at h)
omit [Lo] in
theorem wrapI_eq (k : IntKind) (n : Int) : wrapI k n = k.wrap n := by
  unfold wrapI
  split
  · rename_i m
    cases h : Nat.blt m 2147483648 with
    | false => rfl
    | true =>
      rw [blt_eq] at h
      simp at h
      cases k <;> simp only [cond_true]
      simp [IntKind.wrap, IntKind.bits, IntKind.signed]
      split <;> omega
  · rfl
omit [Lo] in
theorem fast_run {op : BinOp} {k k' : IntKind} {m n : Int} {v : Value} (hf : fastOp op = true) (hs : same k k' = true) (h : intOp op k m n = some v) (t : TypeId) (x y : Operand) (w : World) :
    (do eqGuard op t x y (.int k m) (.int k' n); binOp op t (.int k m) (.int k' n) : Sem Value).run P w = .ok v w := by
  have hk : k = .i64 ∧ k' = .i64 := by cases k <;> cases k' <;> simp [same] at hs <;> exact ⟨rfl, rfl⟩
  obtain ⟨rfl, rfl⟩ := hk
  cases op <;> simp [fastOp] at hf <;>
    simp only [intOp, mkI_eq, mkB_eq, wrapI_eq, ltI_eq, eqI_eq, Option.some.injEq] at h <;> subst h <;>
    simp [eqGuard, binOp, Op.intArith, Op.intCmp, Sem.run_bind, Result.andThen] <;> first | rfl | (rw [← decide_not]; simp [Int.not_lt])
theorem eqN_vr {R : Ren} {d : TypeDesc} {a a' b b' : Value} {x : Bool} (h : eqN d a b = some x) (ha : VR R a a') (hb : VR R b b') : eqN d a' b' = some x := by
  unfold eqN at h
  split at h <;> first | (cases h; done) | skip
  all_goals (cases ha <;> cases hb <;> first | exact h | (simp [eqN] at h ⊢; exact h) | (simp [eqN] at h ⊢))
omit [Lo] in
theorem eqN_run {d : TypeDesc} {t : TypeId} {i : TI} (hi : ty P t = some i) {a b : Value} {x : Bool} (h : eqN i.desc a b = some x) (w : World) : (Op.equal t a b).run P w = .ok x w := by
  unfold Op.equal Op.maxDepth Op.equalIn
  rw [Sem.run_bind, run_under hi]
  simp only [Result.andThen_ok]
  unfold eqN at h
  split at h <;> first | (cases h; done) | skip
  all_goals (rename_i hd; rw [hd]; cases h; rfl)
theorem eqNil_run {R : Ren} {op : BinOp} {t : TypeId} {a b a' b' v : Value} (h : eqNil P op t a b = some v) (ha : VR R a a') (hb : VR R b b') (x y : Operand) (w : World) :
    (do eqGuard op t x y a' b'; binOp op t a' b' : Sem Value).run P w = .ok v w := by
  unfold eqNil at h
  split at h
  · rename_i i hi
    split at h
    · rename_i z hz
      rw [mkB_eq] at h
      cases h
      have hz' := eqN_vr hz ha hb
      have hr := eqN_run (d := i.desc) hi hz' w
      have hg : (eqGuard .eql t x y a' b').run P w = .ok () w := by
        unfold eqN at hz'
        split at hz' <;> first | (cases hz'; done) | rfl
      have hB : binOp .eql t a' b' = (do pure (.bool (← Op.equal t a' b'))) := by
        unfold eqN at hz'
        split at hz' <;> first | (cases hz'; done) | rfl
      rw [Sem.run_bind, hg, Result.andThen_ok, hB, Sem.run_bind, hr]
      rfl
    · rename_i z hz
      rw [mkB_eq] at h
      cases h
      have hz' := eqN_vr hz ha hb
      have hr := eqN_run (d := i.desc) hi hz' w
      have hg : (eqGuard .neq t x y a' b').run P w = .ok () w := by
        unfold eqN at hz'
        split at hz' <;> first | (cases hz'; done) | rfl
      have hB : binOp .neq t a' b' = (do pure (.bool (!(← Op.equal t a' b')))) := by
        unfold eqN at hz'
        split at hz' <;> first | (cases hz'; done) | rfl
      rw [Sem.run_bind, hg, Result.andThen_ok, hB, Sem.run_bind, hr]
      rfl
    · cases h
  · cases h
omit [Lo] in
theorem gr_eq {o : Option Value} {v : Value} (h : gr o = some v) : o = some v ∧ ground v = true := by
  unfold gr at h
  cases o with
  | none => cases h
  | some u =>
    cases hu : ground u with
    | false => simp only [hu] at h; cases h
    | true => simp only [hu] at h; cases h; exact ⟨rfl, hu⟩
theorem ground2_run {R : Ren} {op : BinOp} {t : TypeId} {x y : Operand} {a b a' b' v : Value} (h : ground2 P op t x y a b = some v) (ha : VR R a a') (hb : VR R b b') :
    ground v = true ∧ ∀ w, (do eqGuard op t x y a' b'; binOp op t a' b' : Sem Value).run P w = .ok v w := by
  unfold ground2 at h
  cases hg : (ground a && ground b) with
  | false => rw [hg] at h; cases h
  | true =>
    rw [hg] at h
    simp only [Bool.and_eq_true] at hg
    rw [ground_eq hg.1 ha, ground_eq hg.2 hb]
    obtain ⟨h1, h2⟩ := gr_eq (show gr _ = some v from h)
    exact ⟨h2, fun w => pureOf_run h1 w⟩
omit [Lo] in
theorem intOp_ground {op : BinOp} {k : IntKind} {m n : Int} {v : Value} (h : intOp op k m n = some v) : ground v = true := by
  cases op <;> simp only [intOp, mkI_eq, mkB_eq] at h <;> first | (cases h; done) | (cases h; rfl)
omit [Lo] in
theorem eqNil_ground {op : BinOp} {t : TypeId} {a b v : Value} (h : eqNil P op t a b = some v) : ground v = true := by
  unfold eqNil at h
  split at h
  · split at h <;> first | (cases h; done) | (rw [mkB_eq] at h; cases h; rfl)
  · cases h
theorem binV_run {R : Ren} {op : BinOp} {t : TypeId} {x y : Operand} {a b a' b' v : Value} (h : binV P op t x y a b = some v) (ha : VR R a a') (hb : VR R b b') :
    ground v = true ∧ ∀ w, (do eqGuard op t x y a' b'; binOp op t a' b' : Sem Value).run P w = .ok v w := by
  unfold binV at h
  split at h
  · rename_i k m k' n
    cases hc : (fastOp op && same k k') with
    | false => rw [hc] at h; simp only [cond_false] at h; exact ground2_run h ha hb
    | true =>
      rw [hc] at h
      simp only [cond_true] at h
      simp only [Bool.and_eq_true] at hc
      cases ha; cases hb
      exact ⟨intOp_ground h, fun w => fast_run hc.1 hc.2 h t x y w⟩
  · cases hg : (ground a && ground b) with
    | true => rw [hg] at h; simp only [cond_true] at h; exact ground2_run h ha hb
    | false => rw [hg] at h; simp only [cond_false] at h; exact ⟨eqNil_ground h, fun w => eqNil_run h ha hb x y w⟩
theorem unV_run {R : Ren} {op : UnOp} {a a' v : Value} (h : unV P op a = some v) (ha : VR R a a') : ground v = true ∧ ∀ w, (Op.unary op a').run P w = .ok v w := by
  unfold unV at h
  split at h
  · rw [mkB_eq] at h
    cases h
    cases ha
    exact ⟨rfl, fun w => rfl⟩
  · cases hg : ground a with
    | false => rw [hg] at h; cases h
    | true =>
      rw [hg] at h
      rw [ground_eq hg ha]
      obtain ⟨h1, h2⟩ := gr_eq (show gr _ = some v from h)
      exact ⟨h2, fun w => pureOf_run h1 w⟩
omit [Lo] in
theorem foldl_set (l : List Value) : ∀ (n off : Nat) (cs : Array Value), off + n + l.length ≤ cs.size →
    ((l.zipIdx n).foldl (fun (cs : Array Value) (p : Value × Nat) => cs.setIfInBounds (off + p.2) p.1) cs).size = cs.size ∧
    ∀ k, ((l.zipIdx n).foldl (fun (cs : Array Value) (p : Value × Nat) => cs.setIfInBounds (off + p.2) p.1) cs)[k]? = if off + n ≤ k ∧ k < off + n + l.length then l[k - (off + n)]? else cs[k]? := by
  induction l with
  | nil => intro n off cs _; exact ⟨rfl, fun k => by simp; intro h1 h2; omega⟩
  | cons x l ih =>
    intro n off cs hl
    simp only [List.zipIdx_cons, List.foldl_cons]
    have e : (cs.setIfInBounds (off + n) x).size = cs.size := by simp
    obtain ⟨h1, h2⟩ := ih (n + 1) off (cs.setIfInBounds (off + n) x) (by rw [e]; simp at hl; omega)
    refine ⟨by rw [h1]; simp, fun k => ?_⟩
    rw [h2]
    simp only [List.length_cons] at hl ⊢
    by_cases hk : k = off + n
    · subst hk
      have : ¬ (off + (n + 1) ≤ off + n ∧ off + n < off + (n + 1) + l.length) := by omega
      rw [if_neg this, if_pos (by omega)]
      have hlt : off + n < cs.size := by omega
      simp [hlt]
    · by_cases h3 : off + (n + 1) ≤ k ∧ k < off + (n + 1) + l.length
      · rw [if_pos h3, if_pos (by omega)]
        have : k - (off + n) = (k - (off + (n + 1))) + 1 := by omega
        rw [this, List.getElem?_cons_succ]
      · rw [if_neg h3, if_neg (by omega)]
        rw [Array.getElem?_setIfInBounds_ne (by omega)]
theorem cellsL_vr {R : Ren} {v v' : Value} {l : List Value} (h : cellsL v = some l) (k : VR R v v') :
    VL R l v'.cells.toList ∧ (∀ x, x ∈ l → x.oneCell' = true) ∧ ∀ x, x ∈ v'.cells.toList → x.oneCell' = true := by
  have key : VL R l v'.cells.toList ∧ (∀ x, x ∈ l → x.oneCell' = true) := by
    cases k with
    | agg hx hxs h1 =>
      cases h
      exact ⟨.of_arr hx hxs, fun x hx => by obtain ⟨i, hi⟩ := List.mem_iff_getElem?.1 hx; exact h1 i x (by simpa using hi)⟩
    | tuple hx hxs => cases h
    | _ =>
      cases h
      refine ⟨.cons ?_ (.nil R), fun x hx => by simp at hx; subst hx; rfl⟩
      first | exact .bool _ | exact .int _ _ | exact .string _ | exact .ptr0 | exact .ptr _ (by assumption) (by assumption) | exact .sliceW _ | exact .slice0 _ _ | exact .slice _ _ (by assumption) (by assumption) (by assumption) (by assumption) | exact .map0 | exact .map (by assumption) | exact .nilFunc | exact .nilIface | exact .fn _ (by assumption) (by assumption) (by assumption) (by assumption) | exact .yld (by assumption)
  refine ⟨key.1, key.2, fun x hx => ?_⟩
  obtain ⟨i, hi⟩ := List.mem_iff_getElem?.1 hx
  have hl : i < l.length := by rw [key.1.1]; exact (List.getElem?_eq_some_iff.1 hi).1
  have hr := key.1.2 i l[i] x (List.getElem?_eq_getElem hl) hi
  rw [hr.oneCell]
  exact key.2 _ (List.getElem_mem hl)
theorem splice_vl {R : Ren} {c d vs : List Value} {o : Nat} {c' vs' d' : List Value} (h : splice c o vs = some d) (hc : VL R c c') (hv : VL R vs vs')
    (hd : d'.length = c'.length) (hd' : ∀ k, d'[k]? = if o ≤ k ∧ k < o + vs'.length then vs'[k - o]? else c'[k]?) : VL R d d' := by
  obtain ⟨h1, h2, h3⟩ := splice_eq h
  refine ⟨by rw [h2, hd, hc.1], fun i x x' a b => ?_⟩
  rw [h3] at a
  rw [hd', ← hv.1] at b
  split at a
  · rename_i hi
    rw [if_pos hi] at b
    exact hv.2 _ _ _ a b
  · rename_i hi
    rw [if_neg hi] at b
    exact hc.2 _ _ _ a b
inductive PR (R : Ren) (place : Nat → Option (Nat × Nat)) : List ((Nat × Nat) × Value) → List (Nat × Value) → Prop where
  | nil : PR R place [] []
  | cons {q : Nat × Nat} {v v' : Value} {i : Nat} {l m} (hp : place i = some q) (h0 : 0 < q.2) (hv : VR R v v') (h : PR R place l m) : PR R place ((q, v) :: l) ((i, v') :: m)
omit [Lo] in
theorem fillL_nil (cs : List Value) : fillL [] cs = some cs := rfl
omit [Lo] in
theorem fillL_cons (p : (Nat × Nat) × Value) (l : List ((Nat × Nat) × Value)) (cs : List Value) : fillL (p :: l) cs =
    match cellsL p.2 with
    | some m => bif Nat.beq m.length p.1.2 then (match splice cs p.1.1 m with | some cs' => fillL l cs' | none => none) else none
    | none => none := rfl
theorem fillL_vr {R : Ren} {place : Nat → Option (Nat × Nat)} {l : List ((Nat × Nat) × Value)} {m : List (Nat × Value)} (hp : PR R place l m) :
    ∀ {cs d : List Value} {cs' : Array Value}, fillL l cs = some d → VL R cs cs'.toList → (∀ x, x ∈ cs → x.oneCell' = true) →
      ∃ d', Instr.fill place cs' m = some d' ∧ VL R d d'.toList ∧ ∀ x, x ∈ d → x.oneCell' = true := by
  induction hp with
  | nil => intro cs d cs' h hc h1; rw [fillL_nil] at h; cases h; exact ⟨cs', rfl, hc, h1⟩
  | @cons q v v' i l m hp h0 hv _ ih =>
    intro cs d cs' h hc h1
    rw [fillL_cons] at h
    split at h
    · rename_i vs hvs
      obtain ⟨hl, ho, ho'⟩ := cellsL_vr hvs hv
      cases hb : Nat.beq vs.length q.2 with
      | false => simp only [hb] at h; cases h
      | true =>
        simp only [hb, cond_true] at h
        have hlen := Nat.eq_of_beq_eq_true hb
        split at h
        · rename_i cs1 hs
          obtain ⟨s1, s2, s3⟩ := splice_eq hs
          have hsz : v'.cells.size = q.2 := by rw [← hlen, hl.1]; simp
          by_cases hfit : q.1 + v'.cells.size ≤ cs'.size
          · have hf := foldl_set v'.cells.toList 0 q.1 cs' (by simpa using hfit)
            obtain ⟨d', hd', hvl, hone⟩ := ih (cs := cs1) (d := d) (cs' := (v'.cells.toList.zipIdx 0).foldl (fun (cs : Array Value) (p : Value × Nat) => cs.setIfInBounds (q.1 + p.2) p.1) cs') h
              (splice_vl hs hc hl (by simpa using hf.1) (fun k => by have := hf.2 k; simpa using this))
              (fun x hx => by
                obtain ⟨k, hk⟩ := List.mem_iff_getElem?.1 hx
                rw [s3] at hk
                split at hk
                · exact ho x (List.mem_of_getElem? hk)
                · exact h1 x (List.mem_of_getElem? hk))
            refine ⟨d', ?_, hvl, hone⟩
            have e : Instr.fill place cs' ((i, v') :: m) = (match place i with
              | none => none
              | some (off, size) => if v'.cells.size ≠ size || off + v'.cells.size > cs'.size then none else Instr.fill place (v'.cells.zipIdx.foldl (fun cs (c, j) => cs.setIfInBounds (off + j) c) cs') m) := rfl
            rw [e, hp]
            simp only [hsz, ne_eq, not_true_eq_false, decide_false, Bool.false_or]
            have : ¬ (q.1 + q.2 > cs'.size) := by omega
            simp only [this, decide_false, Bool.false_eq_true, if_false]
            rw [← hd']
            congr 1
            rw [← Array.foldl_toList, Array.toList_zipIdx]
          · exfalso
            rcases s1 with rfl | s1
            · simp at hlen; omega
            · rw [hc.1] at s1; simp at s1; omega
        · cases h
    · cases h
end Lm
end Go
namespace Go
namespace Lm
variable [Lo]
variable {P : Program}
structure FrOk (S : Nat → Prop) (R : Ren) (nv n : Nat) (vs : Vs) (ts : Ts) (tm : Array Value) : Prop where
  size : tm.size = n
  nvle : nv ≤ nv
  var : ∀ t v, S t → t < nv → Lv.get VD t vs = some v → ∃ v', tm[t]? = some v' ∧ VR R v v'
  tmp : ∀ t v, S t → nv ≤ t → find t ts = some v → ∃ v', tm[t]? = some v' ∧ VR R v v'
  glob : ∀ g, g < NG → R.blk g = some g
omit [Lo] in
theorem dX_some (nv : Nat) (x : Operand) : ∃ f, dX nv x = .mk f := by
  cases h : dX nv x with
  | mk f => exact ⟨f, rfl⟩
theorem VR.fn0 (R : Ren) (f : FuncId) : VR R (.func (.func f) #[] #[]) (.func (.func f) #[] #[]) :=
  .fn f rfl (fun i x x' a => by simp at a) rfl (fun i x x' a => by simp at a)
theorem dX_ok {nv : Nat} {x : Operand} {f : OpV} (h : dX nv x = .mk f) {S : Nat → Prop} {R : Ren} {n : Nat} {vs : Vs} {ts : Ts} {a : Act} {v : Value}
    (hF : FrOk S R nv n vs ts a.tmps) (hS : ∀ t, x = .tmp t → S t) (hv : f vs ts = some v) : VR R v (a.eval x) := by
  unfold dX at h
  cases x with
  | tmp t =>
    simp only [blt_eq] at h
    by_cases ht : t < nv
    · simp only [ht, decide_true] at h
      unfold dVar at h
      obtain ⟨g, hg, hp⟩ := mkGet_eq (α := Value) VD t
      rw [hg] at h
      cases h
      have hv' : Lv.get VD t vs = some v := by rw [← hp]; exact hv
      obtain ⟨v', h1, h2⟩ := hF.var t v (hS t rfl) ht hv'
      simp only [Act.eval, Array.getD_eq_getD_getElem?, h1]
      exact h2
    · simp only [ht, decide_false] at h
      cases h
      obtain ⟨v', h1, h2⟩ := hF.tmp t v (hS t rfl) (Nat.le_of_not_lt ht) hv
      simp only [Act.eval, Array.getD_eq_getD_getElem?, h1]
      exact h2
  | const u =>
    cases hg : ground u with
    | false => simp only [hg] at h; cases h; cases hv
    | true => simp only [hg] at h; cases h; cases hv; exact ground_vr hg R
  | global g =>
    simp only [blt_eq] at h
    by_cases hg : g < NG
    · simp only [hg, decide_true] at h
      cases h; cases hv
      exact .ptr 0 (hF.glob g hg) (Lo.gz hg)
    · simp only [hg, decide_false] at h
      cases h; cases hv
  | func f => cases h; cases hv; exact .fn0 R f
theorem dXs_ok {nv : Nat} : ∀ {xs : List Operand} {l : List OpV}, dXs nv xs = .mk l → ∀ {S : Nat → Prop} {R : Ren} {n : Nat} {vs : Vs} {ts : Ts} {a : Act} {us : List Value},
    FrOk S R nv n vs ts a.tmps → (∀ t, Operand.tmp t ∈ xs → S t) → evs l vs ts = some us → VL R us (xs.map a.eval) := by
  intro xs
  induction xs with
  | nil => intro l h S R n vs ts a us _ _ hu; cases h; cases hu; exact .nil R
  | cons x xs ih =>
    intro l h S R n vs ts a us hF hS hu
    obtain ⟨f, hf⟩ := dX_some nv x
    have e : dXs nv (x :: xs) = match dX nv x, dXs nv xs with | .mk f, .mk l => .mk (f :: l) := rfl
    rw [e, hf] at h
    cases hl : dXs nv xs with
    | mk m =>
      rw [hl] at h
      cases h
      have e2 : evs (f :: m) vs ts = match f vs ts with | some v => (match evs m vs ts with | some us => some (v :: us) | none => none) | none => none := rfl
      rw [e2] at hu
      split at hu
      · rename_i v hv
        split at hu
        · rename_i us' hus
          cases hu
          exact .cons (dX_ok hf hF (fun t ht => hS t (by simp [ht])) hv) (ih hl hF (fun t ht => hS t (List.mem_cons_of_mem _ ht)) hus)
        · cases hu
      · cases hu
def Uses (o : Oper) (S : Nat → Prop) : Prop := ∀ t, Operand.tmp t ∈ o.op.operands.toList → S t
def PvOk (P : Program) (nv : Nat) (o : Oper) (f : OpV) : Prop :=
  ∀ {S : Nat → Prop} {R : Ren} {n : Nat} {vs : Vs} {ts : Ts} {a : Act} {v : Value}, FrOk S R nv n vs ts a.tmps → Uses o S → f vs ts = some v →
    ∃ v', VR R v v' ∧ ∀ w, (execOp a.eval o).run P w = .ok (.value v') w
omit [Lo] in
theorem pv1_ok {nv : Nat} {k : OpV → OpV} {x : Operand} {f : OpV} (h : pv1 nv k x = .pv f) : ∃ g, dX nv x = .mk g ∧ f = k g := by
  obtain ⟨g, hg⟩ := dX_some nv x
  unfold pv1 at h
  rw [hg] at h
  cases h
  exact ⟨g, hg, rfl⟩
omit [Lo] in
theorem pv2_ok {nv : Nat} {k : OpV → OpV → OpV} {x y : Operand} {f : OpV} (h : pv2 nv k x y = .pv f) : ∃ g e, dX nv x = .mk g ∧ dX nv y = .mk e ∧ f = k g e := by
  obtain ⟨g, hg⟩ := dX_some nv x
  obtain ⟨e, he⟩ := dX_some nv y
  unfold pv2 at h
  rw [hg, he] at h
  cases h
  exact ⟨g, e, hg, he, rfl⟩
omit [Lo] in
theorem pv3_ok {nv : Nat} {k : OpV → OpV → OpV → OpV} {x y z : Operand} {f : OpV} (h : pv3 nv k x y z = .pv f) : ∃ g e d, dX nv x = .mk g ∧ dX nv y = .mk e ∧ dX nv z = .mk d ∧ f = k g e d := by
  obtain ⟨g, hg⟩ := dX_some nv x
  obtain ⟨e, he⟩ := dX_some nv y
  obtain ⟨d, hd⟩ := dX_some nv z
  unfold pv3 at h
  rw [hg, he, hd] at h
  cases h
  exact ⟨g, e, d, hg, he, hd, rfl⟩
section
variable {nv : Nat} {o : Oper} {f : OpV}
theorem move_ok {x : Operand} (ho : o.op = .move x ∨ o.op = .assign x) (h : pv1 nv oMove x = .pv f) : PvOk P nv o f := by
  intro S R n vs ts a v hF hU hv
  obtain ⟨g, hg, rfl⟩ := pv1_ok h
  have hx : ∀ t, x = .tmp t → S t := fun t ht => hU t (by rcases ho with ho | ho <;> simp [ho, Op.operands, ht])
  refine ⟨a.eval x, dX_ok hg hF hx hv, fun w => ?_⟩
  rcases ho with ho | ho <;> simp [execOp, ho]
theorem pick_ok {b x y : Operand} (ho : o.op = .pick b x y) (h : pv3 nv oPick b x y = .pv f) : PvOk P nv o f := by
  intro S R n vs ts a v hF hU hv
  obtain ⟨g, e, d, hg, he, hd, rfl⟩ := pv3_ok h
  have hs : ∀ z ∈ [b, x, y], ∀ t, z = .tmp t → S t := fun z hz t ht => hU t (by simp [ho, Op.operands]; simp at hz; rcases hz with rfl | rfl | rfl <;> simp [ht])
  unfold oPick at hv
  split at hv
  · rename_i t ht
    have h1 := dX_ok hg hF (hs b (by simp)) ht
    generalize hb : a.eval b = u at h1
    cases h1
    cases t with
    | true => exact ⟨a.eval x, dX_ok he hF (hs x (by simp)) hv, fun w => by simp [execOp, ho, hb, asBool, Sem.run_bind]⟩
    | false => exact ⟨a.eval y, dX_ok hd hF (hs y (by simp)) hv, fun w => by simp [execOp, ho, hb, asBool, Sem.run_bind]⟩
  · cases hv
theorem bin_ok {op : BinOp} {t yt : TypeId} {x y : Operand} (ho : o.op = .binOp op t x y yt) (h : pv2 nv (oBin P op t x y) x y = .pv f) : PvOk P nv o f := by
  intro S R n vs ts a v hF hU hv
  obtain ⟨g, e, hg, he, rfl⟩ := pv2_ok h
  have hs : ∀ z ∈ [x, y], ∀ t, z = .tmp t → S t := fun z hz t ht => hU t (by simp [ho, Op.operands]; simp at hz; rcases hz with rfl | rfl <;> simp [ht])
  unfold oBin at hv
  split at hv
  · rename_i u u' hu hu'
    have := binV_run hv (dX_ok hg hF (hs x (by simp)) hu) (dX_ok he hF (hs y (by simp)) hu')
    refine ⟨v, ground_vr this.1 R, fun w => ?_⟩
    have hr := this.2 w
    simp only [execOp, ho]
    rw [Sem.run_bind, hr]
    rfl
  · cases hv
theorem un_ok {op : UnOp} {t : TypeId} {x : Operand} (ho : o.op = .unOp op t x) (h : pv1 nv (oUn P op) x = .pv f) : PvOk P nv o f := by
  intro S R n vs ts a v hF hU hv
  obtain ⟨g, hg, rfl⟩ := pv1_ok h
  have hx : ∀ t, x = .tmp t → S t := fun t ht => hU t (by simp [ho, Op.operands, ht])
  unfold oUn at hv
  split at hv
  · rename_i u hu
    have := unV_run hv (dX_ok hg hF hx hu)
    refine ⟨v, ground_vr this.1 R, fun w => ?_⟩
    simp only [execOp, ho]
    rw [Sem.run_bind, this.2 w]
    rfl
  · cases hv
theorem gr_run {R : Ren} {α : Value → Sem Value} {u u' v : Value} (h : (bif ground u then gr (pureOf P (α u)) else none) = some v) (hu : VR R u u') : VR R v v ∧ ∀ w, (α u').run P w = .ok v w := by
  cases hg : ground u with
  | false => rw [hg] at h; cases h
  | true =>
    rw [hg] at h
    rw [ground_eq hg hu]
    obtain ⟨h1, h2⟩ := gr_eq (show gr _ = some v from h)
    exact ⟨ground_vr h2 R, fun w => pureOf_run h1 w⟩
theorem conv_ok {s d : TypeId} {x : Operand} (ho : o.op = .convert s d x) (h : pv1 nv (oConv P s d) x = .pv f) : PvOk P nv o f := by
  intro S R n vs ts a v hF hU hv
  obtain ⟨g, hg, rfl⟩ := pv1_ok h
  have hx : ∀ t, x = .tmp t → S t := fun t ht => hU t (by simp [ho, Op.operands, ht])
  unfold oConv at hv
  split at hv
  · rename_i u hu
    have := gr_run (α := convert s d) hv (dX_ok hg hF hx hu)
    refine ⟨v, this.1, fun w => ?_⟩
    simp only [execOp, ho]
    rw [Sem.run_bind, this.2 w]
    rfl
  · cases hv
theorem extract_ok {x : Operand} {i : Nat} (ho : o.op = .extract x i) (h : pv1 nv (fun x => oExtract x i) x = .pv f) : PvOk P nv o f := by
  intro S R n vs ts a v hF hU hv
  obtain ⟨g, hg, rfl⟩ := pv1_ok h
  have hx : ∀ t, x = .tmp t → S t := fun t ht => hU t (by simp [ho, Op.operands, ht])
  simp only [oExtract] at hv
  split at hv
  · rename_i us hu
    have h1 := dX_ok hg hF hx hu
    generalize hb : a.eval x = u at h1
    cases h1 with
    | @tuple _ us' hsz hxs =>
      rw [nth_eq] at hv
      obtain ⟨v', h2, h3⟩ := (VL.of_arr hsz hxs).get hv
      refine ⟨v', h3, fun w => ?_⟩
      simp only [execOp, ho, hb, Instr.extract]
      have : us'[i]? = some v' := by simpa using h2
      rw [this]
      simp [Sem.run_bind]
  · cases hv
theorem nil_ok {x : Operand} (ho : o.op = .nilCheck x) (h : pv1 nv oNil x = .pv f) : PvOk P nv o f := by
  intro S R n vs ts a v hF hU hv
  obtain ⟨g, hg, rfl⟩ := pv1_ok h
  have hx : ∀ t, x = .tmp t → S t := fun t ht => hU t (by simp [ho, Op.operands, ht])
  unfold oNil at hv
  split at hv
  · rename_i p hu
    cases hv
    have h1 := dX_ok hg hF hx hu
    generalize hb : a.eval x = u at h1
    refine ⟨u, h1, fun w => ?_⟩
    cases h1
    simp only [execOp, ho, hb]
    rfl
  · cases hv
end
end Lm
end Go
namespace Go
namespace Lm
variable [Lo]
variable {P : Program}
theorem part1_vr {R : Ren} {agg : Bool} {size off : Nat} {cs cs' : List Value} {v : Value} (h : part1 agg size cs off = some v) (hc : VL R cs cs') (h1 : agg = true → ∀ x, x ∈ cs → x.oneCell' = true) :
    (agg = false ∧ ∃ v', cs'[off]? = some v' ∧ VR R v v') ∨ (agg = true ∧ off + size ≤ cs.length ∨ agg = true ∧ size = 0) ∧ v = .agg ((cs.drop off).take size).toArray ∧ VR R v (.agg ((cs'.drop off).take size).toArray) := by
  unfold part1 at h
  cases agg with
  | false =>
    simp only at h
    rw [nth_eq] at h
    exact .inl ⟨rfl, hc.get h⟩
  | true =>
    simp only at h
    split at h
    · rename_i l hl
      cases h
      rw [dropL_eq] at hl
      obtain ⟨hn, rfl⟩ := takeL_eq hl
      refine .inr ⟨?_, rfl, ?_⟩
      · simp at hn
        rcases Nat.eq_zero_or_pos size with h0 | h0
        · exact .inr ⟨rfl, h0⟩
        · exact .inl ⟨rfl, by omega⟩
      · have hv := (hc.drop off).take size
        exact .agg hv.arr.1 hv.arr.2 (fun i x hx => h1 rfl x (List.mem_of_mem_drop (List.mem_of_mem_take (List.mem_of_getElem? (by simpa using hx)))))
    · cases h
theorem part_run {R : Ren} {t : TypeId} {i : TI} (hi : ty P t = some i) {off : Nat} {cs cs' : Array Value} {v : Value} (h : part1 i.agg i.size cs.toList off = some v)
    (hs : cs.size = cs'.size) (hc : ∀ (k : Nat) x x', cs[k]? = some x → cs'[k]? = some x' → VR R x x') (h1 : ∀ (k : Nat) x, cs[k]? = some x → x.oneCell' = true) :
    ∃ v', VR R v v' ∧ ∀ w, (part t cs' off).run P w = .ok v' w := by
  have hl := VL.of_arr hs hc
  have h1' : i.agg = true → ∀ x, x ∈ cs.toList → x.oneCell' = true := fun _ x hx => by
    obtain ⟨k, hk⟩ := List.mem_iff_getElem?.1 hx
    exact h1 k x (by simpa using hk)
  rcases part1_vr h hl h1' with ⟨ha, v', h2, h3⟩ | ⟨ha, rfl, h3⟩
  · refine ⟨v', h3, fun w => ?_⟩
    unfold part
    rw [Sem.run_bind, run_isAgg' hi, ha]
    have : cs'[off]? = some v' := by simpa using h2
    simp [this]
  · have ha' : i.agg = true := by rcases ha with ha | ha <;> exact ha.1
    refine ⟨_, h3, fun w => ?_⟩
    unfold part
    rw [Sem.run_bind, run_isAgg' hi, ha']
    simp only [Result.andThen_ok, if_true, Sem.run_bind, run_sizeOf' hi, Sem.run_pure]
    congr 2
    apply Array.ext'
    simp [Array.toList_extract, List.extract]
section
variable {nv : Nat} {o : Oper} {f : OpV}
theorem field_ok {t : TypeId} {x : Operand} {k : Nat} (ho : o.op = .field t x k) (h : dField P nv t x k = .pv f) : PvOk P nv o f := by
  intro S R n vs ts a v hF hU hv
  unfold dField at h
  split at h
  · rename_i i hi
    split at h
    · rename_i fs hfs
      split at h
      · rename_i fd hfd
        split at h
        · rename_i j hj
          obtain ⟨g, hg, rfl⟩ := pv1_ok h
          have hx : ∀ t, x = .tmp t → S t := fun t ht => hU t (by simp [ho, Op.operands, ht])
          simp only [oField] at hv
          split at hv
          · rename_i cs hu
            have h1 := dX_ok hg hF hx hu
            generalize hb : a.eval x = u at h1
            cases h1 with
            | @agg _ cs' hsz hxs ho1 =>
              obtain ⟨v', h2, h3⟩ := part_run hj hv hsz hxs ho1
              refine ⟨v', h2, fun w => ?_⟩
              simp only [execOp, ho, hb, Instr.field]
              rw [Sem.run_bind, Sem.run_bind, run_under hi, hfs]
              simp only [Result.andThen_ok, hfd, asAgg, Sem.run_bind, Sem.run_pure, h3]
          · cases hv
        · cases h
      · cases h
    · cases h
  · cases h
omit [Lo] in
theorem add_lit (b o n : Nat) : (⟨b, o, none⟩ : Addr).add n = ⟨b, o + n, none⟩ := by
  unfold Addr.add; split
  · rename_i h; simp [h]
  · rfl
theorem fieldAddr_ok {t : TypeId} {x : Operand} {k : Nat} (ho : o.op = .fieldAddr t x k) (h : dFieldAddr P nv t x k = .pv f) : PvOk P nv o f := by
  intro S R n vs ts a v hF hU hv
  unfold dFieldAddr at h
  split at h
  · rename_i i hi
    split at h
    · rename_i fs hfs
      split at h
      · rename_i off size hfa
        cases hb0 : Nat.blt 0 size with
        | false => rw [hb0] at h; cases h
        | true =>
          rw [hb0] at h
          simp only [cond_true] at h
          rw [blt_eq] at hb0
          simp at hb0
          unfold fieldAtP at hfa
          split at hfa
          · rename_i fd hfd
            split at hfa
            · rename_i j hj
              cases hfa
              obtain ⟨g, hg, rfl⟩ := pv1_ok h
              have hx : ∀ t, x = .tmp t → S t := fun t ht => hU t (by simp [ho, Op.operands, ht])
              simp only [oFieldAddr] at hv
              split at hv
              · rename_i r o' hu
                rw [forceN_eq] at hv
                cases hv
                have h1 := dX_ok hg hF hx hu
                generalize hb : a.eval x = u at h1
                cases h1 with
                | @ptr _ b _ hr hlo =>
                  refine ⟨_, .ptr _ hr (by show Lo.lo r ≤ o' + _; omega), fun w => ?_⟩
                  simp only [execOp, ho, hb, Instr.fieldAt, Instr.sureAddr, fieldPlace]
                  rw [Sem.run_bind, Sem.run_bind, run_under hi, hfs]
                  simp only [Result.andThen_ok, hfd, Sem.run_bind, Sem.run_pure, run_sizeOf' hj]
                  have : ¬ j.size = 0 := by omega
                  simp only [this, if_false, Sem.run_pure, Result.andThen_ok, add_lit]
                  rfl
              · cases hv
            · cases hfa
          · cases hfa
      · cases h
    · cases h
  · cases h
theorem idxOf_vr {R : Ren} {n i : Nat} {ix ix' : Value} (h : idxOf n ix = some i) (hx : VR R ix ix') : i < n ∧ ∃ k, ix' = .int k (.ofNat i) := by
  unfold idxOf at h
  split at h
  · rename_i k m
    rw [blt_eq] at h
    by_cases hm : m < n
    · simp only [hm, decide_true] at h
      cases h
      cases hx
      exact ⟨hm, k, rfl⟩
    · simp only [hm, decide_false] at h
      cases h
  · cases h
theorem elemAddr_vr {R : Ren} {r b o n size : Nat} {ix ix' v : Value} (h : elemAddr r o n size ix = some v) (hr : R.blk r = some b) (hlo : Lo.lo r ≤ o) (hx : VR R ix ix') :
    ∃ k i, ix' = .int k (.ofNat i) ∧ i < n ∧ v = .pointer (some ⟨r, o + i * size, none⟩) ∧ VR R v (.pointer (some ⟨b, o + i * size, none⟩)) := by
  unfold elemAddr at h
  split at h
  · rename_i i hi
    rw [forceN_eq] at h
    cases h
    obtain ⟨h1, k, h2⟩ := idxOf_vr hi hx
    exact ⟨k, i, h2, h1, rfl, .ptr _ hr (by show Lo.lo r ≤ o + _; omega)⟩
  · cases h
theorem indexAddr_ok {t : TypeId} {x y : Operand} (ho : o.op = .indexAddr t x y) (h : dIndexAddr P nv t x y = .pv f) : PvOk P nv o f := by
  intro S R n vs ts a v hF hU hv
  have hs : ∀ z ∈ [x, y], ∀ t, z = .tmp t → S t := fun z hz t ht => hU t (by simp [ho, Op.operands]; simp at hz; rcases hz with rfl | rfl <;> simp [ht])
  unfold dIndexAddr at h
  split at h
  · rename_i i hi
    split at h
    · rename_i len e hd
      split at h
      · rename_i j hj
        obtain ⟨g, e', hg, he, rfl⟩ := pv2_ok h
        simp only [oIndexArr] at hv
        split at hv
        · rename_i r o' ix hu hix
          have h1 := dX_ok hg hF (hs x (by simp)) hu
          generalize hb : a.eval x = u at h1
          cases h1 with
          | @ptr _ b _ hr hlo =>
            obtain ⟨k, i', h2, h3, _, h4⟩ := elemAddr_vr hv hr hlo (dX_ok he hF (hs y (by simp)) hix)
            refine ⟨_, h4, fun w => ?_⟩
            simp only [execOp, ho, hb, h2, Instr.indexAt, asIntOf, Instr.sureAddr]
            have hlt : (0 : Int) ≤ Int.ofNat i' ∧ Int.ofNat i' < (len : Int) := ⟨Int.natCast_nonneg _, by simpa using h3⟩
            simp only [Sem.run_bind, Sem.run_pure, Result.andThen_ok, run_under hi, hd, hlt, and_self, if_true, run_sizeOf' hj, add_lit]
            rfl
        · cases hv
      · cases h
    · rename_i e hd
      split at h
      · rename_i j hj
        obtain ⟨g, e', hg, he, rfl⟩ := pv2_ok h
        simp only [oIndexSl] at hv
        split at hv
        · rename_i r o' len c ix hu hix
          have h1 := dX_ok hg hF (hs x (by simp)) hu
          generalize hb : a.eval x = u at h1
          cases h1 with
          | sliceW ad =>
            exfalso
            unfold elemAddr at hv
            split at hv
            · rename_i i' hi'
              have := (idxOf_vr (R := R) hi' (dX_ok he hF (hs y (by simp)) hix)).1
              omega
            · cases hv
          | @slice _ b _ _ _ c' hr hlo hc hn =>
            obtain ⟨k, i', h2, h3, _, h4⟩ := elemAddr_vr hv hr hlo (dX_ok he hF (hs y (by simp)) hix)
            refine ⟨_, h4, fun w => ?_⟩
            simp only [execOp, ho, hb, h2, Instr.indexAt, asIntOf, Instr.sureAddr]
            have hlt : (0 : Int) ≤ Int.ofNat i' ∧ Int.ofNat i' < (len : Int) := ⟨Int.natCast_nonneg _, by simpa using h3⟩
            simp only [Sem.run_bind, Sem.run_pure, Result.andThen_ok, run_under hi, hd, hlt, and_self, if_true, run_sizeOf' hj, add_lit]
            rfl
        · cases hv
      · cases h
    · cases h
  · cases h
theorem index_ok {t : TypeId} {x y : Operand} (ho : o.op = .index t x y) (h : dIndex P nv t x y = .pv f) : PvOk P nv o f := by
  intro S R n vs ts a v hF hU hv
  have hs : ∀ z ∈ [x, y], ∀ t, z = .tmp t → S t := fun z hz t ht => hU t (by simp [ho, Op.operands]; simp at hz; rcases hz with rfl | rfl <;> simp [ht])
  unfold dIndex at h
  split at h
  · rename_i i hi
    split at h
    · rename_i len e hd
      split at h
      · rename_i j hj
        obtain ⟨g, e', hg, he, rfl⟩ := pv2_ok h
        simp only [oIndexAgg] at hv
        split at hv
        · rename_i cs ix hu hix
          split at hv
          · rename_i i' hi'
            have h1 := dX_ok hg hF (hs x (by simp)) hu
            generalize hb : a.eval x = u at h1
            cases h1 with
            | @agg _ cs' hsz hxs ho1 =>
              obtain ⟨h3, k, h2⟩ := idxOf_vr hi' (dX_ok he hF (hs y (by simp)) hix)
              obtain ⟨v', h4, h5⟩ := part_run hj hv hsz hxs ho1
              refine ⟨v', h4, fun w => ?_⟩
              simp only [execOp, ho, hb, h2, Instr.index, asIntOf]
              have hlt : (0 : Int) ≤ Int.ofNat i' ∧ Int.ofNat i' < (len : Int) := ⟨Int.natCast_nonneg _, by simpa using h3⟩
              simp only [Sem.run_bind, Sem.run_pure, Result.andThen_ok, run_under hi, hd, hlt, and_self, if_true, run_sizeOf' hj]
              have := h5 w
              simp only [Int.ofNat_eq_natCast, Int.toNat_natCast]
              rw [show Nat.mul i' j.size = i' * j.size from rfl] at this
              rw [this]
              rfl
          · cases hv
        · cases hv
      · cases h
    · rename_i hd
      obtain ⟨g, e', hg, he, rfl⟩ := pv2_ok h
      simp only [oIndexStr] at hv
      split at hv
      · rename_i s ix hu hix
        have h1 := dX_ok hg hF (hs x (by simp)) hu
        generalize hb : a.eval x = u at h1
        cases h1
        have := gr_run (α := Instr.index t (.string s)) hv (dX_ok he hF (hs y (by simp)) hix)
        refine ⟨v, this.1, fun w => ?_⟩
        simp only [execOp, ho, hb]
        rw [Sem.run_bind, this.2 w]
        rfl
      · cases hv
    · cases h
  · cases h
theorem makeFunc_ok {fn : Fn} {xs ys : Array Operand} (ho : o.op = .makeFunc fn xs ys) (h : dMakeFunc nv fn xs ys = .pv f) : PvOk P nv o f := by
  intro S R n vs ts a v hF hU hv
  unfold dMakeFunc at h
  split at h
  · rename_i fid l m hl hm
    cases h
    simp only [oMakeFunc] at hv
    split at hv
    · rename_i us ws hus hws
      cases hv
      have h1 := dXs_ok hl hF (fun t ht => hU t (by simp [ho, Op.operands]; left; simpa using ht)) hus
      have h2 := dXs_ok hm hF (fun t ht => hU t (by simp [ho, Op.operands]; right; simpa using ht)) hws
      refine ⟨.func (.func fid) (xs.map a.eval) (ys.map a.eval), .fn fid (by have := h1.1; simpa using this) (fun i x x' p q => h1.2 i x x' (by simpa using p) (by simpa using q)) (by have := h2.1; simpa using this)
        (fun i x x' p q => h2.2 i x x' (by simpa using p) (by simpa using q)), fun w => ?_⟩
      simp [execOp, ho, Instr.makeFunc, Sem.run_bind]
    · cases hv
  · cases h
end
end Lm
end Go
namespace Go
namespace Lm
variable [Lo]
variable {P : Program}
section
variable {nv : Nat} {o : Oper} {f : OpV}
theorem placesL_pr {place : Nat → Option (Nat × Nat)} : ∀ {ps : List (Nat × Operand)} {l : List ((Nat × Nat) × OpV)}, placesL place nv ps = .mk l →
    ∀ {S : Nat → Prop} {R : Ren} {n : Nat} {vs : Vs} {ts : Ts} {a : Act} {us : List ((Nat × Nat) × Value)}, FrOk S R nv n vs ts a.tmps → (∀ p, p ∈ ps → ∀ t, p.2 = .tmp t → S t) → evP l vs ts = some us →
      PR R place us (ps.map fun p => (p.1, a.eval p.2)) := by
  intro ps
  induction ps with
  | nil => intro l h S R n vs ts a us _ _ hu; cases h; cases hu; exact .nil
  | cons p ps ih =>
    intro l h S R n vs ts a us hF hS hu
    have e : placesL place nv (p :: ps) = match place p.1, dX nv p.2, placesL place nv ps with
      | some q, .mk f, .mk r => (Bool.rec .bad (.mk ((q, f) :: r)) (Nat.blt 0 q.2) : PL) | _, _, _ => .bad := rfl
    rw [e] at h
    split at h
    · rename_i q f r hq hf hr
      cases hb : Nat.blt 0 q.2 with
      | false => rw [hb] at h; cases h
      | true =>
        rw [hb] at h
        cases h
        rw [blt_eq] at hb
        simp at hb
        have e2 : evP ((q, f) :: r) vs ts = match f vs ts with | some v => (match evP r vs ts with | some us => some ((q, v) :: us) | none => none) | none => none := rfl
        rw [e2] at hu
        split at hu
        · rename_i v hv
          split at hu
          · rename_i us' hus
            cases hu
            exact .cons hq hb (dX_ok hf hF (fun t ht => hS p (by simp) t ht) hv) (ih hr hF (fun p' hp' => hS p' (by simp [hp'])) hus)
          · cases hu
        · cases hu
    · cases h
omit [Lo] in
theorem ground_agg_one {cs : Array Value} (h : ground (.agg cs) = true) : ∀ x, x ∈ cs.toList → x.oneCell' = true := fun x hx => by
  obtain ⟨k, hk⟩ := List.mem_iff_getElem?.1 hx
  exact flat_one (groundL_all (show groundL flat cs.toList = true from h) k x hk)
omit [Lo] in
theorem run_mapM_ok {α β : Type} {f : α → Sem β} {g : α → β} (w : World) : ∀ (l : List α), (∀ x ∈ l, (f x).run P w = .ok (g x) w) → (l.mapM f).run P w = .ok (l.map g) w := by
  intro l
  induction l with
  | nil => intro _; rfl
  | cons x l ih =>
    intro h
    rw [List.mapM_cons]
    simp only [Sem.run_bind, h x (by simp), Result.andThen_ok, ih (fun y hy => h y (by simp [hy])), Sem.run_pure, List.map_cons]
omit [Lo] in
theorem fill_congr {p q : Nat → Option (Nat × Nat)} (h : ∀ k, p k = q k) (cs : Array Value) (l : List (Nat × Value)) : Instr.fill p cs l = Instr.fill q cs l := by
  rw [funext h]
theorem built {R : Ren} {place : Nat → Option (Nat × Nat)} {cs : Array Value} {us : List ((Nat × Nat) × Value)} {m : List (Nat × Value)} {d : List Value} (hpr : PR R place us m) (hg : ground (.agg cs) = true)
    (hfl : fillL us cs.toList = some d) : ∃ d', Instr.fill place cs m = some d' ∧ VR R (.agg d.toArray) (.agg d') := by
  have hzz : VL R cs.toList cs.toList := ⟨rfl, fun k x x' p q => by rw [p] at q; cases q; exact flat_vr (groundL_all (show groundL flat cs.toList = true from hg) k x p) R⟩
  obtain ⟨d', h1, h2, h3⟩ := fillL_vr hpr (cs' := cs) hfl hzz (ground_agg_one hg)
  exact ⟨d', h1, .agg (by have := h2.1; simpa using this) (fun k x x' p q => h2.2 k x x' (by simpa using p) (by simpa using q)) (fun k x p => h3 x (List.mem_of_getElem? (by simpa using p)))⟩
theorem build_ok {t : TypeId} {ps : Array (Nat × Operand)} (ho : o.op = .build t ps) (h : dBuild P nv t ps = .pv f) : PvOk P nv o f := by
  intro S R n vs ts a v hF hU hv
  have hs : ∀ p, p ∈ ps.toList → ∀ t, p.2 = .tmp t → S t := fun p hp t ht => hU t (by
    simp only [ho, Op.operands, List.mem_map]
    exact ⟨p, hp, ht⟩)
  have em : (ps.map fun (i, x) => (i, a.eval x)).toList = ps.toList.map fun p => (p.1, a.eval p.2) := by simp
  unfold dBuild at h
  split at h
  · rename_i i hi
    split at h
    · rename_i z fs hz hd
      split at h
      · rename_i l hl
        split at h
        · rename_i cs
          cases hg : (ground (.agg cs) && (fs.toList.all fun f => (ty P f.type).isSome)) with
          | false => rw [hg] at h; cases h
          | true =>
            rw [hg] at h
            cases h
            simp only [Bool.and_eq_true, List.all_eq_true] at hg
            obtain ⟨hg, hT⟩ := hg
            simp only [oBuild] at hv
            split at hv
            · rename_i us hus
              split at hv
              · rename_i d hfl
                cases hv
                obtain ⟨d', h1, h2⟩ := built (placesL_pr hl hF hs hus) hg hfl
                refine ⟨.agg d', h2, fun w => ?_⟩
                have hm : (fs.mapM fun fd => (do pure (fd.offset, ← sizeOf fd.type) : Sem (Nat × Nat))).run P w = .ok (fs.map fun fd => (fd.offset, ((ty P fd.type).map (·.size)).getD 0)) w := by
                  rw [Array.mapM_eq_mapM_toList]
                  rw [Sem.run_map]
                  rw [run_mapM_ok (g := fun fd => (fd.offset, ((ty P fd.type).map (·.size)).getD 0)) w fs.toList (fun fd hfd => by
                    obtain ⟨j, hj⟩ := Option.isSome_iff_exists.1 (hT fd hfd)
                    simp [Sem.run_bind, run_sizeOf' hj, hj])]
                  simp only [Result.andThen_ok]
                  congr 1
                  apply Array.ext'
                  simp
                simp only [execOp, ho, Instr.build]
                simp only [Sem.run_bind, run_zero hi hz, Result.andThen_ok, run_under hi, hd, hm, Value.cells]
                have hfill : Instr.fill (fun k => (fs.map fun fd => (fd.offset, ((ty P fd.type).map (·.size)).getD 0))[k]?) cs (ps.map fun (i, x) => (i, a.eval x)).toList = some d' := by
                  rw [em, ← h1]
                  refine fill_congr (fun k => ?_) _ _
                  unfold fieldAtP
                  cases hk : fs[k]? with
                  | none => simp [hk]
                  | some fd =>
                    obtain ⟨j, hj⟩ := Option.isSome_iff_exists.1 (hT fd (List.mem_of_getElem? (by simpa using hk)))
                    simp [hk, hj]
                rw [hfill]
                rfl
              · cases hv
            · cases hv
        · cases h
      · cases h
    · rename_i z len e hz hd
      split at h
      · rename_i j hj
        split at h
        · rename_i l hl
          split at h
          · rename_i cs
            cases hg : ground (.agg cs) with
            | false => rw [hg] at h; cases h
            | true =>
              rw [hg] at h
              cases h
              simp only [oBuild] at hv
              split at hv
              · rename_i us hus
                split at hv
                · rename_i d hfl
                  cases hv
                  obtain ⟨d', h1, h2⟩ := built (placesL_pr hl hF hs hus) hg hfl
                  refine ⟨.agg d', h2, fun w => ?_⟩
                  simp only [execOp, ho, Instr.build]
                  simp only [Sem.run_bind, run_zero hi hz, Result.andThen_ok, run_under hi, hd, Value.cells, run_sizeOf' hj]
                  rw [em, h1]
                  rfl
                · cases hv
              · cases hv
          · cases h
        · cases h
      · cases h
    · cases h
  · cases h
omit [Lo] in
theorem call_builtin {c : Call} {b : Builtin} (ho : o.op = .call c) (hb : c.callee = .builtin b) (a : Act) :
    ∃ cs, execOp a.eval o = builtin b c.argTypes o.type cs (c.args.map a.eval) := by
  refine ⟨c.args.map fun | .const _ => true | _ => false, ?_⟩
  simp only [execOp, ho, resolve, hb]
  rfl
omit [Lo] in
theorem uses_builtin {c : Call} {b : Builtin} (ho : o.op = .call c) (hb : c.callee = .builtin b) {S : Nat → Prop} (hU : Uses o S) : ∀ t, Operand.tmp t ∈ c.args.toList → S t := fun t ht => hU t (by
  simp only [ho, Op.operands, Call.operands, hb]
  simpa using ht)
theorem len_ok {c : Call} {t : TypeId} {x : Operand} (ho : o.op = .call c) (hb : c.callee = .builtin .len) (ht : c.argTypes[0]? = some t) (hx : c.args = #[x]) {i : TI} (hi : ty P t = some i) {g : OpV} (hg : dX nv x = .mk g)
    (hf : (∃ e, i.desc = .slice e ∧ f = oLenSl g) ∨ (i.desc = .string ∧ f = oLenStr g) ∨ ∃ n e, i.desc = .array n e ∧ f = oLenArr n g) : PvOk P nv o f := by
  intro S R n vs ts a v hF hU hv
  have hxs : ∀ t, x = .tmp t → S t := fun t h => uses_builtin ho hb hU t (by simp [hx, h])
  have run : ∀ (u : Value) (r : Value) (w : World), a.eval x = u → (Builtin.len_ c.argTypes o.type #[u]).run P w = .ok r w → (execOp a.eval o).run P w = .ok (.value r) w := by
    intro u r w hu hr
    obtain ⟨cs, e⟩ := call_builtin ho hb a
    rw [e]
    simp only [builtin, hx, List.map_toArray, List.map_cons, List.map_nil, hu]
    rw [Sem.run_bind, hr]
    rfl
  rcases hf with ⟨e, hd, rfl⟩ | ⟨hd, rfl⟩ | ⟨m, e, hd, rfl⟩
  · simp only [oLenSl] at hv
    split at hv
    · rename_i sa k c' hu
      cases hv
      have h1 := dX_ok hg hF hxs hu
      refine ⟨_, .int _ _, fun w => ?_⟩
      generalize hbb : a.eval x = u at h1
      refine run u _ w hbb ?_
      cases h1 <;> simp [Builtin.len_, ht, Sem.run_bind, run_under hi, hd, goInt]
    · cases hv
  · simp only [oLenStr] at hv
    split at hv
    · rename_i s hu
      cases hv
      have h1 := dX_ok hg hF hxs hu
      refine ⟨_, .int _ _, fun w => ?_⟩
      generalize hbb : a.eval x = u at h1
      refine run u _ w hbb ?_
      cases h1
      simp [Builtin.len_, ht, Sem.run_bind, run_under hi, hd, goInt]
    · cases hv
  · simp only [oLenArr] at hv
    split at hv
    · rename_i u0 hu
      cases hv
      refine ⟨_, .int _ _, fun w => ?_⟩
      refine run _ _ w rfl ?_
      simp [Builtin.len_, ht, Sem.run_bind, run_under hi, hd, goInt]
    · cases hv
end
end Lm
end Go
namespace Go
namespace Lm
variable [Lo]
variable {P : Program}
section
variable {nv : Nat} {o : Oper} {f : OpV}
theorem vl_flat {R : Ren} : ∀ {l l' : List Value}, groundL flat l = true → VL R l l' → l' = l := by
  intro l l' hg h
  apply List.ext_getElem?
  intro i
  cases hi : l[i]? with
  | none =>
    have : l.length ≤ i := List.getElem?_eq_none_iff.1 hi
    exact List.getElem?_eq_none (by rw [← h.1]; exact this)
  | some x =>
    obtain ⟨x', h1, h2⟩ := h.get hi
    rw [h1, flat_eq (groundL_all hg i x hi) h2]
theorem minmax_ok {c : Call} {b : Builtin} (ho : o.op = .call c) (hb : c.callee = .builtin b) (hbb : b = .min ∨ b = .max) {l : List OpV} (hl : dXs nv c.args.toList = .mk l) (hf : f = oMinMax P b l) : PvOk P nv o f := by
  intro S R n vs ts a v hF hU hv
  subst hf
  simp only [oMinMax] at hv
  split at hv
  · rename_i us hus
    have h1 := dXs_ok hl hF (uses_builtin ho hb hU) hus
    cases hg : groundL flat us with
    | false => rw [hg] at hv; cases hv
    | true =>
      rw [hg] at hv
      simp only [cond_true] at hv
      have e := vl_flat hg h1
      have ea : c.args.map a.eval = us.toArray := by
        apply Array.ext'
        simp only [Array.toList_map]
        exact e
      obtain ⟨cs, ec⟩ := call_builtin ho hb a
      rcases hbb with rfl | rfl
      · obtain ⟨h2, h3⟩ := gr_eq hv
        refine ⟨v, ground_vr h3 R, fun w => ?_⟩
        rw [ec, ea]
        simp only [builtin]
        have : (Builtin.min_ c.argTypes o.type us.toArray).run P w = .ok v w := pureOf_run h2 w
        rw [Sem.run_bind, this]
        rfl
      · obtain ⟨h2, h3⟩ := gr_eq hv
        refine ⟨v, ground_vr h3 R, fun w => ?_⟩
        rw [ec, ea]
        simp only [builtin]
        have : (Builtin.max_ c.argTypes o.type us.toArray).run P w = .ok v w := pureOf_run h2 w
        rw [Sem.run_bind, this]
        rfl
  · cases hv
def OptR (R : Ren) : Option Value → Option Value → Prop
  | none, none => True
  | some x, some y => VR R x y
  | _, _ => False
theorem bound_some {R : Ren} {n i : Nat} {x x' : Value} {d : Nat} (h : bound n (some x) d = some i) (hx : VR R x x') : i ≤ n ∧ ∃ k, x' = .int k (.ofNat i) := by
  unfold bound at h
  split at h
  · rename_i hh; cases hh
  · rename_i k m hh
    cases hh
    rw [ble_eq'] at h
    by_cases hm : m ≤ n
    · simp only [hm, decide_true] at h
      cases h
      cases hx
      exact ⟨hm, k, rfl⟩
    · simp only [hm, decide_false] at h
      cases h
  · cases h
omit [Lo] in
theorem run_bound {k : IntKind} {i y : Nat} (code : BoundsCode) (h : i ≤ y) (w : World) : (Instr.sliceBound (.int k (.ofNat i)) y code).run P w = .ok i w := by
  unfold Instr.sliceBound
  have : (0 : Int) ≤ Int.ofNat i ∧ Int.ofNat i ≤ (y : Int) := ⟨Int.natCast_nonneg _, by simpa using h⟩
  simp [asIntOf, Sem.run_bind, this]
  omega
omit [Lo] in
theorem mkSl_eq {size r o l hh m : Nat} : mkSl size r o l hh m = some (.slice (some ⟨r, if m = l then o else o + l * size, none⟩) (hh - l) (m - l)) := by
  unfold mkSl
  rw [forceN_eq, forceN_eq, forceN_eq, beq_eq']
  by_cases h : m = l <;> simp [h]
omit [Lo] in
theorem addIf (b o l m size : Nat) : (if m = l then some (⟨b, o, none⟩ : Addr) else (some (⟨b, o, none⟩ : Addr)).map (·.add (l * size))) = some ⟨b, if m = l then o else o + l * size, none⟩ := by
  by_cases h : m = l <;> simp [h, add_lit]
theorem sliceOf_run {R : Ren} {size r o len cap cap' top : Nat} {lo hi mx lo' hi' mx' : Option Value} {v : Value} (isSlice : Bool) (h : sliceOf size r o len cap top lo hi mx = some v)
    (hc : capOk R r cap cap') (hn : len ≤ cap') (ht : top ≤ cap') (hle : len ≤ top) (hlo : OptR R lo lo') (hhi : OptR R hi hi') (hmx : OptR R mx mx') :
    ∃ l hh m, (∀ w, (Instr.sliceBounds isSlice len cap' lo' hi' mx').run P w = .ok (l, hh, m) w) ∧ (∀ b, R.blk r = some b → Lo.lo r ≤ o → VR R v (.slice (some ⟨b, if m = l then o else o + l * size, none⟩) (hh - l) (m - l))) ∧ (cap = 0 → cap' = 0 → v = .slice (some ⟨r, o, none⟩) 0 0 ∧ hh - l = 0 ∧ m = l) := by
  unfold sliceOf at h
  have hlow : ∀ {hh l : Nat}, bound hh lo 0 = some l → l ≤ hh ∧ ∀ (code : BoundsCode) (w : World), (match lo' with | some v => Instr.sliceBound v hh code | none => pure 0 : Sem Nat).run P w = .ok l w := by
    intro hh l hl
    cases lo with
    | none =>
      cases lo' with
      | none => simp [bound] at hl; subst hl; exact ⟨Nat.zero_le _, fun _ _ => rfl⟩
      | some _ => exact hlo.elim
    | some x =>
      cases lo' with
      | none => exact hlo.elim
      | some x' =>
        obtain ⟨h1, k, rfl⟩ := bound_some hl hlo
        exact ⟨h1, fun code w => run_bound code h1 w⟩
  split at h
  · rename_i m hv
    cases mx' with
    | none => exact hmx.elim
    | some mv =>
    cases hi' with
    | none => exact hhi.elim
    | some hv' =>
    split at h
    · rename_i m1 hm1
      split at h
      · rename_i hh hhh
        split at h
        · rename_i l hl
          obtain ⟨h1, k1, rfl⟩ := bound_some hm1 hmx
          obtain ⟨h2, k2, rfl⟩ := bound_some hhh hhi
          obtain ⟨h3, h4⟩ := hlow hl
          rw [blt_eq] at h
          by_cases hH : m1 < HALF
          · simp only [hH, decide_true] at h
            rw [mkSl_eq] at h
            cases h
            refine ⟨l, hh, m1, fun w => ?_, fun b hb hlw => .slice _ _ hb (by split <;> omega) (.inl ⟨by omega, rfl⟩) (by omega), fun z1 z2 => by
              have z3 : m1 = l := by omega
              have z4 : hh - l = 0 := by omega
              exact ⟨by rw [if_pos z3, z4, z3, Nat.sub_self], z4, z3⟩⟩
            have b1 := run_bound (P := P) (k := k1) (if isSlice then .slice3Acap else .slice3Alen) (Nat.le_trans h1 ht) w
            have b2 := run_bound (P := P) (k := k2) .slice3B h2 w
            unfold Instr.sliceBounds
            cases lo' with
            | none =>
              have h6 := h4 .sliceB w
              simp at h6
              subst h6
              simp only [Sem.run_bind, b1, b2, Result.andThen_ok, Sem.run_pure]
            | some u =>
              have h6 := h4 .slice3C w
              simp only at h6
              simp only [Sem.run_bind, b1, b2, h6, Result.andThen_ok, Sem.run_pure, Option.isSome_some, if_true]
          · simp only [hH, decide_false] at h
            cases h
        · cases h
      · cases h
    · cases h
  · cases h
  · cases mx' with
    | some _ => exact hmx.elim
    | none =>
    split at h
    · rename_i hh hhh
      split at h
      · rename_i l hl
        obtain ⟨h3, h4⟩ := hlow hl
        have hhr : hh ≤ cap' ∧ ∀ w, (match hi' with | some v => Instr.sliceBound v cap' (if isSlice then .sliceAcap else .sliceAlen) | none => pure len : Sem Nat).run P w = .ok hh w := by
          cases hi with
          | none =>
            cases hi' with
            | none => simp [bound] at hhh; subst hhh; exact ⟨hn, fun _ => rfl⟩
            | some _ => exact hhi.elim
          | some x =>
            cases hi' with
            | none => exact hhi.elim
            | some x' =>
              obtain ⟨h1, k, rfl⟩ := bound_some hhh hhi
              exact ⟨Nat.le_trans h1 ht, fun w => run_bound _ (Nat.le_trans h1 ht) w⟩
        have hrun : ∀ w, (Instr.sliceBounds isSlice len cap' lo' hi' none).run P w = .ok (l, hh, cap') w := fun w => by
          unfold Instr.sliceBounds
          have h5 := hhr.2 w
          have h6 := h4 .sliceB w
          cases hi' with
          | none =>
            simp at h5; subst h5
            cases lo' with
            | none => simp [Sem.run_bind]; simpa using h6
            | some u => simp at h6; simp [Sem.run_bind, h6]
          | some y =>
            simp at h5
            cases lo' with
            | none => simp [Sem.run_bind, h5]; simpa using h6
            | some u => simp at h6; simp [Sem.run_bind, h5, h6]
        cases hg : (Nat.blt cap HALF || ((Nat.blt l len || Nat.beq l 0) && Nat.blt l HALF && Nat.ble HALF (Nat.sub cap l))) with
        | false => rw [hg] at h; cases h
        | true =>
          rw [hg] at h
          simp only at h
          rw [mkSl_eq] at h
          cases h
          simp only [blt_eq, beq_eq', ble_eq', Bool.or_eq_true, Bool.and_eq_true, decide_eq_true_eq] at hg
          refine ⟨l, hh, cap', hrun, fun b hb hlw => ?_, fun z1 z2 => by
              have z3 : cap' = l := by omega
              have z5 : cap = l := by omega
              have z4 : hh - l = 0 := by omega
              exact ⟨by rw [if_pos z5, z4, z5, Nat.sub_self], z4, z3⟩⟩
          have hsub : Nat.sub cap l = cap - l := rfl
          rw [hsub] at hg
          rcases hc with ⟨c1, rfl⟩ | ⟨c1, c2, c3⟩
          · exact .slice _ _ hb (by split <;> omega) (.inl ⟨by omega, rfl⟩) (by omega)
          · have hg' : (l < len ∨ l = 0) ∧ l < HALF ∧ HALF ≤ cap - l := by
              rcases hg with hg | ⟨⟨hg1, hg2⟩, hg3⟩
              · omega
              · exact ⟨hg1, hg2, hg3⟩
            have e1 : ¬ cap = l := by omega
            have e2 : (if cap' = l then o else o + l * size) = o + l * size := by
              by_cases h0 : cap' = l
              · have : l = 0 := by omega
                simp [h0, this]
              · simp [h0]
            rw [if_neg e1, e2]
            exact .slice _ _ hb (by omega) (.inr ⟨hg'.2.2, by omega, by omega⟩) (by omega)
      · cases h
    · cases h
theorem evO_vr {x : Option Operand} {f : Option OpV} (h : XO x nv = some f) {S : Nat → Prop} {R : Ren} {n : Nat} {vs : Vs} {ts : Ts} {a : Act} {v : Option Value}
    (hF : FrOk S R nv n vs ts a.tmps) (hS : ∀ t, x = some (.tmp t) → S t) (hv : evO f vs ts = some v) : OptR R v (x.map a.eval) := by
  unfold XO at h
  cases x with
  | none => cases h; cases hv; trivial
  | some x =>
    obtain ⟨g, hg⟩ := dX_some nv x
    simp only [hg] at h
    cases h
    unfold evO at hv
    simp only at hv
    split at hv
    · rename_i u hu
      cases hv
      exact dX_ok hg hF (fun t ht => hS t (by rw [ht])) hu
    · cases hv
theorem bnd0 {R : Ren} {x x' : Option Value} {i : Nat} (h : bound 0 x 0 = some i) (hx : OptR R x x') : x' = none ∨ ∃ k, x' = some (.int k (.ofNat 0)) := by
  cases x with
  | none => cases x' with
    | none => exact .inl rfl
    | some _ => exact hx.elim
  | some y => cases x' with
    | none => exact hx.elim
    | some y' =>
      obtain ⟨h1, k, rfl⟩ := bound_some h hx
      have : i = 0 := by omega
      subst this
      exact .inr ⟨k, rfl⟩
theorem slice_ok {t : TypeId} {x : Operand} {lo hi mx : Option Operand} (ho : o.op = .slice t x lo hi mx) (h : dSlice P nv t x lo hi mx = .pv f) : PvOk P nv o f := by
  intro S R n vs ts a v hF hU hv
  have hsx : ∀ t, x = .tmp t → S t := fun t ht => hU t (by simp [ho, Op.operands, ht])
  have hs : ∀ z, z = lo ∨ z = hi ∨ z = mx → ∀ t, z = some (.tmp t) → S t := fun z hz t ht => hU t (by
    simp only [ho, Op.operands]
    rcases hz with rfl | rfl | rfl <;> simp [ht])
  unfold dSlice at h
  split at h
  · rename_i i lo' hi' mx' hti hlo hhi hmx
    split at h
    · rename_i e hd
      split at h
      · rename_i j hj
        obtain ⟨g, hg, rfl⟩ := pv1_ok h
        simp only [oSliceSl] at hv
        split at hv
        · rename_i r oo n0 c lov hiv mxv hu hul huh hum
          have h1 := dX_ok hg hF hsx hu
          generalize hb : a.eval x = u at h1
          cases h1 with
          | sliceW ad =>
            have kz : ∀ q : Bool, (Bool.rec 0 0 q : Nat) = 0 := fun q => by cases q <;> rfl
            have c0 : (0 : Nat) < HALF := by unfold HALF; omega
            obtain ⟨l, hh, m, hrun, _, hz⟩ := sliceOf_run (P := P) true hv (R := R) (cap' := 0) (.inl ⟨c0, rfl⟩) (Nat.le_refl 0) (by rw [kz]; exact Nat.le_refl _) (Nat.zero_le _) (evO_vr hlo hF (hs lo (.inl rfl)) hul) (evO_vr hhi hF (hs hi (.inr (.inl rfl))) huh) (evO_vr hmx hF (hs mx (.inr (.inr rfl))) hum)
            obtain ⟨z1, z2, z3⟩ := hz rfl rfl
            subst z1
            refine ⟨_, .sliceW ad, fun w => ?_⟩
            simp only [execOp, ho, hb, Instr.sliceAt, Instr.slice]
            simp only [Sem.run_bind, run_under hti, hd, Result.andThen_ok, hrun w, run_sizeOf' hj, Sem.run_pure, addIf]
            rw [z2, z3, Nat.sub_self]
            simp
          | @slice _ b _ _ _ c' hr hlw hc hn =>
            have key : ∀ top, top = (Bool.rec n0 c (Nat.blt c HALF) : Nat) → top ≤ c' ∧ n0 ≤ top := by
              intro top ht
              rw [ht, blt_eq]
              by_cases hH : c < HALF
              · simp only [hH, decide_true]
                rcases hc with ⟨_, rfl⟩ | ⟨c1, _⟩
                · exact ⟨Nat.le_refl _, hn⟩
                · omega
              · simp only [hH, decide_false]
                exact ⟨hn, Nat.le_refl _⟩
            obtain ⟨k1, k2⟩ := key _ rfl
            obtain ⟨l, hh, m, hrun, hvr, _⟩ := sliceOf_run (P := P) true hv hc hn k1 k2 (evO_vr hlo hF (hs lo (.inl rfl)) hul) (evO_vr hhi hF (hs hi (.inr (.inl rfl))) huh) (evO_vr hmx hF (hs mx (.inr (.inr rfl))) hum)
            refine ⟨_, hvr _ hr hlw, fun w => ?_⟩
            simp only [execOp, ho, hb, Instr.sliceAt, Instr.slice]
            simp only [Sem.run_bind, run_under hti, hd, Result.andThen_ok, hrun w, run_sizeOf' hj, Sem.run_pure, addIf]
        · rename_i lov hiv mxv hu hul huh hum
          have h1 := dX_ok hg hF hsx hu
          generalize hb : a.eval x = u at h1
          cases h1
          have l1 := evO_vr hlo hF (hs lo (.inl rfl)) hul
          have l2 := evO_vr hhi hF (hs hi (.inr (.inl rfl))) huh
          have l3 := evO_vr hmx hF (hs mx (.inr (.inr rfl))) hum
          have hmh : ¬ (mxv.isSome = true ∧ hiv = none) := by
            rintro ⟨q1, rfl⟩
            cases mxv with
            | none => cases q1
            | some _ => cases hv
          have hv' : (match bound 0 lov 0, bound 0 hiv 0, bound 0 mxv 0 with | some _, some _, some _ => some (Value.slice none 0 0) | _, _, _ => none) = some v := by
            cases mxv with
            | none => exact hv
            | some _ => cases hiv with
              | none => cases hv
              | some _ => exact hv
          split at hv'
          · rename_i b1 b2 b3
            cases hv'
            have r0 : ∀ (k : IntKind) (code : BoundsCode) (w : World), (Instr.sliceBound (.int k (.ofNat 0)) 0 code).run P w = .ok 0 w := fun k code w => run_bound code (Nat.le_refl 0) w
            have hmh' : (hi.map a.eval) = none → (mx.map a.eval) = none := fun q => by
              cases hiv with
              | none => cases mxv with
                | none => cases hq : mx.map a.eval with
                  | none => rfl
                  | some _ => rw [hq] at l3; exact l3.elim
                | some _ => exact absurd ⟨rfl, rfl⟩ hmh
              | some _ => rw [q] at l2; exact l2.elim
            refine ⟨_, .slice0 0 0, fun w => ?_⟩
            have hrun : (Instr.sliceBounds true 0 0 (lo.map a.eval) (hi.map a.eval) (mx.map a.eval)).run P w = .ok (0, 0, 0) w := by
              rcases bnd0 b1 l1 with q1 | ⟨k1, q1⟩ <;> rcases bnd0 b2 l2 with q2 | ⟨k2, q2⟩ <;> rcases bnd0 b3 l3 with q3 | ⟨k3, q3⟩ <;>
                first
                | (have := hmh' q2; rw [q3] at this; cases this; done)
                | (rw [q1, q2, q3]; unfold Instr.sliceBounds; simp only [Sem.run_bind, r0, Result.andThen_ok, Sem.run_pure])
            simp only [execOp, ho, hb, Instr.sliceAt, Instr.slice]
            simp only [Sem.run_bind, run_under hti, hd, Result.andThen_ok, hrun, run_sizeOf' hj, Sem.run_pure]
            rfl
          · cases hv'
        · cases hv
      · cases h
    · rename_i len e hd
      split at h
      · rename_i j hj
        cases hH : Nat.blt len HALF with
        | false => rw [hH] at h; cases h
        | true =>
          rw [hH] at h
          simp only [cond_true] at h
          rw [blt_eq] at hH
          simp only [decide_eq_true_eq] at hH
          obtain ⟨g, hg, rfl⟩ := pv1_ok h
          simp only [oSliceArr] at hv
          split at hv
          · rename_i r oo lov hiv mxv hu hul huh hum
            have h1 := dX_ok hg hF hsx hu
            generalize hb : a.eval x = u at h1
            cases h1 with
            | @ptr _ b _ hr hlw =>
              obtain ⟨l, hh, m, hrun, hvr, _⟩ := sliceOf_run (P := P) false (r := r) hv (R := R) (.inl ⟨hH, rfl⟩) (Nat.le_refl _) (Nat.le_refl _) (Nat.le_refl _) (evO_vr hlo hF (hs lo (.inl rfl)) hul) (evO_vr hhi hF (hs hi (.inr (.inl rfl))) huh) (evO_vr hmx hF (hs mx (.inr (.inr rfl))) hum)
              refine ⟨_, hvr _ hr hlw, fun w => ?_⟩
              simp only [execOp, ho, hb, Instr.sliceAt]
              simp only [Sem.run_bind, run_under hti, hd, Result.andThen_ok, Instr.sureAddr, Sem.run_pure, hrun w, run_sizeOf' hj]
              have e2 := addIf b oo l m j.size
              by_cases hml : m = l
              · simp [hml]
              · simp [hml, add_lit]
          · cases hv
      · cases h
    · cases h
  · cases h
end
end Lm
end Go
namespace Go
namespace Lm
variable [Lo]
variable {P : Program}
def CelR (R : Ren) (c : List Value) (cs : Array Value) : Prop := c.length ≤ cs.size ∧ ∀ (i : Nat) x, c[i]? = some x → x.oneCell' = true ∧ ∃ x', cs[i]? = some x' ∧ VR R x x'
def CelX (R : Ren) (l : Nat) (c : List Value) (cs : Array Value) : Prop := c.length ≤ cs.size ∧ (∀ (i : Nat) x, c[i]? = some x → x.oneCell' = true) ∧ ∀ (i : Nat) x, l ≤ i → c[i]? = some x → ∃ x', cs[i]? = some x' ∧ VR R x x'
theorem CelR.x {R : Ren} {l : Nat} {c : List Value} {cs : Array Value} (h : CelR R c cs) : CelX R l c cs := ⟨h.1, fun i x hx => (h.2 i x hx).1, fun i x _ hx => (h.2 i x hx).2⟩
theorem CelX.mono {R S : Ren} (h : R.le S) {l : Nat} {c : List Value} {cs : Array Value} (k : CelX R l c cs) : CelX S l c cs := ⟨k.1, k.2.1, fun i x hl hx => let ⟨x', a, b⟩ := k.2.2 i x hl hx; ⟨x', a, b.mono h⟩⟩
inductive EsR (R : Ren) : List (Value × Value) → List MapEntry → Prop where
  | nil : EsR R [] []
  | cons {p : Value × Value} {e : MapEntry} {l m} (hk : e.key = p.1) (hv : VR R p.2 e.val) (h : EsR R l m) : EsR R (p :: l) (e :: m)
def FrV (R : Ren) (nv n : Nat) (vs : Vs) (tm : Array Value) : Prop := tm.size = n ∧ nv ≤ nv ∧ ∀ t v, t < nv → Lv.get VD t vs = some v → ∃ v', tm[t]? = some v' ∧ VR R v v'
def RowO (R : Ren) (r : Nat) (x : Row) (o : Obj) : Prop :=
  match x with
  | .cells c loose => ∃ cs e, o = .cells cs e (0, 0) ∧ CelR R c cs ∧ ∀ sz, loose = some sz → R.cap r * sz ≤ cs.size ∧ c.length ≤ R.cap r * sz
  | .ro c => ∃ cs e fz, o = .cells cs e fz ∧ CelX R (Lo.lo r) c cs
  | .map es _ => ∃ es' ck, o = .map es' ck ∧ EsR R es es'.toList ∧ ck = es.length ∧ ∀ (i : Nat) e, es'[i]? = some e → e.born = i
  | .loop ready pend nv n vars ps asg body d => ∃ l, o = .loop l ∧ l.state = (if ready then .ready else if pend.isNone then .busy else .done) ∧ l.pending = pend ∧ FrV R nv n vars l.tmps ∧ l.params.toList = ps ∧ l.assign = asg ∧ l.body = body ∧ R.blk d = some l.defers
  | .deferred => o = .deferred (some [])
  | .dead => True
theorem CelR.mono {R S : Ren} (h : R.le S) {c : List Value} {cs : Array Value} (k : CelR R c cs) : CelR S c cs :=
  ⟨k.1, fun i x hx => ⟨(k.2 i x hx).1, let ⟨x', a, b⟩ := (k.2 i x hx).2; ⟨x', a, b.mono h⟩⟩⟩
theorem EsR.mono {R S : Ren} (h : R.le S) {l m} (k : EsR R l m) : EsR S l m := by
  induction k with
  | nil => exact .nil
  | cons hk hv _ ih => exact .cons hk (hv.mono h) ih
theorem FrV.mono {R S : Ren} (h : R.le S) {nv n : Nat} {vs : Vs} {tm : Array Value} (k : FrV R nv n vs tm) : FrV S nv n vs tm :=
  ⟨k.1, k.2.1, fun t v ht hv => let ⟨v', a, b⟩ := k.2.2 t v ht hv; ⟨v', a, b.mono h⟩⟩
theorem RowO.mono {R S : Ren} (h : R.le S) {r b : Nat} (hb : R.blk r = some b) {x : Row} {o : Obj} (k : RowO R r x o) : RowO S r x o := by
  unfold RowO at k ⊢
  cases x with
  | cells c loose => obtain ⟨cs, e, h1, h2, h3⟩ := k; exact ⟨cs, e, h1, h2.mono h, fun sz hs => by rw [(h r b hb).2]; exact h3 sz hs⟩
  | ro c => obtain ⟨cs, e, fz, h1, h2⟩ := k; exact ⟨cs, e, fz, h1, h2.mono h⟩
  | map es ck => obtain ⟨es', ck', h1, h2, h3, h4⟩ := k; exact ⟨es', ck', h1, h2.mono h, h3, h4⟩
  | loop ready pend nv n vars ps asg body d => obtain ⟨l, h1, h2, h3, h4, h5, h6, h7, h8⟩ := k; exact ⟨l, h1, h2, h3, h4.mono h, h5, h6, h7, (h _ _ h8).1⟩
  | deferred => exact k
  | dead => trivial
def Live (h : Hp) (r : Nat) : Prop := ∃ x, hget h r = some x ∧ x ≠ .dead
def LiveW (h : Hp) (r : Nat) : Prop := ∃ x, hget h r = some x ∧ x ≠ .dead ∧ ∀ c, x ≠ .ro c
omit [Lo] in
theorem LiveW.live {h : Hp} {r : Nat} (k : LiveW h r) : Live h r := let ⟨x, a, b, _⟩ := k; ⟨x, a, b⟩
structure HR (R : Ren) (h : Hp) (w : World) : Prop where
  row : ∀ r b x, R.blk r = some b → hget h r = some x → x ≠ .dead → ∃ o, w.heap[b]? = some o ∧ RowO R r x o
  inj : ∀ r s b, R.blk r = some b → R.blk s = some b → Live h r → LiveW h s → r = s
  bnd : ∀ r b, R.blk r = some b → b < w.heap.size
  odd : ∀ x, hget h Lo.odd = some x → x = .dead
structure Ext (R R' : Ren) (h h' : Hp) (nx nx' : Nat) (M : List Nat) (w w' : World) : Prop where
  le : R.le R'
  nxle : nx ≤ nx'
  top : nx' ≤ nx'
  size : w.heap.size ≤ w'.heap.size
  os : w'.os = w.os
  tape : w'.tape = w.tape
  output : w'.output = w.output
  dom : ∀ r b, R'.blk r = some b → R.blk r = some b ∨ (nx ≤ r ∧ r < nx' ∧ b < w'.heap.size ∧ (w.heap.size ≤ b ∨ ∃ m ∈ M, R.blk m = some b ∧ ¬ Live h' m))
  kept : ∀ b, b < w.heap.size → (∀ m ∈ M, R.blk m ≠ some b) → w'.heap[b]? = w.heap[b]?
  hsame : ∀ r, r < nx → r ∉ M → hget h' r = hget h r
  rows : ∀ r b x, (nx ≤ r ∨ r ∈ M) → R'.blk r = some b → hget h' r = some x → x ≠ .dead → ∃ o, w'.heap[b]? = some o ∧ RowO R' r x o
  inj : ∀ r s b, nx ≤ r → nx ≤ s → R'.blk r = some b → R'.blk s = some b → Live h' r → LiveW h' s → r = s
  mlive : ∀ m ∈ M, m < nx ∧ LiveW h m
  mdom : ∀ m ∈ M, ∃ b, R.blk m = some b
def Dom (R : Ren) (nx : Nat) : Prop := Lo.arg ≤ nx ∧ ∀ r b, R.blk r = some b → r < nx
theorem Ext.domNew {R R' : Ren} {h h' : Hp} {nx nx' : Nat} {M : List Nat} {w w' : World} (e : Ext R R' h h' nx nx' M w w') (hd : Dom R nx)   : Dom R' nx' := ⟨Nat.le_trans hd.1 e.nxle, fun r b hb => by
  rcases e.dom r b hb with h1 | h1
  · have := hd.2 r b h1; have := e.nxle; omega
  · exact h1.2.1⟩
theorem Ext.old {R R' : Ren} {h h' : Hp} {nx nx' : Nat} {M : List Nat} {w w' : World} (e : Ext R R' h h' nx nx' M w w') (r b : Nat) (hr : r < nx) (hb : R'.blk r = some b) : R.blk r = some b := by
  rcases e.dom r b hb with h1 | h1
  · exact h1
  · omega
theorem Ext.hr {R R' : Ren} {h h' : Hp} {nx nx' : Nat} {M : List Nat} {w w' : World} (e : Ext R R' h h' nx nx' M w w') (hd : Dom R nx) (hh : HR R h w) : HR R' h' w' := by
  have live : ∀ r, r < nx → Live h' r → Live h r := fun r hr hl => by
    by_cases hm : r ∈ M
    · exact (e.mlive r hm).2.live
    · obtain ⟨x, h1, h2⟩ := hl
      exact ⟨x, by rw [← e.hsame r hr hm]; exact h1, h2⟩
  have liveW : ∀ r, r < nx → LiveW h' r → LiveW h r := fun r hr hl => by
    by_cases hm : r ∈ M
    · exact (e.mlive r hm).2
    · obtain ⟨x, h1, h2⟩ := hl
      exact ⟨x, by rw [← e.hsame r hr hm]; exact h1, h2⟩
  have hodd : Lo.odd < nx := Nat.lt_of_lt_of_le Lo.oddlt hd.1
  refine ⟨fun r b x hb hx hn => ?_, fun r s b hr hs lr ls => ?_, fun r b hb => ?_, fun x hx => ?_⟩
  rotate_left 3
  · by_cases hm : Lo.odd ∈ M
    · obtain ⟨y, q1, q2, _⟩ := (e.mlive _ hm).2
      exact absurd (hh.odd y q1) q2
    · rw [e.hsame _ hodd hm] at hx
      exact hh.odd x hx
  · by_cases hm : nx ≤ r ∨ r ∈ M
    · exact e.rows r b x hm hb hx hn
    · have hlt : r < nx := by omega
      have hnm : r ∉ M := fun q => hm (.inr q)
      have hb0 := e.old r b hlt hb
      have hx0 : hget h r = some x := by rw [← e.hsame r hlt hnm]; exact hx
      obtain ⟨o, h1, h2⟩ := hh.row r b x hb0 hx0 hn
      refine ⟨o, ?_, h2.mono e.le hb0⟩
      rw [e.kept b (hh.bnd r b hb0) (fun m hM hmb => hnm (by
        have := hh.inj r m b hb0 hmb ⟨x, hx0, hn⟩ (e.mlive m hM).2
        rw [this]; exact hM))]
      exact h1
  · rcases Nat.lt_or_ge r nx with h1 | h1 <;> rcases Nat.lt_or_ge s nx with h2 | h2
    · exact hh.inj r s b (e.old r b h1 hr) (e.old s b h2 hs) (live r h1 lr) (liveW s h2 ls)
    · exfalso
      have hr0 := e.old r b h1 hr
      rcases e.dom s b hs with h3 | ⟨_, _, _, h3 | ⟨m, hm, hmb, hd'⟩⟩
      · have := hd.2 s b h3; omega
      · have := hh.bnd r b hr0; omega
      · have := hh.inj r m b hr0 hmb (live r h1 lr) (e.mlive m hm).2
        exact hd' (this ▸ lr)
    · exfalso
      have hs0 := e.old s b h2 hs
      rcases e.dom r b hr with h3 | ⟨_, _, _, h3 | ⟨m, hm, hmb, hd'⟩⟩
      · have := hd.2 r b h3; omega
      · have := hh.bnd s b hs0; omega
      · have := hh.inj s m b hs0 hmb (live s h2 ls.live) (e.mlive m hm).2
        exact hd' (this ▸ ls.live)
    · exact e.inj r s b h1 h2 hr hs lr ls
  · rcases e.dom r b hb with h1 | h1
    · have := hh.bnd r b h1; have := e.size; omega
    · exact h1.2.2.1
theorem Ext.refl (R : Ren) (h : Hp) (nx : Nat) (w : World) (hd : Dom R nx) : Ext R R h h nx nx [] w w where
  le := .refl R
  nxle := Nat.le_refl _
  top := Nat.le_refl _
  size := Nat.le_refl _
  os := rfl
  tape := rfl
  output := rfl
  dom := fun r b hb => .inl hb
  kept := fun b _ _ => rfl
  hsame := fun r _ _ => rfl
  rows := fun r b x hr hb => by
    rcases hr with hr | hr
    · have := hd.2 r b hb; omega
    · cases hr
  inj := fun r s b h1 _ hr => by have := hd.2 r b hr; omega
  mlive := fun m hm => by cases hm
  mdom := fun m hm => by cases hm
omit [Lo] in
theorem logs_mem {n0 : Nat} {M log : List Nat} {m : Nat} : m ∈ logs n0 M log ↔ (m ∈ M ∧ m < n0) ∨ m ∈ log := by
  induction M with
  | nil => simp [logs]
  | cons r M ih =>
    have e : logs n0 (r :: M) log = (Bool.rec (logs n0 M log) (r :: logs n0 M log) (Nat.blt r n0) : List Nat) := rfl
    rw [e, blt_eq]
    by_cases h : r < n0
    · simp only [h, decide_true, List.mem_cons, ih]
      constructor
      · rintro (rfl | h1)
        · exact .inl ⟨.inl rfl, h⟩
        · rcases h1 with h1 | h1
          · exact .inl ⟨.inr h1.1, h1.2⟩
          · exact .inr h1
      · rintro (⟨rfl | h1, h2⟩ | h1)
        · exact .inl rfl
        · exact .inr (.inl ⟨h1, h2⟩)
        · exact .inr (.inr h1)
    · simp only [h, decide_false, List.mem_cons, ih]
      constructor
      · rintro (h1 | h1)
        · exact .inl ⟨.inr h1.1, h1.2⟩
        · exact .inr h1
      · rintro (⟨rfl | h1, h2⟩ | h1)
        · exact absurd h2 h
        · exact .inl ⟨h1, h2⟩
        · exact .inr h1
theorem Ext.trans {R0 R1 R2 : Ren} {h0 h1 h2 : Hp} {n0 n1 n2 : Nat} {M1 M2 : List Nat} {w0 w1 w2 : World} (e : Ext R0 R1 h0 h1 n0 n1 M1 w0 w1) (f : Ext R1 R2 h1 h2 n1 n2 M2 w1 w2) (hd : Dom R0 n0)
    (hh : HR R0 h0 w0) : Ext R0 R2 h0 h2 n0 n2 (logs n0 M2 M1) w0 w2 := by
  have hd1 := e.domNew hd
  have hr1 := e.hr hd hh
  have hr2 := f.hr hd1 hr1
  have dead2 : ∀ m, m < n1 → ¬ Live h1 m → ¬ Live h2 m := fun m hm hn hl => by
    by_cases hM : m ∈ M2
    · exact hn (f.mlive m hM).2.live
    · obtain ⟨x, a, b⟩ := hl
      exact hn ⟨x, by rw [← f.hsame m hm hM]; exact a, b⟩
  refine ⟨e.le.trans f.le, Nat.le_trans e.nxle f.nxle, f.top, Nat.le_trans e.size f.size, f.os.trans e.os, f.tape.trans e.tape, f.output.trans e.output, fun r b hb => ?_, fun b hb hM => ?_, fun r hr hM => ?_, fun r b x hr hb hx hn => ?_, fun r s b hr hs hrb hsb lr ls => ?_, fun m hm => ?_, fun m hm => ?_⟩
  · have h01 := e.nxle
    have h12 := f.nxle
    have hs1 := e.size
    have hs2 := f.size
    rcases f.dom r b hb with k | ⟨k1, k2, k3, k4⟩
    · rcases e.dom r b k with k | ⟨l1, l2, l3, l4⟩
      · exact .inl k
      · refine .inr ⟨l1, by omega, by omega, ?_⟩
        rcases l4 with l4 | ⟨m, q1, q2, q3⟩
        · exact .inl l4
        · exact .inr ⟨m, logs_mem.2 (.inr q1), q2, dead2 m (by have := (e.mlive m q1).1; omega) q3⟩
    · refine .inr ⟨by omega, k2, k3, ?_⟩
      rcases k4 with k4 | ⟨m, q1, q2, q3⟩
      · exact .inl (by omega)
      · rcases e.dom m b q2 with k | ⟨l1, l2, l3, l4⟩
        · exact .inr ⟨m, logs_mem.2 (.inl ⟨q1, hd.2 m b k⟩), k, q3⟩
        · rcases l4 with l4 | ⟨m', p1, p2, p3⟩
          · exact .inl l4
          · exact .inr ⟨m', logs_mem.2 (.inr p1), p2, dead2 m' (by have := (e.mlive m' p1).1; omega) p3⟩
  · have k1 := e.kept b hb (fun m hm => hM m (logs_mem.2 (.inr hm)))
    rw [← k1]
    refine f.kept b (by have := e.size; omega) (fun m hm hmb => ?_)
    rcases e.dom m b hmb with k | ⟨l1, l2, l3, l4⟩
    · exact hM m (logs_mem.2 (.inl ⟨hm, hd.2 m b k⟩)) k
    · rcases l4 with l4 | ⟨m', p1, p2, p3⟩
      · omega
      · exact hM m' (logs_mem.2 (.inr p1)) p2
  · rw [f.hsame r (by have := e.nxle; omega) (fun hm => hM (logs_mem.2 (.inl ⟨hm, hr⟩)))]
    exact e.hsame r hr (fun hm => hM (logs_mem.2 (.inr hm)))
  · by_cases hm : n1 ≤ r ∨ r ∈ M2
    · exact f.rows r b x hm hb hx hn
    · have hlt1 : r < n1 := by omega
      have hnm : r ∉ M2 := fun q => hm (.inr q)
      have hb1 := f.old r b hlt1 hb
      have hx1 : hget h1 r = some x := by rw [← f.hsame r hlt1 hnm]; exact hx
      have hr' : n0 ≤ r ∨ r ∈ M1 := by
        rcases hr with hr | hr
        · exact .inl hr
        · rcases logs_mem.1 hr with k | k
          · exact absurd k.1 hnm
          · exact .inr k
      obtain ⟨o, p1, p2⟩ := e.rows r b x hr' hb1 hx1 hn
      refine ⟨o, ?_, p2.mono f.le hb1⟩
      rw [f.kept b (hr1.bnd r b hb1) (fun m hm' hmb => hnm (by
        have := hr1.inj r m b hb1 hmb ⟨x, hx1, hn⟩ (f.mlive m hm').2
        rw [this]; exact hm'))]
      exact p1
  · have live : ∀ q, q < n1 → Live h2 q → Live h1 q := fun q hq hl => by
      by_cases hm : q ∈ M2
      · exact (f.mlive q hm).2.live
      · obtain ⟨x, a, c⟩ := hl
        exact ⟨x, by rw [← f.hsame q hq hm]; exact a, c⟩
    have liveW : ∀ q, q < n1 → LiveW h2 q → LiveW h1 q := fun q hq hl => by
      by_cases hm : q ∈ M2
      · exact (f.mlive q hm).2
      · obtain ⟨x, a, c⟩ := hl
        exact ⟨x, by rw [← f.hsame q hq hm]; exact a, c⟩
    have cross : ∀ p q, p < n1 → n1 ≤ q → R2.blk p = some b → R2.blk q = some b → Live h2 p → False := fun p q hp hq hpb hqb lp => by
      have hp1 := f.old p b hp hpb
      rcases f.dom q b hqb with h3 | ⟨_, _, _, h3 | ⟨m, hm, hmb, hd'⟩⟩
      · have := hd1.2 q b h3; omega
      · have := hr1.bnd p b hp1; omega
      · have := hr1.inj p m b hp1 hmb (live p hp lp) (f.mlive m hm).2
        exact hd' (this ▸ lp)
    rcases Nat.lt_or_ge r n1 with h1' | h1' <;> rcases Nat.lt_or_ge s n1 with h2' | h2'
    · exact e.inj r s b hr hs (f.old r b h1' hrb) (f.old s b h2' hsb) (live r h1' lr) (liveW s h2' ls)
    · exact (cross r s h1' h2' hrb hsb lr).elim
    · exact (cross s r h2' h1' hsb hrb ls.live).elim
    · exact f.inj r s b h1' h2' hrb hsb lr ls
  · rcases logs_mem.1 hm with ⟨k1, k2⟩ | k
    · refine ⟨k2, ?_⟩
      have := (f.mlive m k1).2
      by_cases hM : m ∈ M1
      · exact (e.mlive m hM).2
      · obtain ⟨x, a, b⟩ := this
        exact ⟨x, by rw [← e.hsame m k2 hM]; exact a, b⟩
    · exact e.mlive m k
  · rcases logs_mem.1 hm with ⟨k1, k2⟩ | k
    · obtain ⟨b, hb⟩ := f.mdom m k1
      exact ⟨b, e.old m b k2 hb⟩
    · exact e.mdom m k
end Lm
end Go
namespace Go
namespace Lm
variable [Lo]
variable {P : Program}
section
variable {nv : Nat} {o : Oper}
def RowAt (R : Ren) (h : Hp) (w : World) (r : Nat) : Prop := ∀ b x, R.blk r = some b → hget h r = some x → x ≠ .dead → ∃ o, w.heap[b]? = some o ∧ RowO R r x o
theorem HR.at {R : Ren} {h : Hp} {w : World} (k : HR R h w) (r : Nat) : RowAt R h w r := fun b x => k.row r b x
theorem HR.oddL {R : Ren} {h : Hp} {w : World} (k : HR R h w) : rowL h Lo.odd = none := by
  unfold rowL
  cases hx : hget h Lo.odd with
  | none => rfl
  | some x =>
    rw [k.odd x hx]
theorem rowL_at {R : Ren} {h : Hp} {w : World} {r b : Nat} {c : List Value} (k : RowAt R h w r) (hb : R.blk r = some b) (hr : rowL h r = some c) :
    ∃ cs e fz, w.heap[b]? = some (.cells cs e fz) ∧ CelX R (Lo.lo r) c cs := by
  unfold rowL at hr
  split at hr
  · rename_i cs l hx
    cases hr
    obtain ⟨o, h1, cs', e, rfl, h2, _⟩ := k b _ hb hx (by simp)
    exact ⟨cs', e, _, h1, h2.x⟩
  · rename_i cs hx
    cases hr
    obtain ⟨o, h1, cs', e, fz, rfl, h2⟩ := k b _ hb hx (by simp)
    exact ⟨cs', e, fz, h1, h2⟩
  · cases hr
theorem CelR.vl {R : Ren} {c : List Value} {cs : Array Value} (h : CelR R c cs) : VL R c (cs.toList.take c.length) := by
  refine ⟨by have := h.1; simp; omega, fun i x x' a b => ?_⟩
  obtain ⟨_, y, h1, h2⟩ := h.2 i x a
  rw [List.getElem?_take] at b
  split at b
  · have : y = x' := by
      rw [← Array.getElem?_toList] at h1
      rw [h1] at b; cases b; rfl
    exact this ▸ h2
  · cases b
theorem CelR.one {R : Ren} {c : List Value} {cs : Array Value} (h : CelR R c cs) : ∀ x, x ∈ c → x.oneCell' = true := fun x hx => by
  obtain ⟨i, hi⟩ := List.mem_iff_getElem?.1 hx
  exact (h.2 i x hi).1
theorem CelX.one {R : Ren} {l : Nat} {c : List Value} {cs : Array Value} (h : CelX R l c cs) : ∀ x, x ∈ c → x.oneCell' = true := fun x hx => by
  obtain ⟨i, hi⟩ := List.mem_iff_getElem?.1 hx
  exact h.2.1 i x hi
theorem CelX.vl {R : Ren} {l off : Nat} {c : List Value} {cs : Array Value} (h : CelX R l c cs) (hl : l ≤ off) : VL R (c.drop off) ((cs.toList.take c.length).drop off) := by
  refine ⟨by have := h.1; simp; omega, fun i x x' a b => ?_⟩
  rw [List.getElem?_drop] at a b
  obtain ⟨y, h1, h2⟩ := h.2.2 (off + i) x (by omega) a
  rw [List.getElem?_take] at b
  split at b
  · have : y = x' := by
      rw [← Array.getElem?_toList] at h1
      rw [h1] at b; cases b; rfl
    exact this ▸ h2
  · cases b
omit [Lo] in
theorem part1_drop (agg : Bool) (size off : Nat) (c : List Value) : part1 agg size c off = part1 agg size (c.drop off) 0 := by
  unfold part1
  cases agg with
  | false => simp only [nth_eq, List.getElem?_drop, Nat.add_zero]
  | true => simp only [dropL_eq, List.drop_zero]
theorem part1_vrd {R : Ren} {agg : Bool} {size off : Nat} {cs cs' : List Value} {v : Value} (h : part1 agg size cs off = some v) (hc : VL R (cs.drop off) (cs'.drop off)) (h1 : agg = true → ∀ x, x ∈ cs → x.oneCell' = true) :
    (agg = false ∧ ∃ v', cs'[off]? = some v' ∧ VR R v v') ∨ (agg = true ∧ off + size ≤ cs.length ∨ agg = true ∧ size = 0) ∧ v = .agg ((cs.drop off).take size).toArray ∧ VR R v (.agg ((cs'.drop off).take size).toArray) := by
  rw [part1_drop] at h
  rcases part1_vr h hc (fun ha x hx => h1 ha x (List.mem_of_mem_drop hx)) with ⟨q1, v', q2, q3⟩ | ⟨q1, q2, q3⟩
  · rw [List.getElem?_drop, Nat.add_zero] at q2
    exact .inl ⟨q1, v', q2, q3⟩
  · rw [List.drop_zero] at q2 q3
    refine .inr ⟨?_, q2, q3⟩
    rcases q1 with ⟨q, q'⟩ | q
    · rw [List.length_drop] at q'
      rcases Nat.eq_zero_or_pos size with h0 | h0
      · exact .inr ⟨q, h0⟩
      · exact .inl ⟨q, by omega⟩
    · exact .inr q
theorem loadVar_run {R : Ren} {t : TypeId} {i : TI} (hi : ty P t = some i) {h : Hp} {w : World} {r b off : Nat} {v : Value} (k : RowAt R h w r) (hb : R.blk r = some b) (hlo : Lo.lo r ≤ off) (hv : loadAt i.agg i.size h r off = some v) :
    ∃ v', VR R v v' ∧ (loadVar t ⟨b, off, none⟩).run P w = .ok v' w := by
  unfold loadAt at hv
  split at hv
  · rename_i c hc
    obtain ⟨cs, e, fz, hw, hcel⟩ := rowL_at k hb hc
    have hcell : ∀ (j : Nat) y, cs[j]? = some y → w.cell? ⟨b, j, none⟩ = some y := fun j y hy => by simp [World.cell?, hw, hy]
    rcases part1_vrd hv (hcel.vl hlo) (fun _ => hcel.one) with ⟨ha, v', h2, h3⟩ | ⟨ha, _, h3⟩
    · refine ⟨v', h3, ?_⟩
      unfold loadVar
      rw [Sem.run_bind, run_isAgg' hi, ha]
      have h4 : cs[off]? = some v' := by
        rw [List.getElem?_take] at h2
        split at h2
        · simpa using h2
        · cases h2
      simp [hcell off v' h4]
    · have ha' : i.agg = true := by rcases ha with ha | ha <;> exact ha.1
      refine ⟨_, h3, ?_⟩
      unfold loadVar
      rw [Sem.run_bind, run_isAgg' hi, ha']
      simp only [Result.andThen_ok, if_true, Sem.run_bind, run_sizeOf' hi]
      have hlen : ((cs.toList.take c.length).drop off |>.take i.size).length = i.size := by
        rcases ha with ⟨_, h0⟩ | ⟨_, h0⟩
        · have := hcel.1
          simp; omega
        · simp [h0]
      have hl := run_loadCells_list (P := P) w ⟨b, off, none⟩ ((cs.toList.take c.length).drop off |>.take i.size) (fun j y hy => by
        rw [add_lit]
        rw [List.getElem?_take] at hy
        split at hy
        · rw [List.getElem?_drop, List.getElem?_take] at hy
          split at hy
          · exact hcell _ _ (by simpa using hy)
          · cases hy
        · cases hy)
      rw [hlen] at hl
      rw [hl]
      rfl
  · cases hv
def LdOk (P : Program) (nv : Nat) (o : Oper) (f : OpL) : Prop :=
  ∀ {S : Nat → Prop} {R : Ren} {n : Nat} {vs : Vs} {ts : Ts} {a : Act} {h : Hp} {w : World} {v : Value} {r : Nat}, FrOk S R nv n vs ts a.tmps → Uses o S → f vs ts h = .v v r → RowAt R h w r →
    ∃ v', VR R v v' ∧ (execOp a.eval o).run P w = .ok (.value v') w
theorem load_ok {t : TypeId} {x : Operand} {f : OpL} (ho : o.op = .load t x) (h : dLoad P nv t x = .ld f) : LdOk P nv o f := by
  intro S R n vs ts a hp w v r hF hU hv hrow
  have hx : ∀ t, x = .tmp t → S t := fun t ht => hU t (by simp [ho, Op.operands, ht])
  obtain ⟨g, hg⟩ := dX_some nv x
  unfold dLoad at h
  split at h
  · rename_i i g' hi hg'
    cases h
    unfold oLoad at hv
    split at hv
    · rename_i r' off hu
      unfold rdOut at hv
      split at hv
      · rename_i v' hv'
        cases hv
        have h1 := dX_ok hg' hF hx hu
        generalize hb : a.eval x = u at h1
        cases h1 with
        | @ptr _ b _ hr hlo =>
          obtain ⟨v'', h2, h3⟩ := loadVar_run hi hrow hr hlo hv'
          refine ⟨v'', h2, ?_⟩
          simp only [execOp, ho, hb, Instr.loadAt, Instr.sureAddr, Sem.run_bind, Sem.run_pure, Result.andThen_ok, h3]
      · cases hv
    · cases hv
  · cases h
theorem EsR.len {R : Ren} {l m} (h : EsR R l m) : m.length = l.length := by
  induction h with
  | nil => rfl
  | cons _ _ _ ih => simp [ih]
end
end Lm
end Go
