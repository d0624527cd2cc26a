/- Lists in memory, and what lies below: for seats of other packages than book. -/
import Derived.WalkKit
import Derived.Lib.Hide
import Derived.Test.YtomgnpfpaodpiaaDoorChecked
import Derived.Deep.Slices
import Derived.Lib.SmallJoins
import Derived.SizedLaws
import Derived.ChangeArms
import Derived.BigQuiet
import Derived.Below
import Derived.Deep.RegionHeld3
import Derived.WalkSpells
import Derived.WalkSmall
import Derived.Handy
import Derived.Deep.QuietTactic
set_option linter.unusedVariables false
set_option linter.unusedSimpArgs false
namespace Go.Proofs.YtomgnpfpaodpiaaDoor
open Go Go.RowKit
/-- the n-th cell of a row of structs -/
def RowAt (w : World) (B sz : Nat) (A : Option Addr) (rows : List (List Value)) : Prop :=
  0 < rows.length → ∃ b off, A = some ⟨b, off, none⟩ ∧ b < B ∧ ∀ i r, rows[i]? = some r → ∀ j u, j < sz → r[j]? = some u → w.cell? ⟨b, off + i * sz + j, none⟩ = some u
abbrev vi (n : Int) : Value := .int .i64 n
/-- what is known of a list in memory: its capacity may be anything -/
structure RowsAt (w : World) (B sz : Nat) (A : Option Addr) (cap : Nat) (m : List (List Value)) : Prop where
  len : m.length ≤ cap
  cap : cap ≤ 9223372036854775807
  few : m.length ≤ 35184372088832
  row : RowAt w B sz A m
abbrev intC (n : Int) : List Value := [vi n]
abbrev IntsAt (w : World) (B : Nat) (A : Option Addr) (cap : Nat) (l : List Int) : Prop := RowsAt w B 1 A cap (l.map intC)
section keep
variable {w w' : World} {B B' sz cap : Nat} {A : Option Addr}
theorem RowAt.keep {rows : List (List Value)} (h : RowAt w B sz A rows) (hk : ∀ p : Addr, p.block < B → w'.cell? p = w.cell? p) : RowAt w' B sz A rows := fun hl => by
  obtain ⟨b, off, hA, hb, hc⟩ := h hl
  exact ⟨b, off, hA, hb, fun i r hr j u hj hu => (hk _ hb).trans (hc i r hr j u hj hu)⟩
theorem RowAt.more {rows : List (List Value)} (h : RowAt w B sz A rows) (hB : B ≤ B') : RowAt w B' sz A rows := fun hl => by
  obtain ⟨b, off, hA, hb, hc⟩ := h hl
  exact ⟨b, off, hA, by omega, hc⟩
theorem RowAt.take {rows : List (List Value)} (h : RowAt w B sz A rows) (k : Nat) : RowAt w B sz A (rows.take k) := fun hl => by
  rw [List.length_take] at hl
  obtain ⟨b, off, hA, hb, hc⟩ := h (by omega)
  refine ⟨b, off, hA, hb, fun i r hr j u hj hu => hc i r ?_ j u hj hu⟩
  rw [List.getElem?_take] at hr
  split at hr <;> simp_all
theorem RowsAt.keep {m : List (List Value)} (h : RowsAt w B sz A cap m) (hk : ∀ p : Addr, p.block < B → w'.cell? p = w.cell? p) : RowsAt w' B sz A cap m := ⟨h.len, h.cap, h.few, h.row.keep hk⟩
theorem RowsAt.more {m : List (List Value)} (h : RowsAt w B sz A cap m) (hB : B ≤ B') : RowsAt w B' sz A cap m := ⟨h.len, h.cap, h.few, h.row.more hB⟩
theorem RowsAt.below {m : List (List Value)} (h : RowsAt w B sz A cap m) (hb : Below B w w') : RowsAt w' B sz A cap m := h.keep fun _ hp => hb.cell hp
theorem RowsAt.to {m : List (List Value)} (h : RowsAt w w.heap.size sz A cap m) (hb : Below w.heap.size w w') : RowsAt w' w'.heap.size sz A cap m := (h.below hb).more hb.size
theorem RowsAt.lens {α : Type} {enc : α → List Value} {l : List α} (h : RowsAt w B sz A cap (l.map enc)) : l.length ≤ cap ∧ l.length ≤ 35184372088832 := by
  have h1 := h.len
  have h2 := h.few
  rw [List.length_map] at h1 h2
  exact ⟨h1, h2⟩
end keep
/-- the cells of the k-th element of a row of two -/
theorem row2 {w : World} {B : Nat} {A : Option Addr} {α : Type} {enc : α → List Value} {l : List α} (h : RowAt w B 2 A (l.map enc)) {k : Nat} {x : α} {c0 c1 : Value} (hx : l[k]? = some x) (he : enc x = [c0, c1]) :
    ∃ b off, A = some ⟨b, off, none⟩ ∧ b < B ∧ w.cell? ⟨b, off + k * 2, none⟩ = some c0 ∧ w.cell? ⟨b, off + k * 2 + 1, none⟩ = some c1 := by
  have hk : k < l.length := (List.getElem?_eq_some_iff.1 hx).1
  obtain ⟨b, off, hA, hb, hc⟩ := h (by rw [List.length_map]; omega)
  have hr : (l.map enc)[k]? = some [c0, c1] := by rw [List.getElem?_map, hx]; simp [he]
  exact ⟨b, off, hA, hb, hc k _ hr 0 c0 (by omega) rfl, hc k _ hr 1 c1 (by omega) rfl⟩
theorem ints_at {w : World} {B cap : Nat} {A : Option Addr} {l : List Int} (h : IntsAt w B A cap l) {k : Nat} {x : Int} (hx : l[k]? = some x) :
    ∃ b off, A = some ⟨b, off, none⟩ ∧ b < B ∧ w.cell? ⟨b, off + k, none⟩ = some (vi x) := by
  have hk : k < l.length := (List.getElem?_eq_some_iff.1 hx).1
  obtain ⟨b, off, hA, hb, hc⟩ := h.row (by rw [List.length_map]; omega)
  have hr : (l.map intC)[k]? = some [vi x] := by rw [List.getElem?_map, hx]; rfl
  exact ⟨b, off, hA, hb, by simpa using hc k _ hr 0 (vi x) (by omega) rfl⟩
def spinI (n m : Int) : Int := if m < 1 then 0 else n % m
def lotI (a b n : Int) : Int := if b ≤ a then a else a + spinI n (b - a + 1)
theorem all_no {n k : Nat} {p : Nat → Bool} {b : Bool} (hk : k < n) (h : p k = false) : (b && (List.range n).all p) = false := by
  rw [Bool.and_eq_false_iff]
  right
  rw [List.all_eq_false]
  exact ⟨k, List.mem_range.2 hk, by simp [h]⟩
theorem all_yes {n : Nat} {p : Nat → Bool} {b : Bool} (hb : b = true) (h : ∀ k, k < n → p k = true) : (b && (List.range n).all p) = true := by
  rw [Bool.and_eq_true]
  exact ⟨hb, List.all_eq_true.2 fun k hk => h k (List.mem_range.1 hk)⟩
theorem upto_succ {p : Nat → Bool} {k : Nat} (h : ∀ j, j < k → p j = true) (hk : p k = true) : ∀ j, j < k + 1 → p j = true := fun j hj => by
  rcases Nat.lt_succ_iff_lt_or_eq.1 hj with h1 | rfl
  · exact h j h1
  · exact hk
theorem after {W w1 : World} (hb : Below W.heap.size W w1) : ((∀ b o, b < W.heap.size → w1.cell? ⟨b, o, none⟩ = W.cell? ⟨b, o, none⟩) ∧ (∀ b o, b < W.heap.size → w1.frozen? ⟨b, o, none⟩ = W.frozen? ⟨b, o, none⟩) ∧ (∀ k, k < W.heap.size → k < w1.heap.size)) ∧ W.heap.size ≤ w1.heap.size :=
  ⟨⟨fun b o h => hb.cell (p := ⟨b, o, none⟩) h, fun b o h => hb.frozen (p := ⟨b, o, none⟩) h, fun k hk => Nat.lt_of_lt_of_le hk hb.size⟩, hb.size⟩
theorem retB {a b : Bool} (h : a = b) : Ending.returned (.bool a) = .returned (.bool b) := by rw [h]
theorem retI {a b : Int} (h : a = b) : Ending.returned (vi a) = .returned (vi b) := by rw [h]
end Go.Proofs.YtomgnpfpaodpiaaDoor
/- How the arguments of the laws read: rows. -/
namespace Go.Proofs.YtomgnpfpaodpiaaDoor
open Go Go.RowKit Go.Deep Go.ChangeShapes Go.WideShapes
set_option maxHeartbeats 1000000
abbrev Fair {H : Type} (P : Program) (t : TypeId) (d : DataW H) : Prop := ∀ n ∈ d.weights P t, n ≤ reachBytes
theorem cell_none {w : World} {a : Addr} {v : Value} (h : w.cell? a = some v) : a.spot = none ∧ a.block < w.heap.size := by
  unfold World.cell? at h
  split at h
  · rename_i ho
    refine ⟨?_, (Array.getElem?_eq_some_iff.1 ho).1⟩
    split at h
    · cases h
    · rename_i hs; simpa using hs
  · cases h
section
variable {H : Type} {enc : TypeId × Value → H} {P : Program} {w : World}
end
end Go.Proofs.YtomgnpfpaodpiaaDoor
/- The data of floors as plain lists, how they lie in memory, and what is valid: plain mathematics. -/
namespace Go.Proofs.YtomgnpfpaodpiaaDoor
open Go Go.RowKit
structure SLine where
  shelf : Int
  many : Int
structure SSlip where
  ad : Option Addr
  cap : Nat
  lines : List SLine
  till : Int
structure Floor where
  fA : Option Addr
  fC : Nat
  far : List Int
  slo : Int
  shi : Int
  pA : Option Addr
  pC : Nat
  picks : List (Int × Int)
  carry : Int
  sA : Option Addr
  sC : Nat
  slips : List SSlip
def SLine.cells (l : SLine) : List Value := [vi l.shelf, vi l.many]
abbrev SLine.val (l : SLine) : Value := .agg #[vi l.shelf, vi l.many]
abbrev SSlip.slice (s : SSlip) : Value := .slice s.ad s.lines.length s.cap
def SSlip.cells (s : SSlip) : List Value := [s.slice, vi s.till]
abbrev SSlip.val (s : SSlip) : Value := .agg #[s.slice, vi s.till]
def spanC (p : Int × Int) : List Value := [vi p.1, vi p.2]
abbrev spanV (p : Int × Int) : Value := .agg #[vi p.1, vi p.2]
abbrev Floor.val (f : Floor) : Value := .agg #[.slice f.fA f.far.length f.fC, vi f.slo, vi f.shi, .slice f.pA f.picks.length f.pC, vi f.carry, .slice f.sA f.slips.length f.sC]
abbrev SLinesAt (w : World) (B : Nat) (A : Option Addr) (cap : Nat) (l : List SLine) : Prop := RowsAt w B 2 A cap (l.map SLine.cells)
structure FloorAt (w : World) (B : Nat) (f : Floor) : Prop where
  far : IntsAt w B f.fA f.fC f.far
  picks : RowsAt w B 2 f.pA f.pC (f.picks.map spanC)
  slips : RowsAt w B 2 f.sA f.sC (f.slips.map SSlip.cells)
  each : ∀ s ∈ f.slips, SLinesAt w B s.ad s.cap s.lines
theorem FloorAt.to {w w' : World} {f : Floor} (h : FloorAt w w.heap.size f) (hb : Below w.heap.size w w') : FloorAt w' w'.heap.size f := ⟨h.far.to hb, h.picks.to hb, h.slips.to hb, fun s hs => (h.each s hs).to hb⟩
theorem FloorAt.below {w w' : World} {B : Nat} {f : Floor} (h : FloorAt w B f) (hb : Below B w w') : FloorAt w' B f := ⟨h.far.below hb, h.picks.below hb, h.slips.below hb, fun s hs => (h.each s hs).below hb⟩
/- the table of limits -/
def limLo (k : Int) : Int := if k = 1 ∨ k = 3 ∨ k = 5 ∨ k = 6 then 0 else 1
def limHi (k : Int) : Int := if k = 0 then 12 else if k = 1 then 500 else if k = 2 then 10 else if k = 3 then 300 else if k = 4 then 20 else if k = 5 then 9 else if k = 6 then 100000 else if k = 7 then 12 else if k = 8 then 20 else 5
structure Lim (w : World) : Prop where
  pos : 0 < w.heap.size
  lo : ∀ k : Nat, k < 10 → w.cell? ⟨0, k * 2, none⟩ = some (vi (limLo k))
  hi : ∀ k : Nat, k < 10 → w.cell? ⟨0, k * 2 + 1, none⟩ = some (vi (limHi k))
theorem Lim.below {w w' : World} (h : Lim w) {B : Nat} (hB : 0 < B) (hb : Below B w w') : Lim w' :=
  ⟨by have := hb.size; have := h.pos; omega, fun k hk => (hb.cell (p := ⟨0, k * 2, none⟩) hB).trans (h.lo k hk), fun k hk => (hb.cell (p := ⟨0, k * 2 + 1, none⟩) hB).trans (h.hi k hk)⟩
theorem Lim.next {W w1 : World} (h : Lim W) (hb : Below W.heap.size W w1) : Lim w1 := h.below h.pos hb
theorem Lim.alloc {w : World} (h : Lim w) (o : Obj) : Lim (w.alloc o) := h.below h.pos ((Below.refl _ w).alloc (Nat.le_refl _) o)
theorem Lim.setCell {w : World} (h : Lim w) {p : Addr} (hp : 1 ≤ p.block) (u : Value) : Lim (w.setCell p u) := h.below (by omega) ((Below.refl 1 w).setCell hp u)
theorem Lim.drew {w : World} (h : Lim w) : Lim w.drew := h.below (by omega) (Below.refl 1 w).drew
/- what is valid -/
def hasB (lo hi n : Int) : Bool := decide (lo ≤ n) && decide (n ≤ hi)
def withinB (lo hi a b : Int) : Bool := decide (a ≤ b) && (hasB lo hi a && hasB lo hi b)
/-- the line k is right: a shelf of n ones behind that of the line before it, and pieces of it -/
def goodLine (n : Int) (l : List SLine) (k : Nat) : Bool :=
  match l[k]? with
  | some x => (decide ((match k with | 0 => (0 : Int) | i + 1 => (match l[i]? with | some p => p.shelf + 1 | none => 0)) ≤ x.shelf) && decide (x.shelf < n)) && hasB 1 20 x.many
  | none => true
def linesB (n : Int) (l : List SLine) : Bool := hasB 1 12 l.length && (List.range l.length).all (goodLine n l)
def goodShelf (f : Floor) (k : Nat) : Bool :=
  match f.far[k]? with
  | some x => (hasB 0 500 x && (match k with | 0 => true | i + 1 => (match f.far[i]? with | some p => decide (p ≤ x) | none => true))) && (match f.picks[k]? with | some q => withinB 0 300 q.1 q.2 | none => true)
  | none => true
def shelvesB (f : Floor) : Bool := (hasB 1 12 f.far.length && decide ((f.picks.length : Int) = f.far.length)) && (List.range f.far.length).all (goodShelf f)
def goodSlip (f : Floor) (k : Nat) : Bool := match f.slips[k]? with | some s => hasB 0 100000 s.till && linesB f.far.length s.lines | none => true
def validB (f : Floor) : Bool := (((shelvesB f && withinB 1 10 f.slo f.shi) && hasB 1 20 f.carry) && hasB 0 9 f.slips.length) && (List.range f.slips.length).all (goodSlip f)
def slipB (f : Floor) (n : Int) : Bool := decide (0 ≤ n) && decide (n < (f.slips.length : Int))
/-- how many pieces of each of the twelve shelves there are -/
def piecesF (l : List SLine) : List Int := l.foldl (fun p x => p.set x.shelf.toNat (p[x.shelf.toNat]?.getD 0 + x.many)) (List.replicate 12 0)
abbrev piecesV (p : List Int) : Value := .agg (p.map vi).toArray
/-- the lines of some pieces, from a shelf on -/
def linesFrom : Nat → List Int → List SLine
  | _, [] => []
  | k, n :: r => if 0 < n then ⟨k, n⟩ :: linesFrom (k + 1) r else linesFrom (k + 1) r
def linesOf (p : List Int) : List SLine := linesFrom 0 p
/-- the last shelf of which there are pieces -/
def lastF (p : List Int) : Option Nat := (List.range p.length).foldl (fun acc k => if 0 < p[k]?.getD 0 then some k else acc) none
def withoutF (p q : List Int) : List Int := (p.zip q).map fun x => x.1 - x.2
/-- what is carried on the next tour, and what is left -/
def moveF (x : List Int × List Int) : List Int × List Int := match lastF x.1 with | some k => (x.1.set k (x.1[k]?.getD 0 - 1), x.2.set k (x.2[k]?.getD 0 + 1)) | none => x
def farthestF (carry : Nat) (left : List Int) : List Int := (carry.rec (motive := fun _ => List Int × List Int) (left, List.replicate 12 0) fun _ x => moveF x).2
def loadsF (carry : Nat) : Nat → List Int → List (List Int)
  | 0, _ => []
  | n + 1, left => if left.all (· == 0) then [] else farthestF carry left :: loadsF carry n (withoutF left (farthestF carry left))
end Go.Proofs.YtomgnpfpaodpiaaDoor
/- Pieces of shelves: what is carried, and what is left. Plain mathematics. -/
namespace Go.Proofs.YtomgnpfpaodpiaaDoor
open Go Go.RowKit
/-- a number of pieces of each of twelve shelves, none of them below 0, and how many at most -/
structure Twelve (m : Int) (p : List Int) : Prop where
  len : p.length = 12
  pos : ∀ n ∈ p, 0 ≤ n
  top : ∀ n ∈ p, n ≤ m
theorem Twelve.at_ {m : Int} {p : List Int} (h : Twelve m p) {k : Nat} (hk : k < 12) : ∃ n, p[k]? = some n ∧ 0 ≤ n ∧ n ≤ m := by
  have : k < p.length := by rw [h.len]; exact hk
  exact ⟨p[k], List.getElem?_eq_getElem this, h.pos _ (List.getElem_mem _), h.top _ (List.getElem_mem _)⟩
theorem twelve_zero : Twelve 0 (List.replicate 12 0) := ⟨by simp, fun n h => by rw [List.mem_replicate] at h; omega, fun n h => by rw [List.mem_replicate] at h; omega⟩
theorem Twelve.set {m : Int} {p : List Int} (h : Twelve m p) {n : Int} (h0 : 0 ≤ n) (h1 : n ≤ m) (k : Nat) : Twelve m (p.set k n) :=
  ⟨by rw [List.length_set]; exact h.len, fun x hx => by
    rcases List.mem_or_eq_of_mem_set hx with hx | rfl
    · exact h.pos x hx
    · exact h0, fun x hx => by
    rcases List.mem_or_eq_of_mem_set hx with hx | rfl
    · exact h.top x hx
    · exact h1⟩
theorem Twelve.wide {m m' : Int} {p : List Int} (h : Twelve m p) (hm : m ≤ m') : Twelve m' p := ⟨h.len, h.pos, fun n hn => Int.le_trans (h.top n hn) hm⟩
theorem lastF_is (p : List Int) : match lastF p with
    | none => ∀ (k : Nat) (n : Int), p[k]? = some n → n ≤ 0
    | some k => (∃ n, p[k]? = some n ∧ 0 < n) ∧ ∀ (j : Nat) (n : Int), k < j → p[j]? = some n → n ≤ 0 := by
  have key : ∀ m, m ≤ p.length → match (List.range m).foldl (fun acc k => if 0 < p[k]?.getD 0 then some k else acc) none with
      | none => ∀ (k : Nat) (n : Int), k < m → p[k]? = some n → n ≤ 0
      | some k => k < m ∧ (∃ n, p[k]? = some n ∧ 0 < n) ∧ ∀ (j : Nat) (n : Int), k < j → j < m → p[j]? = some n → n ≤ 0 := by
    intro m
    induction m with
    | zero => intro _; simp
    | succ m ih =>
      intro hm
      have ih := ih (by omega)
      rw [List.range_succ, List.foldl_append]
      simp only [List.foldl_cons, List.foldl_nil]
      have hg : p[m]? = some p[m] := List.getElem?_eq_getElem (by omega)
      rw [hg]
      simp only [Option.getD_some]
      by_cases hp : 0 < p[m]
      · rw [if_pos hp]
        refine ⟨by omega, ⟨p[m], hg, hp⟩, fun j n h1 h2 _ => by omega⟩
      · rw [if_neg hp]
        generalize (List.range m).foldl (fun acc k => if 0 < p[k]?.getD 0 then some k else acc) none = acc at ih ⊢
        cases acc with
        | none =>
          intro k n hk hn
          by_cases hkm : k = m
          · subst hkm; rw [hg] at hn; cases hn; omega
          · exact ih k n (by omega) hn
        | some k =>
          obtain ⟨i1, i2, i3⟩ := ih
          refine ⟨by omega, i2, fun j n h1 h2 hn => ?_⟩
          by_cases hjm : j = m
          · subst hjm; rw [hg] at hn; cases hn; omega
          · exact i3 j n h1 (by omega) hn
  have := key p.length (Nat.le_refl _)
  change match lastF p with | none => _ | some k => _ at this
  cases h : lastF p with
  | none =>
    rw [h] at this
    intro k n hn
    exact this k n (List.getElem?_eq_some_iff.1 hn).1 hn
  | some k =>
    rw [h] at this
    exact ⟨this.2.1, fun j n h1 hn => this.2.2 j n h1 (List.getElem?_eq_some_iff.1 hn).1 hn⟩
/-- the first k of the twelve shelves, for a loop over them -/
def lastK (p : List Int) (k : Nat) : Option Nat := (List.range k).foldl (fun acc k => if 0 < p[k]?.getD 0 then some k else acc) none
theorem lastK_succ (p : List Int) (k : Nat) : lastK p (k + 1) = if 0 < p[k]?.getD 0 then some k else lastK p k := by
  unfold lastK
  rw [List.range_succ, List.foldl_append]
  rfl
theorem lastK_all {p : List Int} (h : p.length = 12) : lastK p 12 = lastF p := by unfold lastK lastF; rw [h]
/- moving the farthest pieces -/
def movesF (k : Nat) (left : List Int) : List Int × List Int := k.rec (motive := fun _ => List Int × List Int) (left, List.replicate 12 0) fun _ x => moveF x
theorem movesF_succ (k : Nat) (left : List Int) : movesF (k + 1) left = moveF (movesF k left) := rfl
theorem farthest_is (c : Nat) (left : List Int) : farthestF c left = (movesF c left).2 := rfl
theorem moves_stop {left : List Int} {k : Nat} (h : lastF (movesF k left).1 = none) : ∀ d, movesF (k + d) left = movesF k left
  | 0 => rfl
  | d + 1 => by
    rw [← Nat.add_assoc, movesF_succ, moves_stop h d]
    unfold moveF
    rw [h]
theorem moves_ok {left : List Int} {m : Int} (h : Twelve m left) : ∀ k, Twelve m (movesF k left).1 ∧ Twelve k (movesF k left).2 ∧ ∀ (j : Nat) (a b c : Int), left[j]? = some a → (movesF k left).1[j]? = some b → (movesF k left).2[j]? = some c → b + c = a
  | 0 => ⟨h, twelve_zero, fun j a b c h1 h2 h3 => by
    have e1 : (movesF 0 left).1 = left := rfl
    have e2 : (movesF 0 left).2 = List.replicate 12 0 := rfl
    rw [e1, h1] at h2
    rw [e2, List.getElem?_replicate] at h3
    split at h3
    · cases h2; cases h3; omega
    · cases h3⟩
  | k + 1 => by
    obtain ⟨i1, i2, i3⟩ := moves_ok h k
    rw [movesF_succ]
    unfold moveF
    have hl := lastF_is (movesF k left).1
    cases hf : lastF (movesF k left).1 with
    | none =>
      simp only
      exact ⟨i1, i2.wide (by omega), i3⟩
    | some s =>
      rw [hf] at hl
      obtain ⟨⟨n, hn, hp⟩, _⟩ := hl
      have hs : s < 12 := by have := (List.getElem?_eq_some_iff.1 hn).1; rw [i1.len] at this; exact this
      obtain ⟨c, hc, c0, c1⟩ := i2.at_ hs
      have hnm := i1.top n (List.mem_of_getElem? hn)
      simp only [hn, hc, Option.getD_some]
      refine ⟨i1.set (by omega) (by omega) s, (i2.wide (m' := ((k + 1 : Nat) : Int)) (by omega)).set (by omega) (by omega) s, fun j a b c' h1 h2 h3 => ?_⟩
      by_cases hj : j = s
      · subst hj
        rw [List.getElem?_set_self (by rw [i1.len]; exact hs)] at h2
        rw [List.getElem?_set_self (by rw [i2.len]; exact hs)] at h3
        cases h2; cases h3
        have := i3 j a n c h1 hn hc
        omega
      · rw [List.getElem?_set_ne (by omega)] at h2 h3
        exact i3 j a b c' h1 h2 h3
end Go.Proofs.YtomgnpfpaodpiaaDoor
/- A region that draws its order, whose operations only read and whose callees may make memory: one walk serves every order; what is kept is that nothing old has changed. -/
namespace Go.Proofs.YtomgnpfpaodpiaaDoor
open Go Go.RowKit
/-- new blocks, and how many draws there were -/
structure More where
  blocks : List Obj
  drawn : Nat
instance : Nonempty More := ⟨⟨[], 0⟩⟩
def plus (w : World) (g : More) : World := { w with heap := w.heap ++ g.blocks.toArray, drawn := g.drawn }
theorem plus_cell (w : World) (g : More) (b o : Nat) (h : b < w.heap.size) : (plus w g).cell? ⟨b, o, none⟩ = w.cell? ⟨b, o, none⟩ := by
  simp [World.cell?, plus, Array.getElem?_append, h]
theorem plus_frozen (w : World) (g : More) (b o : Nat) (h : b < w.heap.size) : (plus w g).frozen? ⟨b, o, none⟩ = w.frozen? ⟨b, o, none⟩ := by
  simp [World.frozen?, plus, Array.getElem?_append, h]
theorem plus_below (w : World) (g : More) : Below w.heap.size w (plus w g) :=
  ⟨rfl, rfl, rfl, by simp [plus], fun k hk => by simp [plus, Array.getElem?_append, hk]⟩
theorem below_plus {w w' : World} (h : Below w.heap.size w w') : ∃ g, w' = plus w g := by
  refine ⟨⟨w'.heap.toList.drop w.heap.size, w'.drawn⟩, ?_⟩
  obtain ⟨h1, h2, h3, h4, h5⟩ := h
  have hh : w'.heap = w.heap ++ (w'.heap.toList.drop w.heap.size).toArray := by
    apply Array.ext_getElem?
    intro i
    rw [Array.getElem?_append]
    split
    · rename_i hi; exact h5 i hi
    · rename_i hi; simp; congr 1; omega
  cases w; cases w'
  simp only [plus] at *
  subst h1 h2 h3
  congr
theorem plus_plus {w w' : World} {g : More} (h : Below (plus w g).heap.size (plus w g) w') : ∃ g', w' = plus w g' :=
  below_plus ((plus_below w g).trans (h.mono (plus_below w g).size))
section
variable {P : Program}
theorem Calls.grow_of {f : FuncId} {args : Array Value} {w : World} {g : More} {v : Value}
    (h : Calls P f args (plus w g) fun e w' => e = .returned v ∧ Below (plus w g).heap.size (plus w g) w') : Calls P f args (plus w g) fun e w'' => e = .returned v ∧ ∃ g', w'' = plus w g' :=
  h.mono fun _ _ ⟨he, hb⟩ => ⟨he, plus_plus hb⟩
theorem wp_region_grow_lit {id : Nat} {Q : Exit → Act → World → Prop} {a : Act} {w : World} {l : List Oper} (hm : P.follows .mixedOrders = true) (hB : Region.lexB .any l.toArray = true)
    (h : wpQuiet P l.toArray (fun w' => ∃ g, w' = plus w g) (fun a' => ∀ w', (∃ g, w' = plus w g) → Q .normal a' w') l a) : (Code.region id l.toArray true).wp P Q a w :=
  wp_region_quiet (C := fun w' => ∃ g, w' = plus w g) hm hB ⟨⟨[], w.drawn + 1⟩, by simp [plus]⟩ (by simpa using h)
theorem below_of_plus {w w' : World} (h : ∃ g, w' = plus w g) : Below w.heap.size w w' := by
  obtain ⟨g, rfl⟩ := h
  exact plus_below w g
end
attribute [go_sem] plus_cell plus_frozen
end Go.Proofs.YtomgnpfpaodpiaaDoor
/- A region that draws its order and makes a box: what only reads, or calls what only adds blocks, is taken first, in one order; what is left is done in whatever world has grown meanwhile. -/
namespace Go.Proofs.YtomgnpfpaodpiaaDoor
open Go Go.RowKit
section
variable {P : Program} {ops : Array Oper} {md : Region.Mode} {Q : Exit → Act → World → Prop} {C : World → Prop}
/-- what is so stays so where only blocks are added -/
def Stays (C : World → Prop) : Prop := ∀ w w' : World, C w → Below w.heap.size w w' → C w'
/-- all orders from here on; between two operations the world may have grown -/
def wpUp (P : Program) (md : Region.Mode) (ops : Array Oper) (Q : Exit → Act → World → Prop) (C : World → Prop) : Nat → Array Bool → Act → World → Prop
  | 0, listed, a, w => Region.ready md ops listed = [] ∧ ∀ w', Below w.heap.size w w' → C w' → Q .normal a w'
  | fuel + 1, listed, a, w => ∀ w', Below w.heap.size w w' → C w' →
    (Region.ready md ops listed = [] → Q .normal a w') ∧
    ∀ i ∈ Region.ready md ops listed, wpOp P ops Q i (fun a1 w1 => C w1 ∧ wpUp P md ops Q C fuel (listed.setIfInBounds i true) a1 w1) a w'
theorem gr_trans {w w1 w2 : World} (h : Below w.heap.size w w1) (h' : Below w1.heap.size w1 w2) : Below w.heap.size w w2 := h.trans (h'.mono h.size)
theorem wpUp_up {n : Nat} {l : Array Bool} {a : Act} {w w1 : World} (h : wpUp P md ops Q C n l a w) (hw : Below w.heap.size w w1) : wpUp P md ops Q C n l a w1 := by
  cases n with
  | zero => exact ⟨h.1, fun w' h1 h2 => h.2 w' (gr_trans hw h1) h2⟩
  | succ n => exact fun w' h1 h2 => h w' (gr_trans hw h1) h2
theorem wpUp_any : ∀ (n : Nat) (l : Array Bool) (a : Act) (w : World), C w → wpUp P md ops Q C n l a w → wpAny P md ops Q n l a w
  | 0, _, _, w, hB, h => ⟨h.1, h.2 w (Below.refl _ _) hB⟩
  | n + 1, _, _, w, hB, h => ⟨(h w (Below.refl _ _) hB).1, fun i hi => wpOp_mono (fun a1 w1 h1 => wpUp_any n _ a1 w1 h1.1 h1.2) ((h w (Below.refl _ _) hB).2 i hi)⟩
/-- in every world that has the class the operation yields v and only adds blocks -/
def YieldsUp (P : Program) (ops : Array Oper) (C : World → Prop) (o : Oper) (v : Value) (a : Act) : Prop :=
  (Region.wanted o (yielded ops a.tmps) = true ∧ ∀ w, C w → o.quietAt P a (fun w' => Below w.heap.size w w') w v) ∨
  (Region.wanted o (yielded ops a.tmps) = false ∧ v = undef)
theorem YieldsUp.of_same {o : Oper} {v : Value} {a a' : Act} (hy : YieldsUp P ops C o v a) (he : execOp a'.eval o = execOp a.eval o)
    (hw : Region.wanted o (yielded ops a'.tmps) = Region.wanted o (yielded ops a.tmps)) : YieldsUp P ops C o v a' := by
  unfold YieldsUp Oper.quietAt at *
  rw [he, hw]
  exact hy
theorem YieldsUp.wpOp (hC : Stays C) {i : Nat} {o : Oper} {v : Value} {a : Act} (hi : ops[i]? = some o) (hy : YieldsUp P ops C o v a) {K : Act → World → Prop} {w : World} (hB : C w)
    (h : ∀ w', Below w.heap.size w w' → K (a.put o.dst v) w') : Go.wpOp P ops Q i K a w := by
  unfold Go.wpOp
  simp only [hi]
  rcases hy with ⟨hw, hv⟩ | ⟨hw, rfl⟩
  · simp only [hw, if_true]
    refine .inl (Oper.wp_of_quiet (C := fun w' => Below w.heap.size w w') (K := fun a' => a' = a.put o.dst v) (Below.refl _ _) (fun a' w' hw' ha => ha ▸ h w' hw') ⟨v, fun w1 hw1 => ?_, rfl⟩)
    have h1 := hv w1 (hC _ _ hB hw1)
    unfold Oper.quietAt at h1 ⊢
    generalize (execOp a.eval o).run P w1 = r at *
    cases r with
    | ok n w' =>
      cases n <;> simp only [Oper.quietUpon] at h1 ⊢
      case value u => exact h1
      case skip => exact h1
      case enter f args => exact ⟨h1.1, h1.2.mono fun e w'' h2 => ⟨h2.1, gr_trans hw1 h2.2⟩⟩
    | halt x w' => simp only [Oper.quietUpon] at h1
  · simp only [hw, Bool.false_eq_true, if_false]; exact h w (Below.refl _ _)
/-- an operation that is apart does the same, whether the other's value is there already or not -/
theorem wpOp_apart {j : Nat} {oi oj : Oper} {v : Value} (hj : ops[j]? = some oj) (hap : oi.apart ops oj = true)
    (hsi : ∀ cs b, oi.op ≠ .select cs b) (hsj : ∀ cs b, oj.op ≠ .select cs b)
    (hQ : ∀ c a w, Q (.panic c) (a.put oi.dst v) w → Q (.panic c) a w) {K : Act → World → Prop} {a : Act} {w : World}
    (hy : YieldsUp P ops C oi v a) (h : wpOp P ops Q j K (a.put oi.dst v) w) :
    wpOp P ops Q j (fun a' w' => YieldsUp P ops C oi v a' ∧ K (a'.put oi.dst v) w') a w := by
  obtain ⟨h1, h2, h3⟩ := Oper.apart_spec hap
  have kp : ∀ (b : Act), YieldsUp P ops C oi v b → ∀ u, YieldsUp P ops C oi v (b.put oj.dst u) := fun b hb u =>
    hb.of_same (execOp_put oi hsi b oj.dst u h3) (wanted_put oi b oj.dst u h3)
  have kd : ∀ d, YieldsUp P ops C oi v { a with defers := d :: a.defers } := fun d => hy.of_same rfl rfl
  have pc : ∀ (b : Act) u, (b.put oi.dst v).put oj.dst u = (b.put oj.dst u).put oi.dst v := fun b u => Act.put_comm b v u h2
  unfold wpOp at h ⊢
  simp only [hj] at h ⊢
  rw [wanted_put oj a oi.dst v h1] at h
  by_cases hw : Region.wanted oj (yielded ops a.tmps) = true
  · simp only [hw, if_true] at h ⊢
    rcases h with h | ⟨hasks, hlets⟩
    · left
      unfold Oper.wp at h ⊢
      rw [execOp_put oj hsj a oi.dst v h1] at h
      generalize (execOp a.eval oj).run P w = r at *
      cases r with
      | ok n w' =>
        cases n <;> simp only [Oper.upon] at h ⊢
        case value u => exact ⟨kp a hy u, pc a u ▸ h⟩
        case skip => exact ⟨kp a hy _, pc a undef ▸ h⟩
        case defer d =>
          refine ⟨kp _ (kd d) _, ?_⟩
          rw [← pc, ← Act.put_defers]
          exact h
        case enter f args =>
          refine Calls.mono h fun e w'' he => ?_
          cases e with
          | returned u => exact ⟨kp a hy u, pc a u ▸ he⟩
          | panicked c => exact hQ _ _ _ he
          | outgrown => exact he
        case row row args => exact Rows.mono h fun u w'' he => ⟨kp a hy u, pc a u ▸ he⟩
      | halt x w' =>
        cases x <;> simp only [Oper.upon] at h ⊢
        case panic u => exact hQ _ _ _ h
    · right
      refine ⟨?_, hlets⟩
      unfold Oper.asks at *
      rw [execOp_put oj hsj a oi.dst v h1] at hasks
      exact hasks
  · simp only [hw] at h ⊢
    exact ⟨kp a hy _, pc a undef ▸ h⟩
/-- what only reads may be taken first -/
theorem wpUp_first (hC : Stays C) {i : Nat} {oi : Oper} {v : Value} (hi : ops[i]? = some oi) (hsel : ∀ (j : Nat) (o : Oper) cs b, ops[j]? = some o → o.op ≠ .select cs b)
    (hQ : ∀ c a w, Q (.panic c) (a.put oi.dst v) w → Q (.panic c) a w) :
    ∀ (fuel : Nat) (listed : Array Bool) (a : Act) (w : World),
      (∀ j oj, ops[j]? = some oj → j ≠ i → listed.getD j true = false → (∀ e ∈ oj.after, Region.binds md e = true → e.on ≠ i) → oi.apart ops oj = true) →
      i ∈ Region.ready md ops listed → YieldsUp P ops C oi v a →
      wpUp P md ops Q C fuel (listed.setIfInBounds i true) (a.put oi.dst v) w → wpUp P md ops Q C (fuel + 1) listed a w := by
  intro fuel
  induction fuel with
  | zero =>
    intro listed a w _ hr hy H w' hw hB
    refine ⟨fun h => (by rw [h] at hr; cases hr), fun j hj => ?_⟩
    by_cases hji : j = i
    · subst hji
      exact hy.wpOp hC hi hB fun w1 h1 => ⟨hC _ _ hB h1, wpUp_up H (gr_trans hw h1)⟩
    · have h2 := ready_mono hj hji
      rw [H.1] at h2
      cases h2
  | succ fuel ih =>
    intro listed a w hfree hr hy H w' hw hB
    refine ⟨fun h => (by rw [h] at hr; cases hr), fun j hj => ?_⟩
    by_cases hji : j = i
    · subst hji
      exact hy.wpOp hC hi hB fun w1 h1 => ⟨hC _ _ hB h1, wpUp_up H (gr_trans hw h1)⟩
    · have h1 := (H w' hw hB).2 j (ready_mono hj hji)
      obtain ⟨hjun, oj, hoj, hall⟩ := mem_ready.1 hj
      have hnot : ∀ e ∈ oj.after, Region.binds md e = true → e.on ≠ i := fun e he hb heq => by
        have h1 := hall e he hb
        have h0 := (mem_ready.1 hr).1
        rw [heq] at h1
        rcases Nat.lt_or_ge i listed.size with h' | h'
        · simp [h'] at h0 h1; rw [h0] at h1; cases h1
        · simp [Array.getElem?_eq_none h'] at h1
      have h2 := wpOp_apart hoj (hfree j oj hoj hji hjun hnot) (fun cs b => hsel i oi cs b hi) (fun cs b => hsel j oj cs b hoj) hQ hy h1
      have hfree' : ∀ k ok, ops[k]? = some ok → k ≠ i → (listed.setIfInBounds j true).getD k true = false →
          (∀ e ∈ ok.after, Region.binds md e = true → e.on ≠ i) → oi.apart ops ok = true := fun k ok hk hki hun hno => by
        refine hfree k ok hk hki ?_ hno
        by_cases hjk : j = k
        · subst hjk; exact hjun
        · rw [getD_set_ne true hjk] at hun; exact hun
      refine wpOp_mono (fun a' w1 h3 => ⟨h3.2.1, ih (listed.setIfInBounds j true) a' w1 hfree' (ready_mono hr (Ne.symm hji)) h3.1 ?_⟩) h2
      rw [Array.setIfInBounds_comm _ _ hji]
      exact h3.2.2
/- the quiet operations, in an order that is given -/
def upB (md : Region.Mode) (ops : Array Oper) : List Nat → Array Bool → Bool
  | [], _ => true
  | k :: ks, listed => (Region.ready md ops listed).contains k && (Region.free md ops listed k && (((ops[k]?).bind (·.dst)).isSome && (ks.all (fun j => (ops[j]?).bind (·.dst) != (ops[k]?).bind (·.dst)) && upB md ops ks (listed.setIfInBounds k true))))
def upTo : List Nat → Array Bool → Array Bool
  | [], listed => listed
  | k :: ks, listed => upTo ks (listed.setIfInBounds k true)
def slotsB (n : Nat) (lq : List Oper) : Bool := lq.all fun o => match o.dst with | some d => decide (d < n) | none => true
/-- a slot that nothing writes any more keeps its value -/
theorem quiet_keeps {C : World → Prop} {a' : Act} {d : Tmp} : ∀ (l : List Oper) (a : Act), (∀ o ∈ l, o.dst ≠ some d) → wpQuiet P ops C (fun a'' => a'' = a') l a → a'.tmps[d]? = a.tmps[d]?
  | [], a, _, h => by rw [show a = a' from h]
  | o :: l, a, hd, h => by
    have hp : ∀ v, (a.put o.dst v).tmps[d]? = a.tmps[d]? := fun v => by
      cases ho : o.dst with
      | none => rfl
      | some e =>
        have : e ≠ d := fun he => hd o (by simp) (he ▸ ho)
        simp [Act.put, Array.getElem?_setIfInBounds_ne this]
    unfold wpQuiet at h
    split at h
    · obtain ⟨v, _, h2⟩ := h
      exact (quiet_keeps l _ (fun o ho => hd o (List.mem_cons_of_mem _ ho)) h2).trans (hp v)
    · exact (quiet_keeps l _ (fun o ho => hd o (List.mem_cons_of_mem _ ho)) h).trans (hp undef)
theorem put_size (a : Act) (d : Option Tmp) (v : Value) : (a.put d v).tmps.size = a.tmps.size := by
  cases d <;> simp [Act.put]
theorem wpUp_lex (hC : Stays C) {w9 : World} (h9 : C w9) (hs : Region.noSelect ops = true) (hQ : ∀ c a a1 w, Q (.panic c) a1 w → Q (.panic c) a w) {a' : Act} {n : Nat} {w : World} : ∀ (ks : List Nat) (lq : List Oper) (listed : Array Bool) (a : Act),
    lq.map some = ks.map (ops[·]?) → upB md ops ks listed = true → slotsB a.tmps.size lq = true →
    (∀ w0, C w0 → wpQuiet P ops (fun w' => Below w0.heap.size w0 w') (fun a'' => a'' = a') lq a) →
    wpUp P md ops Q C n (upTo ks listed) a' w → wpUp P md ops Q C (n + ks.length) listed a w
  | [], lq, listed, a, hl, _, _, hq, h => by
    obtain rfl : lq = [] := by simpa using hl
    have := hq w9 h9
    rw [show a = a' from this]
    exact h
  | k :: ks, [], _, _, hl, _, _, _, _ => by simp at hl
  | k :: ks, o :: lq, listed, a, hl, hB, hd, hq, h => by
    simp only [List.map_cons, List.cons.injEq] at hl
    obtain ⟨hk, hl⟩ := hl
    simp only [upB, Bool.and_eq_true] at hB
    obtain ⟨hr, hf, hsome, hall, hB'⟩ := hB
    have hd' : slotsB a.tmps.size lq = true := by
      simp only [slotsB, List.all_cons, Bool.and_eq_true] at hd ⊢
      exact hd.2
    have h0 : ops[k]? = some o := hk.symm
    have fin : ∀ v, YieldsUp P ops C o v a → (∀ w0, C w0 → wpQuiet P ops (fun w' => Below w0.heap.size w0 w') (fun a'' => a'' = a') lq (a.put o.dst v)) → wpUp P md ops Q C (n + (ks.length + 1)) listed a w := fun v hy hq' =>
      wpUp_first hC h0 (Region.noSelect_spec hs) (fun c a w h => hQ c a _ w h) (n + ks.length) listed a w (Region.free_spec h0 hf) (by simpa using hr) hy
        (wpUp_lex hC h9 hs hQ ks lq _ _ hl hB' (by rw [put_size]; exact hd') hq' h)
    by_cases hw : Region.wanted o (yielded ops a.tmps) = true
    · rw [h0] at hsome
      obtain ⟨d, hdst⟩ : ∃ d, o.dst = some d := by
        cases ho : o.dst with
        | none => simp [ho] at hsome
        | some d => exact ⟨d, rfl⟩
      have hlt : d < a.tmps.size := by
        simp only [slotsB, List.all_cons, Bool.and_eq_true, hdst] at hd
        simpa using hd.1
      have hnd : ∀ p ∈ lq, p.dst ≠ some d := fun p hp hpd => by
        have hm : some p ∈ lq.map some := List.mem_map.2 ⟨p, hp, rfl⟩
        rw [hl] at hm
        obtain ⟨j, hj, hjp⟩ := List.mem_map.1 hm
        have := List.all_eq_true.1 hall j hj
        rw [hjp, h0] at this
        simp [hpd, hdst] at this
      have hex : ∀ w0, C w0 → ∃ v, (∀ w1, Below w0.heap.size w0 w1 → o.quietAt P a (fun w' => Below w0.heap.size w0 w') w1 v) ∧
          wpQuiet P ops (fun w' => Below w0.heap.size w0 w') (fun a'' => a'' = a') lq (a.put o.dst v) ∧ a'.tmps[d]? = some v := fun w0 h1 => by
        have h2 := hq w0 h1
        unfold wpQuiet at h2
        rw [if_pos hw] at h2
        obtain ⟨v, h3, h4⟩ := h2
        refine ⟨v, h3, h4, (quiet_keeps lq _ hnd h4).trans ?_⟩
        simp [Act.put, hdst, hlt]
      obtain ⟨v, _, hv2, hv3⟩ := hex w9 h9
      have same : ∀ w0, C w0 → (∀ w1, Below w0.heap.size w0 w1 → o.quietAt P a (fun w' => Below w0.heap.size w0 w') w1 v) ∧
          wpQuiet P ops (fun w' => Below w0.heap.size w0 w') (fun a'' => a'' = a') lq (a.put o.dst v) := fun w0 h1 => by
        obtain ⟨u, h3, h4, h5⟩ := hex w0 h1
        obtain rfl : v = u := Option.some.inj (hv3.symm.trans h5)
        exact ⟨h3, h4⟩
      exact fin v (.inl ⟨hw, fun w1 h1 => (same w1 h1).1 w1 (Below.refl _ _)⟩) fun w0 h1 => (same w0 h1).2
    · refine fin undef (.inr ⟨by simpa using hw, rfl⟩) fun w0 h1 => ?_
      have h2 := hq w0 h1
      unfold wpQuiet at h2
      rwa [if_neg hw] at h2
theorem wpUp_one {n i : Nat} {o : Oper} {listed : Array Bool} {a : Act} {w : World} (hr : Region.ready md ops listed = [i]) (ho : ops[i]? = some o) (hw : Region.wanted o (yielded ops a.tmps) = true)
    (h : ∀ w', Below w.heap.size w w' → C w' → ∀ K : Act → World → Prop, (∀ a1 w1, C w1 → wpUp P md ops Q C n (listed.setIfInBounds i true) a1 w1 → K a1 w1) → o.wp P a w' K Q) :
    wpUp P md ops Q C (n + 1) listed a w := fun w' h1 h2 => by
  refine ⟨fun h0 => (by rw [hr] at h0; cases h0), fun j hj => ?_⟩
  rw [hr, List.mem_singleton] at hj
  subst hj
  unfold wpOp
  simp only [ho, hw, if_true]
  exact .inl (h w' h1 h2 _ fun a1 w1 h3 h4 => ⟨h3, h4⟩)
theorem wpUp_done {n : Nat} {listed : Array Bool} {a : Act} {w : World} (hr : Region.ready md ops listed = []) (h : ∀ w', Below w.heap.size w w' → C w' → Q .normal a w') : wpUp P md ops Q C n listed a w := by
  cases n with
  | zero => exact ⟨hr, h⟩
  | succ n => exact fun w' h1 h2 => ⟨fun _ => h w' h1 h2, fun i hi => by rw [hr] at hi; cases hi⟩
theorem plus_class (w : World) : (fun w' => ∃ g, w' = plus w g) = fun w' => Below w.heap.size w w' := funext fun _ => propext ⟨below_of_plus, below_plus⟩
theorem wp_region_up (hC : Stays C) {id : Nat} {a : Act} {w : World} {l : List Oper} (ks : List Nat) (n : Nat) (lq : List Oper) (a' : Act) (hm : P.follows .mixedOrders = true) (hs : Region.noSelect l.toArray = true) (hn : l.length = n + ks.length)
    (hB : upB .any l.toArray ks (Array.replicate l.length false) = true) (hl : lq.map some = ks.map (l.toArray[·]?)) (hd : slotsB a.tmps.size lq = true) (hQ : ∀ c a a1 w, Q (.panic c) a1 w → Q (.panic c) a w)
    (h0 : C w) (hq : ∀ w0, C w0 → wpQuiet P l.toArray (fun w' => ∃ g, w' = plus w0 g) (fun a'' => a'' = a') lq a)
    (h : wpUp P .any l.toArray Q C n (upTo ks (Array.replicate l.length false)) a' w) : (Code.region id l.toArray true).wp P Q a w := by
  have hb : Below w.heap.size w { w with drawn := w.drawn + 1 } := ⟨rfl, rfl, rfl, Nat.le_refl _, fun _ _ => rfl⟩
  refine wp_region_any hm (wpUp_any (C := C) _ _ _ _ (hC _ _ h0 hb) ?_)
  have hsz : l.toArray.size = n + ks.length := by simpa using hn
  rw [hsz]
  have := wpUp_lex (md := .any) hC h0 hs hQ ks lq (Array.replicate l.length false) a hl hB hd (fun w0 h1 => by have := hq w0 h1; rwa [plus_class] at this) h
  rw [hn] at this
  exact wpUp_up this hb
theorem picks_map {l : List Oper} : ∀ (ks : List Nat), ks.all (fun k => decide (k < l.length)) = true → (ks.map (fun k => l.getD k default)).map some = ks.map (l.toArray[·]?)
  | [], _ => rfl
  | k :: ks, h => by
    simp only [List.all_cons, Bool.and_eq_true, decide_eq_true_eq] at h
    have ih := picks_map ks h.2
    rw [List.map_cons, List.map_cons, List.map_cons, ih]
    congr 1
    simp [List.getElem?_eq_getElem h.1]
/-- the same, told for a walk: ks the quiet ones in an order that may be, n how many are left -/
theorem wp_region_box (C : World → Prop) (hC : Stays C) {id : Nat} {a : Act} {w : World} {l : List Oper} (ks : List Nat) (n N : Nat) {lq : List Oper} {a' : Act} (hm : P.follows .mixedOrders = true) (hs : Region.noSelect l.toArray = true) (hn : l.length = n + ks.length)
    (hB : upB .any l.toArray ks (Array.replicate l.length false) = true) (hk : ks.all (fun k => decide (k < l.length)) = true) (hN : a.tmps.size = N) (hd : slotsB N (ks.map (fun k => l.getD k default)) = true)
    (hl : ks.map (fun k => l.getD k default) = lq) (h0 : C w) (hq : ∀ w0, C w0 → wpQuiet P l.toArray (fun w' => ∃ g, w' = plus w0 g) (fun a'' => a'' = a') lq a)
    (h : wpUp P .any l.toArray (NoPanic Q) C n (upTo ks (Array.replicate l.length false)) a' w) : (Code.region id l.toArray true).wp P Q a w := by
  subst hl hN
  exact wp_region_noPanic (wp_region_up hC ks n _ a' hm hs hn hB (picks_map ks hk) hd (fun _ _ _ _ h => h) h0 hq h)
theorem stays_below (w : World) : Stays (fun w' => Below w.heap.size w w') := fun _ _ h h' => gr_trans h h'
end
theorem cell_lt {W : World} {p : Addr} {v : Value} (h : W.cell? p = some v) : p.block < W.heap.size := by
  apply Classical.byContradiction
  intro hn
  have : W.heap[p.block]? = none := Array.getElem?_eq_none (by omega)
  simp [World.cell?, this] at h
theorem cell_keep {W w' : World} {p : Addr} {v : Value} (hb : Below W.heap.size W w') (h : W.cell? p = some v) : w'.cell? p = some v := (hb.cell (cell_lt h)).trans h
theorem cell_alloc {W : World} {p : Addr} {v : Value} (h : W.cell? p = some v) (o : Obj) : (W.alloc o).cell? p = some v := (((Below.refl _ W).alloc (Nat.le_refl _) o).cell (cell_lt h)).trans h
theorem soft_keep {W w' : World} {p : Addr} (hb : Below W.heap.size W w') (hp : p.block < W.heap.size) (hf : W.frozen? p = false) : w'.frozen? p = false := (hb.frozen hp).trans hf
end Go.Proofs.YtomgnpfpaodpiaaDoor
/- In a region that draws its order: further operations that only read, taken first from the middle on; two that are ready at once. -/
namespace Go.Proofs.YtomgnpfpaodpiaaDoor
open Go Go.RowKit
section
variable {P : Program} {md : Region.Mode} {Q : Exit → Act → World → Prop}
theorem wpUp_more {C : World → Prop} (hC : Stays C) {l : List Oper} (ks : List Nat) (n N : Nat) {m : Nat} {lq : List Oper} {listed : Array Bool} {a a' : Act} {w w9 : World} (hs : Region.noSelect l.toArray = true)
    (hB : upB md l.toArray ks listed = true) (hk : ks.all (fun k => decide (k < l.length)) = true) (hN : a.tmps.size = N) (hd : slotsB N (ks.map (fun k => l.getD k default)) = true) (hm : m = n + ks.length)
    (hl : ks.map (fun k => l.getD k default) = lq) (h0 : C w9) (hq : ∀ w0, C w0 → wpQuiet P l.toArray (fun w' => ∃ g, w' = plus w0 g) (fun a'' => a'' = a') lq a)
    (h : wpUp P md l.toArray (NoPanic Q) C n (upTo ks listed) a' w) : wpUp P md l.toArray (NoPanic Q) C m listed a w := by
  subst hl hN hm
  exact wpUp_lex hC h0 hs (fun _ _ _ _ h => h) ks _ listed a (picks_map ks hk) hB hd (fun w0 h1 => by have := hq w0 h1; rwa [plus_class] at this) h
theorem wpUp_two {ops : Array Oper} {C : World → Prop} {n i j : Nat} {o o' : Oper} {listed : Array Bool} {a : Act} {w : World} (hr : Region.ready md ops listed = [i, j]) (ho : ops[i]? = some o) (hw : Region.wanted o (yielded ops a.tmps) = true) (ho' : ops[j]? = some o') (hw' : Region.wanted o' (yielded ops a.tmps) = true)
    (h : ∀ w', Below w.heap.size w w' → C w' → ∀ K : Act → World → Prop, (∀ a1 w1, C w1 → wpUp P md ops Q C n (listed.setIfInBounds i true) a1 w1 → K a1 w1) → o.wp P a w' K Q)
    (h' : ∀ w', Below w.heap.size w w' → C w' → ∀ K : Act → World → Prop, (∀ a1 w1, C w1 → wpUp P md ops Q C n (listed.setIfInBounds j true) a1 w1 → K a1 w1) → o'.wp P a w' K Q) :
    wpUp P md ops Q C (n + 1) listed a w := fun w' h1 h2 => by
  refine ⟨fun h0 => (by rw [hr] at h0; cases h0), fun k hk => ?_⟩
  rw [hr, List.mem_cons, List.mem_singleton] at hk
  unfold wpOp
  rcases hk with rfl | rfl
  · simp only [ho, hw, if_true]
    exact .inl (h w' h1 h2 _ fun a1 w1 h3 h4 => ⟨h3, h4⟩)
  · simp only [ho', hw', if_true]
    exact .inl (h' w' h1 h2 _ fun a1 w1 h3 h4 => ⟨h3, h4⟩)
end
end Go.Proofs.YtomgnpfpaodpiaaDoor
/- Contracts of package spans, and of the specification's small functions (slip's seat). -/
namespace Go.Proofs.YtomgnpfpaodpiaaDoor
open Go Go.RowKit
set_option maxHeartbeats 1000000
theorem has_any (a b n : Int) (w : World) :
    Calls Tryd.prog 73 #[.agg #[vi a, vi b], vi n] w fun e w' => e = .returned (.bool (hasB a b n)) ∧ Below w.heap.size w w' := by
  go_enter Tryd.func73, Tryd.ntmps73
  go_wp2
  all_goals
    go_ret
    refine ⟨(by first | (simp [hasB, *]; done) | ((simp only [Bool.not_eq_true', Bool.not_eq_false'] at *); simp [hasB, *]; done) | (simp_all [hasB]; done) | (simp [hasB, *]; omega) | (simp [hasB, *]; intros; omega)), ?_⟩
    (repeat (first | exact Below.refl _ _ | refine Below.setCell ?_ (by first | omega | (simp; omega) | (simp; done)) _ | refine Below.alloc ?_ (by first | omega | (simp; omega) | (simp; done)) _ | refine Below.drew ?_ | refine below_drewN ?_ _ | refine Below.trans ?_ (Below.mono (by assumption) (by first | omega | (simp; omega) | (simp; done)))))
theorem has_is {a b n : Int} {v : Bool} (h : hasB a b n = v) (w : World) :
    Calls Tryd.prog 73 #[.agg #[vi a, vi b], vi n] w fun e w' => e = .returned (.bool v) ∧ Below w.heap.size w w' := by
  subst h
  exact has_any a b n w
theorem isWithin_any (a b c d : Int) (w : World) :
    Calls Tryd.prog 90 #[.agg #[vi a, vi b], .agg #[vi c, vi d]] w fun e w' => e = .returned (.bool (withinB a b c d)) ∧ Below w.heap.size w w' := by
  by_cases h1 : c ≤ d
  · rcases h2 : hasB a b c with _ | _
    · have H2 := Lib.hid h2
      have E : Hid (withinB a b c d = false) := by unfold Hid withinB; rw [h2]; simp
      clear h2
      go_enter Tryd.func90, Tryd.ntmps90
      go_wp2_with (go_at_call 73; refine (has_is H2.out _).mono ?_; rintro e w1 ⟨rfl, hb1⟩; obtain ⟨⟨hc1, hf1, hs1⟩, hz1⟩ := after hb1; (try simp only [World.size_alloc, World.size_setCell, World.size_drew] at hz1))
      go_ret
      refine ⟨retB E.out.symm, ?_⟩
      (repeat (first | exact Below.refl _ _ | refine Below.setCell ?_ (by first | omega | (simp; omega) | (simp; done)) _ | refine Below.alloc ?_ (by first | omega | (simp; omega) | (simp; done)) _ | refine Below.drew ?_ | refine below_drewN ?_ _ | refine Below.trans ?_ (Below.mono (by assumption) (by first | omega | (simp; omega) | (simp; done)))))
    · obtain ⟨v, h3⟩ : ∃ v, hasB a b d = v := ⟨_, rfl⟩
      have H2 := Lib.hid h2
      have H3 := Lib.hid h3
      have E : Hid (withinB a b c d = v) := by unfold Hid withinB; rw [h2, h3]; simp [h1]
      clear h2 h3
      go_enter Tryd.func90, Tryd.ntmps90
      go_wp2_with fail
      refine (has_is H2.out _).mono ?_
      rintro e w1 ⟨rfl, hb1⟩
      have HB1 : Below w.heap.size w w1 := by (repeat (first | exact Below.refl _ _ | refine Below.setCell ?_ (by first | omega | (simp; omega) | (simp; done)) _ | refine Below.alloc ?_ (by first | omega | (simp; omega) | (simp; done)) _ | refine Below.drew ?_ | refine below_drewN ?_ _ | refine Below.trans ?_ (Below.mono (by assumption) (by first | omega | (simp; omega) | (simp; done)))))
      have a0 : w1.cell? ⟨w.heap.size, 0, none⟩ = some (vi a) := cell_keep hb1 (by simp [go_sem])
      have a1 : w1.cell? ⟨w.heap.size, 1, none⟩ = some (vi b) := cell_keep hb1 (by simp [go_sem])
      have b0 : w1.cell? ⟨w.heap.size + 1, 0, none⟩ = some (vi c) := cell_keep hb1 (by simp [go_sem])
      have b1 : w1.cell? ⟨w.heap.size + 1, 1, none⟩ = some (vi d) := cell_keep hb1 (by simp [go_sem])
      have za : w.heap.size < w1.heap.size := cell_lt a0
      have zb : w.heap.size + 1 < w1.heap.size := cell_lt b0
      clear hb1
      go_wp2_with fail
      refine (has_is H3.out _).mono ?_
      rintro e w2 ⟨rfl, hb2⟩
      go_wp2_with fail
      go_ret
      exact ⟨retB E.out.symm, HB1.trans (hb2.mono HB1.size)⟩
  · have E : Hid (withinB a b c d = false) := by unfold Hid withinB; simp [h1]
    have h1' : d < c := by omega
    clear h1
    go_enter Tryd.func90, Tryd.ntmps90
    go_wp2_with fail
    go_ret
    refine ⟨retB E.out.symm, ?_⟩
    (repeat (first | exact Below.refl _ _ | refine Below.setCell ?_ (by first | omega | (simp; omega) | (simp; done)) _ | refine Below.alloc ?_ (by first | omega | (simp; omega) | (simp; done)) _ | refine Below.drew ?_ | refine below_drewN ?_ _ | refine Below.trans ?_ (Below.mono (by assumption) (by first | omega | (simp; omega) | (simp; done)))))
theorem within_is {a b c d : Int} {v : Bool} (h : withinB a b c d = v) (w : World) :
    Calls Tryd.prog 90 #[.agg #[vi a, vi b], .agg #[vi c, vi d]] w fun e w' => e = .returned (.bool v) ∧ Below w.heap.size w w' := by
  subst h
  exact isWithin_any a b c d w
theorem one_any (a : Int) (w : World) :
    Calls Tryd.prog 98 #[vi a] w fun e w' => e = .returned (.agg #[vi a, vi a]) ∧ Below w.heap.size w w' := by
  go_enter Tryd.func98, Tryd.ntmps98
  go_wp2
  go_returns
  refine ⟨rfl, ?_⟩
  (repeat (first | exact Below.refl _ _ | refine Below.setCell ?_ (by first | omega | (simp; omega) | (simp; done)) _ | refine Below.alloc ?_ (by first | omega | (simp; omega) | (simp; done)) _ | refine Below.drew ?_ | refine below_drewN ?_ _ | refine Below.trans ?_ (Below.mono (by assumption) (by first | omega | (simp; omega) | (simp; done)))))
theorem low_any (a b : Int) (w : World) :
    Calls Tryd.prog 119 #[.agg #[vi a, vi b]] w fun e w' => e = .returned (vi a) ∧ Below w.heap.size w w' := by
  go_enter Tryd.func119, Tryd.ntmps119
  go_wp2
  go_ret
  refine ⟨rfl, ?_⟩
  (repeat (first | exact Below.refl _ _ | refine Below.setCell ?_ (by first | omega | (simp; omega) | (simp; done)) _ | refine Below.alloc ?_ (by first | omega | (simp; omega) | (simp; done)) _ | refine Below.drew ?_ | refine below_drewN ?_ _ | refine Below.trans ?_ (Below.mono (by assumption) (by first | omega | (simp; omega) | (simp; done)))))
theorem high_any (a b : Int) (w : World) :
    Calls Tryd.prog 121 #[.agg #[vi a, vi b]] w fun e w' => e = .returned (vi b) ∧ Below w.heap.size w w' := by
  go_enter Tryd.func121, Tryd.ntmps121
  go_wp2
  go_ret
  refine ⟨rfl, ?_⟩
  (repeat (first | exact Below.refl _ _ | refine Below.setCell ?_ (by first | omega | (simp; omega) | (simp; done)) _ | refine Below.alloc ?_ (by first | omega | (simp; omega) | (simp; done)) _ | refine Below.drew ?_ | refine below_drewN ?_ _ | refine Below.trans ?_ (Below.mono (by assumption) (by first | omega | (simp; omega) | (simp; done)))))
theorem add_any (a b c d : Int) (h0 : -9223372036854775808 ≤ a + c) (h1 : a + c ≤ 9223372036854775807) (h2 : -9223372036854775808 ≤ b + d) (h3 : b + d ≤ 9223372036854775807) (w : World) :
    Calls Tryd.prog 99 #[.agg #[vi a, vi b], .agg #[vi c, vi d]] w fun e w' => e = .returned (.agg #[vi (a + c), vi (b + d)]) ∧ Below w.heap.size w w' := by
  have w1 : wrap64 (a + c) = a + c := IntWalk.wrap64_in _ ⟨h0, h1⟩
  have w2 : wrap64 (b + d) = b + d := IntWalk.wrap64_in _ ⟨h2, h3⟩
  go_enter Tryd.func99, Tryd.ntmps99
  go_wp2
  go_returns
  refine ⟨rfl, ?_⟩
  (repeat (first | exact Below.refl _ _ | refine Below.setCell ?_ (by first | omega | (simp; omega) | (simp; done)) _ | refine Below.alloc ?_ (by first | omega | (simp; omega) | (simp; done)) _ | refine Below.drew ?_ | refine below_drewN ?_ _ | refine Below.trans ?_ (Below.mono (by assumption) (by first | omega | (simp; omega) | (simp; done)))))
/-- the greatest of several numbers -/
def greatestF (a : Int) (l : List Int) : Int := l.foldl max a
theorem greatestF_succ {a : Int} {l : List Int} {k : Nat} {x : Int} (h : l[k]? = some x) : greatestF a (l.take (k + 1)) = max (greatestF a (l.take k)) x := by
  obtain ⟨hk, rfl⟩ := List.getElem?_eq_some_iff.1 h
  rw [List.take_succ_eq_append_getElem hk, greatestF, List.foldl_append]
  rfl
theorem greatest_any (a : Int) (A : Option Addr) (cap : Nat) (l : List Int) (w : World) (h : IntsAt w w.heap.size A l.length l) :
    Calls Tryd.prog 92 #[vi a, .slice A l.length cap] w fun e w' => e = .returned (vi (greatestF a l)) ∧ Below w.heap.size w w' := by
  have hl := h.lens
  go_enter Tryd.func92, Tryd.ntmps92
  go_wp2_with fail
  go_loopw [0, 9] (fun m i wr => ∃ k : Nat, k ≤ l.length ∧ i = .int .i64 k ∧ wr = w ∧ ∃ n, m = vi n ∧ Hid (greatestF a (l.take k) = n)) (fun _ i _ => l.length - (intOf i).toNat)
  case atStart => exact ⟨0, Nat.zero_le _, rfl, rfl, a, rfl, by simp [Hid, greatestF]⟩
  obtain ⟨k, hk, rfl, rfl, n, rfl, HN⟩ := hrel
  by_cases hlt : k < l.length
  · obtain ⟨x, hx⟩ : ∃ x, l[k]? = some x := ⟨_, List.getElem?_eq_getElem hlt⟩
    obtain ⟨bb, off, rfl, hb, c0⟩ := ints_at h hx
    have ST : Hid (greatestF a (l.take (k + 1)) = if n < x then x else n) := by
      unfold Hid
      rw [greatestF_succ hx, HN.out]
      split <;> omega
    have hkI : (k : Int) < l.length := by omega
    have h0k : (0 : Int) ≤ k := by omega
    clear hx HN
    go_wp2_with fail
    go_roundw
    case rel => exact ⟨k + 1, by omega, by go_num, trivial, _, rfl, ST.out⟩
    case measure => simp [intOf]; omega
  · obtain rfl : k = l.length := by omega
    have hf := HN.out
    rw [List.take_length] at hf
    have HF := Lib.hid hf
    clear hf HN
    go_wp2_with fail
    go_ret
    refine ⟨retI HF.out.symm, ?_⟩
    (repeat (first | exact Below.refl _ _ | refine Below.setCell ?_ (by first | omega | (simp; omega) | (simp; done)) _ | refine Below.alloc ?_ (by first | omega | (simp; omega) | (simp; done)) _ | refine Below.drew ?_ | refine below_drewN ?_ _ | refine Below.trans ?_ (Below.mono (by assumption) (by first | omega | (simp; omega) | (simp; done)))))
theorem tween_any (a b c : Int) (w : World) :
    Calls Tryd.prog 39 #[vi a, vi b, vi c] w fun e w' => e = .returned (.bool (hasB b c a)) ∧ w = w' := by
  go_enter Tryd.func39, Tryd.ntmps39
  go_wp2
  all_goals
    go_ret
    exact ⟨(by first | (simp [hasB, *]; done) | ((simp only [Bool.not_eq_true', Bool.not_eq_false'] at *); simp [hasB, *]; done) | (simp_all [hasB]; done) | (simp [hasB, *]; omega) | (simp [hasB, *]; intros; omega)), rfl⟩
theorem tween_is {a b c : Int} {v : Bool} (h : hasB b c a = v) (w : World) :
    Calls Tryd.prog 39 #[vi a, vi b, vi c] w fun e w' => e = .returned (.bool v) ∧ w = w' := by
  subst h
  exact tween_any a b c w
theorem to_any (a b : Int) (w : World) :
    Calls Tryd.prog 44 #[vi a, vi b] w fun e w' => e = .returned (.agg #[vi a, vi b]) ∧ Below w.heap.size w w' := by
  go_enter Tryd.func44, Tryd.ntmps44
  go_wp2
  go_returns
  refine ⟨rfl, ?_⟩
  (repeat (first | exact Below.refl _ _ | refine Below.setCell ?_ (by first | omega | (simp; omega) | (simp; done)) _ | refine Below.alloc ?_ (by first | omega | (simp; omega) | (simp; done)) _ | refine Below.drew ?_ | refine below_drewN ?_ _ | refine Below.trans ?_ (Below.mono (by assumption) (by first | omega | (simp; omega) | (simp; done)))))
end Go.Proofs.YtomgnpfpaodpiaaDoor
/- Contracts of hasSlip and areLines. -/
namespace Go.Proofs.YtomgnpfpaodpiaaDoor
open Go Go.RowKit
set_option maxHeartbeats 2000000
theorem Lim.row {w : World} (h : Lim w) (k : Nat) (hk : k < 10) {a b : Int} (ha : limLo k = a) (hb : limHi k = b) : w.cell? ⟨0, k * 2, none⟩ = some (vi a) ∧ w.cell? ⟨0, k * 2 + 1, none⟩ = some (vi b) := by
  subst ha hb
  exact ⟨h.lo k hk, h.hi k hk⟩
theorem hasSlip_any (f : Floor) (n : Int) (w : World) (hl : f.slips.length ≤ 35184372088832) :
    Calls Tryd.prog 85 #[f.val, vi n] w fun e w' => e = .returned (.bool (slipB f n)) ∧ Below w.heap.size w w' := by
  obtain ⟨fA, fC, ff, slo, shi, pA, pC, fp, fc, sA, sC, fs⟩ := f
  simp only at hl
  show Calls Tryd.prog 85 #[.agg #[.slice fA ff.length fC, vi slo, vi shi, .slice pA fp.length pC, vi fc, .slice sA fs.length sC], vi n] w _
  by_cases h0 : 0 ≤ n
  · by_cases h1 : n < (fs.length : Int)
    · have E : Hid (slipB ⟨fA, fC, ff, slo, shi, pA, pC, fp, fc, sA, sC, fs⟩ n = true) := by unfold Hid slipB; simp [h0, h1]
      go_enter Tryd.func85, Tryd.ntmps85
      go_wp2
      go_ret
      refine ⟨retB E.out.symm, ?_⟩
      (repeat (first | exact Below.refl _ _ | refine Below.setCell ?_ (by first | omega | (simp; omega) | (simp; done)) _ | refine Below.alloc ?_ (by first | omega | (simp; omega) | (simp; done)) _ | refine Below.drew ?_ | refine below_drewN ?_ _ | refine Below.trans ?_ (Below.mono (by assumption) (by first | omega | (simp; omega) | (simp; done)))))
    · have E : Hid (slipB ⟨fA, fC, ff, slo, shi, pA, pC, fp, fc, sA, sC, fs⟩ n = false) := by unfold Hid slipB; simp [h1]
      have h1' : (fs.length : Int) ≤ n := by omega
      go_enter Tryd.func85, Tryd.ntmps85
      go_wp2
      go_ret
      refine ⟨retB E.out.symm, ?_⟩
      (repeat (first | exact Below.refl _ _ | refine Below.setCell ?_ (by first | omega | (simp; omega) | (simp; done)) _ | refine Below.alloc ?_ (by first | omega | (simp; omega) | (simp; done)) _ | refine Below.drew ?_ | refine below_drewN ?_ _ | refine Below.trans ?_ (Below.mono (by assumption) (by first | omega | (simp; omega) | (simp; done)))))
  · have E : Hid (slipB ⟨fA, fC, ff, slo, shi, pA, pC, fp, fc, sA, sC, fs⟩ n = false) := by unfold Hid slipB; simp [h0]
    have h0' : n < 0 := by omega
    go_enter Tryd.func85, Tryd.ntmps85
    go_wp2
    go_ret
    refine ⟨retB E.out.symm, ?_⟩
    (repeat (first | exact Below.refl _ _ | refine Below.setCell ?_ (by first | omega | (simp; omega) | (simp; done)) _ | refine Below.alloc ?_ (by first | omega | (simp; omega) | (simp; done)) _ | refine Below.drew ?_ | refine below_drewN ?_ _ | refine Below.trans ?_ (Below.mono (by assumption) (by first | omega | (simp; omega) | (simp; done)))))
def nextF (l : List SLine) (k : Nat) : Int := match k with | 0 => 0 | i + 1 => (match l[i]? with | some p => p.shelf + 1 | none => 0)
theorem goodLine_of {n : Int} {l : List SLine} {k : Nat} {x : SLine} (h : l[k]? = some x) : goodLine n l k = ((decide (nextF l k ≤ x.shelf) && decide (x.shelf < n)) && hasB 1 20 x.many) := by
  unfold goodLine
  rw [h]
  rfl
theorem nextF_succ {l : List SLine} {k : Nat} {x : SLine} (h : l[k]? = some x) : nextF l (k + 1) = x.shelf + 1 := by simp [nextF, h]
set_option maxRecDepth 100000 in
theorem areLines_any (f : Floor) (A : Option Addr) (cap : Nat) (l : List SLine) (hf : f.far.length ≤ 35184372088832) (w : World) (hl : Lim w) (h : SLinesAt w w.heap.size A l.length l) :
    Calls Tryd.prog 91 #[f.val, .slice A l.length cap] w fun e w' => e = .returned (.bool (linesB f.far.length l)) ∧ Below w.heap.size w w' := by
  have hll := h.lens
  have HL := Lib.hid hl
  have HH := Lib.hid h
  obtain ⟨fA, fC, ff, slo, shi, pA, pC, fp, fc, sA, sC, fs⟩ := f
  simp only at hf
  show Calls Tryd.prog 91 #[.agg #[.slice fA ff.length fC, vi slo, vi shi, .slice pA fp.length pC, vi fc, .slice sA fs.length sC], .slice A l.length cap] w fun e w' => e = .returned (.bool (linesB ff.length l)) ∧ Below w.heap.size w w'
  obtain ⟨r0, r1⟩ := hl.row 7 (by omega) (a := 1) (b := 12) (by decide) (by decide)
  have hp := hl.pos
  rcases h1 : hasB 1 12 l.length with _ | _
  · have E : Hid (linesB ff.length l = false) := by unfold Hid linesB; rw [h1]; rfl
    have H1 := Lib.hid h1
    clear h1 h
    go_enter Tryd.func91, Tryd.ntmps91
    go_wp2_with (go_at_call 73; refine (has_is H1.out _).mono ?_; rintro e w1 ⟨rfl, hb1⟩; obtain ⟨⟨hc1, hf1, hs1⟩, hz1⟩ := after hb1; (try simp only [World.size_alloc, World.size_setCell, World.size_drew] at hz1))
    go_ret
    refine ⟨retB E.out.symm, ?_⟩
    (repeat (first | exact Below.refl _ _ | refine Below.setCell ?_ (by first | omega | (simp; omega) | (simp; done)) _ | refine Below.alloc ?_ (by first | omega | (simp; omega) | (simp; done)) _ | refine Below.drew ?_ | refine below_drewN ?_ _ | refine Below.trans ?_ (Below.mono (by assumption) (by first | omega | (simp; omega) | (simp; done)))))
  · have H1 := Lib.hid h1
    have FIN : Hid ((∀ k, k < l.length → goodLine ff.length l k = true) → linesB ff.length l = true) := fun ha => all_yes h1 ha
    have BAD : Hid (∀ k, k < l.length → goodLine ff.length l k = false → linesB ff.length l = false) := fun k hk hg => all_no hk hg
    obtain ⟨an, han⟩ : ∃ an, an = linesB ff.length l := ⟨_, rfl⟩
    rw [← han] at FIN BAD ⊢
    clear h1 h han
    go_enter Tryd.func91, Tryd.ntmps91
    go_wp2_with fail
    refine (has_is H1.out _).mono ?_
    rintro e W ⟨rfl, hb⟩
    have HB0 : Below w.heap.size w W := by (repeat (first | exact Below.refl _ _ | refine Below.setCell ?_ (by first | omega | (simp; omega) | (simp; done)) _ | refine Below.alloc ?_ (by first | omega | (simp; omega) | (simp; done)) _ | refine Below.drew ?_ | refine below_drewN ?_ _ | refine Below.trans ?_ (Below.mono (by assumption) (by first | omega | (simp; omega) | (simp; done)))))
    have a0 : W.cell? ⟨w.heap.size, 0, none⟩ = some (.slice fA ff.length fC) := cell_keep hb (by simp [go_sem])
    clear hb r0 r1 hp
    go_wp2_with fail
    go_loopw [5, 16] (fun x i wr => ∃ k : Nat, k ≤ l.length ∧ i = .int .i64 k ∧ Below W.heap.size W wr ∧ (∃ nx, x = vi nx ∧ Hid (nextF l k = nx) ∧ 0 ≤ nx) ∧ Hid (∀ j, j < k → goodLine ff.length l j = true)) (fun _ i _ => l.length - (intOf i).toNat)
    case atStart => exact ⟨0, Nat.zero_le _, rfl, Below.refl _ _, ⟨0, rfl, rfl, Int.le_refl _⟩, fun j hj => absurd hj (by omega)⟩
    obtain ⟨k, hk, rfl, hB, ⟨nx, rfl, HN, hn0⟩, HA⟩ := hrel
    have HBr : Below w.heap.size w wr := HB0.trans (hB.mono HB0.size)
    have hLr : Lim wr := HL.out.next HBr
    obtain ⟨r0, r1⟩ := hLr.row 8 (by omega) (a := 1) (b := 20) (by decide) (by decide)
    have hp := hLr.pos
    have a0r := cell_keep hB a0
    have za : w.heap.size < wr.heap.size := cell_lt a0r
    by_cases hlt : k < l.length
    · obtain ⟨x, hx⟩ : ∃ x, l[k]? = some x := ⟨_, List.getElem?_eq_getElem hlt⟩
      obtain ⟨bb, off, rfl, hbb, x0, x1⟩ := row2 (HH.out.to HBr).row hx rfl
      have hg := goodLine_of (n := ff.length) hx
      have hnx := nextF_succ hx
      rw [HN.out] at hg
      have G := Lib.hid hg
      have NX := Lib.hid hnx
      have hkI : (k : Int) < l.length := by omega
      have h0k : (0 : Int) ≤ k := by omega
      have zbb : bb < wr.heap.size := cell_lt x0
      clear hx hg hnx HN hLr
      obtain ⟨xs, xm⟩ := x
      simp only at x0 x1 G NX
      by_cases c1 : xs < nx
      · have c1d : decide (xs < nx) = true := by simpa using c1
        have E : Hid (an = false) := BAD.out k hlt (by rw [G.out]; have : ¬ nx ≤ xs := (by omega); simp [this])
        clear c1
        go_wp2_with fail
        go_ret
        refine ⟨retB E.out.symm, ?_⟩
        (repeat (first | exact Below.refl _ _ | refine Below.setCell ?_ (by first | omega | (simp; omega) | (simp; done)) _ | refine Below.alloc ?_ (by first | omega | (simp; omega) | (simp; done)) _ | refine Below.drew ?_ | refine below_drewN ?_ _ | refine Below.trans ?_ (Below.mono (by assumption) (by first | omega | (simp; omega) | (simp; done)))))
      · have c1d : decide (xs < nx) = false := by simpa using c1
        by_cases c2 : (ff.length : Int) ≤ xs
        · have c2d : decide ((ff.length : Int) ≤ xs) = true := by simpa using c2
          have E : Hid (an = false) := BAD.out k hlt (by rw [G.out]; have : ¬ xs < (ff.length : Int) := (by omega); simp [this])
          clear c1 c2
          go_wp2_with fail
          go_ret
          refine ⟨retB E.out.symm, ?_⟩
          (repeat (first | exact Below.refl _ _ | refine Below.setCell ?_ (by first | omega | (simp; omega) | (simp; done)) _ | refine Below.alloc ?_ (by first | omega | (simp; omega) | (simp; done)) _ | refine Below.drew ?_ | refine below_drewN ?_ _ | refine Below.trans ?_ (Below.mono (by assumption) (by first | omega | (simp; omega) | (simp; done)))))
        · have c2d : decide ((ff.length : Int) ≤ xs) = false := by simpa using c2
          rcases h3 : hasB 1 20 xm with _ | _
          · have E : Hid (an = false) := BAD.out k hlt (by rw [G.out, h3]; simp)
            have H3 := Lib.hid h3
            clear c1 c2 h3
            go_wp2_with (go_at_call 73; refine (has_is H3.out _).mono ?_; rintro e w1 ⟨rfl, hb1⟩; obtain ⟨⟨hc1, hf1, hs1⟩, hz1⟩ := after hb1; (try simp only [World.size_alloc, World.size_setCell, World.size_drew] at hz1))
            go_ret
            refine ⟨retB E.out.symm, ?_⟩
            (repeat (first | exact Below.refl _ _ | refine Below.setCell ?_ (by first | omega | (simp; omega) | (simp; done)) _ | refine Below.alloc ?_ (by first | omega | (simp; omega) | (simp; done)) _ | refine Below.drew ?_ | refine below_drewN ?_ _ | refine Below.trans ?_ (Below.mono (by assumption) (by first | omega | (simp; omega) | (simp; done)))))
          · have HG : Hid (goodLine ff.length l k = true) := by
              unfold Hid
              rw [G.out, h3]
              have e1 : nx ≤ xs := by omega
              have e2 : xs < (ff.length : Int) := by omega
              simp [e1, e2]
            have H3 := Lib.hid h3
            have HA2 : Hid (∀ j, j < k + 1 → goodLine ff.length l j = true) := upto_succ HA.out HG.out
            have hs0 : 0 ≤ xs + 1 := by omega
            have hw : wrap64 (xs + 1) = xs + 1 := by
              exact IntWalk.wrap64_in _ ⟨by omega, by omega⟩
            clear c1 c2 h3
            go_wp2_with (go_at_call 73; refine (has_is H3.out _).mono ?_; rintro e w1 ⟨rfl, hb1⟩; obtain ⟨⟨hc1, hf1, hs1⟩, hz1⟩ := after hb1; (try simp only [World.size_alloc, World.size_setCell, World.size_drew] at hz1))
            go_roundw
            case rel => exact ⟨k + 1, by omega, by go_num, gr_trans hB (by (repeat (first | exact Below.refl _ _ | refine Below.setCell ?_ (by first | omega | (simp; omega) | (simp; done)) _ | refine Below.alloc ?_ (by first | omega | (simp; omega) | (simp; done)) _ | refine Below.drew ?_ | refine below_drewN ?_ _ | refine Below.trans ?_ (Below.mono (by assumption) (by first | omega | (simp; omega) | (simp; done)))))), ⟨_, rfl, NX.out.trans hw.symm, by rw [hw]; exact hs0⟩, HA2.out⟩
            case measure => simp [intOf]; omega
    · obtain rfl : k = l.length := by omega
      have E : Hid (an = true) := FIN.out HA.out
      go_wp2_with fail
      go_ret
      exact ⟨retB E.out.symm, HBr⟩
end Go.Proofs.YtomgnpfpaodpiaaDoor
/- Contracts of areShelves, isValid, Check, checkSlip. -/
namespace Go.Proofs.YtomgnpfpaodpiaaDoor
open Go Go.RowKit
set_option maxHeartbeats 4000000
def climbsAt (l : List Int) (k : Nat) (x : Int) : Bool := match k with | 0 => true | i + 1 => (match l[i]? with | some p => decide (p ≤ x) | none => true)
theorem goodShelf_of {f : Floor} {k : Nat} {x : Int} {q : Int × Int} (h : f.far[k]? = some x) (h2 : f.picks[k]? = some q) : goodShelf f k = ((hasB 0 500 x && climbsAt f.far k x) && withinB 0 300 q.1 q.2) := by
  unfold goodShelf
  rw [h, h2]
  rfl
set_option maxRecDepth 100000 in
theorem areShelves_any (f : Floor) (w : World) (hl : Lim w) (h : FloorAt w w.heap.size f) :
    Calls Tryd.prog 89 #[f.val] w fun e w' => e = .returned (.bool (shelvesB f)) ∧ Below w.heap.size w w' := by
  have h1l := h.far.lens
  have h2l := h.picks.lens
  have c1 := h.far.cap
  have c2 := h.picks.cap
  have HL := Lib.hid hl
  have HF := Lib.hid h.far
  have HP := Lib.hid h.picks
  have GS : Hid (∀ (k : Nat) (x : Int) (q : Int × Int), f.far[k]? = some x → f.picks[k]? = some q → goodShelf f k = ((hasB 0 500 x && climbsAt f.far k x) && withinB 0 300 q.1 q.2)) := fun k x q a b => goodShelf_of a b
  have HSB : Hid (shelvesB f = ((hasB 1 12 f.far.length && decide ((f.picks.length : Int) = f.far.length)) && (List.range f.far.length).all (goodShelf f))) := rfl
  obtain ⟨gs, hgs⟩ : ∃ gs, gs = goodShelf f := ⟨_, rfl⟩
  obtain ⟨an, han⟩ : ∃ an, an = shelvesB f := ⟨_, rfl⟩
  rw [← hgs] at GS HSB
  rw [← han] at HSB ⊢
  clear h hgs han
  obtain ⟨fA, fC, ff, slo, shi, pA, pC, fp, fc, sA, sC, fs⟩ := f
  simp only at h1l h2l c1 c2 HF HP GS HSB
  show Calls Tryd.prog 89 #[.agg #[.slice fA ff.length fC, vi slo, vi shi, .slice pA fp.length pC, vi fc, .slice sA fs.length sC]] w fun e w' => e = .returned (.bool an) ∧ Below w.heap.size w w'
  obtain ⟨r0, r1⟩ := hl.row 0 (by omega) (a := 1) (b := 12) (by decide) (by decide)
  have hp := hl.pos
  rcases h1 : hasB 1 12 ff.length with _ | _
  · have E : Hid (an = false) := by unfold Hid; rw [HSB.out, h1]; rfl
    have H1 := Lib.hid h1
    clear h1
    go_enter Tryd.func89, Tryd.ntmps89
    go_wp2_with (go_at_call 73; refine (has_is H1.out _).mono ?_; rintro e w1 ⟨rfl, hb1⟩; obtain ⟨⟨hc1, hf1, hs1⟩, hz1⟩ := after hb1; (try simp only [World.size_alloc, World.size_setCell, World.size_drew] at hz1))
    go_ret
    refine ⟨retB E.out.symm, ?_⟩
    (repeat (first | exact Below.refl _ _ | refine Below.setCell ?_ (by first | omega | (simp; omega) | (simp; done)) _ | refine Below.alloc ?_ (by first | omega | (simp; omega) | (simp; done)) _ | refine Below.drew ?_ | refine below_drewN ?_ _ | refine Below.trans ?_ (Below.mono (by assumption) (by first | omega | (simp; omega) | (simp; done)))))
  have H1 := Lib.hid h1
  by_cases hpl : fp.length = ff.length
  · have FIN : Hid ((∀ k, k < ff.length → gs k = true) → an = true) := fun ha => by rw [HSB.out, h1]; exact all_yes (by simp [hpl]) ha
    have BAD : Hid (∀ k, k < ff.length → gs k = false → an = false) := fun k hk hg => by rw [HSB.out]; exact all_no hk hg
    have HPL := Lib.hid hpl
    have hpe : ((fp.length : Int) != (ff.length : Int)) = false := by simp [hpl]
    have hpe2 : ((fp.length : Int) == (ff.length : Int)) = true := by simp [hpl]
    clear h1 HSB hpl
    go_enter Tryd.func89, Tryd.ntmps89
    go_wp2_with fail
    refine (has_is H1.out _).mono ?_
    rintro e W ⟨rfl, hb⟩
    have HB0 : Below w.heap.size w W := by (repeat (first | exact Below.refl _ _ | refine Below.setCell ?_ (by first | omega | (simp; omega) | (simp; done)) _ | refine Below.alloc ?_ (by first | omega | (simp; omega) | (simp; done)) _ | refine Below.drew ?_ | refine below_drewN ?_ _ | refine Below.trans ?_ (Below.mono (by assumption) (by first | omega | (simp; omega) | (simp; done)))))
    have a0 : W.cell? ⟨w.heap.size, 0, none⟩ = some (.slice fA ff.length fC) := cell_keep hb (by simp [go_sem])
    have a3 : W.cell? ⟨w.heap.size, 3, none⟩ = some (.slice pA fp.length pC) := cell_keep hb (by simp [go_sem])
    have za := cell_lt a0
    clear hb r0 r1 hp
    go_wp2_with fail
    go_loopw [28] (fun i wr => ∃ k : Nat, k ≤ ff.length ∧ i = .int .i64 k ∧ Below W.heap.size W wr ∧ Hid (∀ j, j < k → gs j = true)) (fun i _ => ff.length - (intOf i).toNat)
    case atStart => exact ⟨0, Nat.zero_le _, rfl, Below.refl _ _, fun j hj => absurd hj (by omega)⟩
    clear za
    obtain ⟨k, hk, rfl, hB, HA⟩ := hrel
    have HBr : Below w.heap.size w wr := HB0.trans (hB.mono HB0.size)
    have hLr : Lim wr := HL.out.next HBr
    obtain ⟨r0, r1⟩ := hLr.row 1 (by omega) (a := 0) (b := 500) (by decide) (by decide)
    have hp := hLr.pos
    have a0r := cell_keep hB a0
    have a3r := cell_keep hB a3
    have za : w.heap.size < wr.heap.size := cell_lt a0r
    by_cases hlt : k < ff.length
    · obtain ⟨x, hx⟩ : ∃ x, ff[k]? = some x := ⟨_, List.getElem?_eq_getElem hlt⟩
      obtain ⟨q, hq⟩ : ∃ q, fp[k]? = some q := ⟨_, List.getElem?_eq_getElem (by have := HPL.out; omega)⟩
      obtain ⟨bb, off, rfl, hbb, x0⟩ := ints_at (HF.out.to HBr) hx
      obtain ⟨pb, po, rfl, hpb, q0, q1⟩ := row2 (HP.out.to HBr).row hq rfl
      have G := Lib.hid (GS.out k x q hx hq)
      have hkI : (k : Int) < ff.length := by omega
      have hkP : (k : Int) < fp.length := by have := HPL.out; omega
      have h0k : (0 : Int) ≤ k := by omega
      have zbb : bb < wr.heap.size := cell_lt x0
      have zpb : pb < wr.heap.size := cell_lt q0
      obtain ⟨q1v, q2v⟩ := q
      simp only at q0 q1 G
      rcases g1 : hasB 0 500 x with _ | _
      · have E : Hid (an = false) := BAD.out k hlt (by rw [G.out, g1]; simp)
        have G1 := Lib.hid g1
        clear g1 hx hq
        go_wp2_with (go_at_call 73; refine (has_is G1.out _).mono ?_; rintro e w1 ⟨rfl, hb1⟩; obtain ⟨⟨hc1, hf1, hs1⟩, hz1⟩ := after hb1; (try simp only [World.size_alloc, World.size_setCell, World.size_drew] at hz1))
        go_ret
        refine ⟨retB E.out.symm, ?_⟩
        (repeat (first | exact Below.refl _ _ | refine Below.setCell ?_ (by first | omega | (simp; omega) | (simp; done)) _ | refine Below.alloc ?_ (by first | omega | (simp; omega) | (simp; done)) _ | refine Below.drew ?_ | refine below_drewN ?_ _ | refine Below.trans ?_ (Below.mono (by assumption) (by first | omega | (simp; omega) | (simp; done)))))
      have G1 := Lib.hid g1
      -- the shelf before it
      have KEY : Hid (∀ wq : World, Below wr.heap.size wr wq → climbsAt ff k x = false → k ≠ 0 ∧ ∃ y : Int, wq.cell? ⟨bb, off + (k - 1), none⟩ = some (vi y) ∧ x < y) := by
        intro wq hwq hc
        rcases k with _ | i
        · simp [climbsAt] at hc
        · have hy : ff[i]? = some ff[i] := List.getElem?_eq_getElem (by omega)
          simp only [climbsAt, hy, decide_eq_false_iff_not] at hc
          obtain ⟨b2, o2, he, _, y0⟩ := ints_at (HF.out.to HBr) hy
          simp only [Option.some.injEq, Addr.mk.injEq, and_true] at he
          obtain ⟨rfl, rfl⟩ := he
          exact ⟨by omega, ff[i], cell_keep hwq (by simpa using y0), by omega⟩
      have KEY2 : Hid (∀ wq : World, Below wr.heap.size wr wq → climbsAt ff k x = true → k ≠ 0 → ∃ y : Int, wq.cell? ⟨bb, off + (k - 1), none⟩ = some (vi y) ∧ y ≤ x) := by
        intro wq hwq hc hk0
        rcases k with _ | i
        · exact absurd rfl hk0
        · have hy : ff[i]? = some ff[i] := List.getElem?_eq_getElem (by omega)
          simp only [climbsAt, hy, decide_eq_true_eq] at hc
          obtain ⟨b2, o2, he, _, y0⟩ := ints_at (HF.out.to HBr) hy
          simp only [Option.some.injEq, Addr.mk.injEq, and_true] at he
          obtain ⟨rfl, rfl⟩ := he
          exact ⟨ff[i], cell_keep hwq (by simpa using y0), hc⟩
      clear hx hq
      go_wp2_with fail
      refine (has_is G1.out _).mono ?_
      rintro e w1 ⟨rfl, hb1⟩
      have hB1 : Below W.heap.size W w1 := gr_trans hB hb1
      have HB1 : Below w.heap.size w w1 := HBr.trans (hb1.mono HBr.size)
      have hL1 : Lim w1 := HL.out.next HB1
      obtain ⟨s0, s1⟩ := hL1.row 3 (by omega) (a := 0) (b := 300) (by decide) (by decide)
      have hp1 := hL1.pos
      have a01 := cell_keep hb1 a0r
      have a31 := cell_keep hb1 a3r
      have q01 := cell_keep hb1 q0
      have q11 := cell_keep hb1 q1
      have x01 := cell_keep hb1 x0
      have za1 : w.heap.size < w1.heap.size := cell_lt a01
      have zp1 : pb < w1.heap.size := cell_lt q01
      have zb1 : bb < w1.heap.size := cell_lt x01
      rcases hc : climbsAt ff k x with _ | _
      · obtain ⟨hk0, y, hy, hxy⟩ := KEY.out w1 hb1 hc
        have E : Hid (an = false) := BAD.out k hlt (by rw [G.out, hc]; simp)
        obtain ⟨i, rfl⟩ : ∃ i, k = i + 1 := ⟨k - 1, by omega⟩
        have hy' : w1.cell? ⟨bb, off + i, none⟩ = some (vi y) := by simpa using hy
        have hgt : (0 : Int) < (i : Int) + 1 := by omega
        have hiI : (i : Int) < ff.length := by omega
        have h0i : (0 : Int) ≤ i := by omega
        have hd : decide (x < y) = true := by simpa using hxy
        clear hy hxy hc hk0 g1 KEY KEY2 HA hLr hL1 hb1
        go_wp2_with fail
        go_ret
        exact ⟨retB E.out.symm, HB1⟩
      · obtain ⟨v, g3⟩ : ∃ v, withinB 0 300 q1v q2v = v := ⟨_, rfl⟩
        have G3 := Lib.hid g3
        have EV : Hid (gs k = v) := by unfold Hid; rw [G.out, g1, hc, g3]; rfl
        clear g3
        rcases Nat.eq_zero_or_pos k with hk0 | hk0
        · subst hk0
          simp only [Nat.zero_mul, Nat.add_zero] at q01 q11 x01
          clear hc g1 KEY KEY2 hLr hL1
          rcases v with _ | _
          · have E : Hid (an = false) := BAD.out 0 hlt EV.out
            go_wp2_with fail
            (refine wp_region_grow_lit (by kernel_rfl) (by kernel_rfl) ?_; (repeat (go_big_quiet_step ((go_at_call 90; refine Calls.grow_of (within_is G3.out _))))); refine wpQuiet_nil ?_; intro w1 hw1; have hb1 := below_of_plus hw1; clear hw1; obtain ⟨⟨hc1, hf1, hs1⟩, hz1⟩ := after hb1; (try simp only [World.size_alloc, World.size_setCell, World.size_drew] at hz1))
            have hbk : Below w.heap.size w w1 := HB1.trans (hb1.mono HB1.size)
            clear hc1 hf1 hs1 hz1 hb1
            go_wp2_with fail
            go_ret
            exact ⟨retB E.out.symm, hbk⟩
          · have HA2 : Hid (∀ j, j < 0 + 1 → gs j = true) := upto_succ HA.out EV.out
            go_wp2_with fail
            (refine wp_region_grow_lit (by kernel_rfl) (by kernel_rfl) ?_; (repeat (go_big_quiet_step ((go_at_call 90; refine Calls.grow_of (within_is G3.out _))))); refine wpQuiet_nil ?_; intro w1 hw1; have hb1 := below_of_plus hw1; clear hw1; obtain ⟨⟨hc1, hf1, hs1⟩, hz1⟩ := after hb1; (try simp only [World.size_alloc, World.size_setCell, World.size_drew] at hz1))
            have hbk : Below W.heap.size W w1 := gr_trans hB1 (by (repeat (first | exact Below.refl _ _ | refine Below.setCell ?_ (by first | omega | (simp; omega) | (simp; done)) _ | refine Below.alloc ?_ (by first | omega | (simp; omega) | (simp; done)) _ | refine Below.drew ?_ | refine below_drewN ?_ _ | refine Below.trans ?_ (Below.mono (by assumption) (by first | omega | (simp; omega) | (simp; done))))))
            clear hc1 hf1 hs1 hz1 hb1
            go_wp2_with fail
            go_roundw
            case rel => exact ⟨1, by omega, by go_num, hbk, HA2.out⟩
            case measure => simp [intOf]; omega
        · obtain ⟨y, hy, hxy⟩ := KEY2.out w1 hb1 hc (by omega)
          obtain ⟨i, rfl⟩ : ∃ i, k = i + 1 := ⟨k - 1, by omega⟩
          have hy' : w1.cell? ⟨bb, off + i, none⟩ = some (vi y) := by simpa using hy
          have hgt : (0 : Int) < (i : Int) + 1 := by omega
          have hiI : (i : Int) < ff.length := by omega
          have h0i : (0 : Int) ≤ i := by omega
          have hd : decide (x < y) = false := by simp; omega
          have hkP' : (i : Int) + 1 < fp.length := by omega
          clear hy hxy hc hk0 g1 KEY KEY2 hLr hL1 hb1
          rcases v with _ | _
          · have E : Hid (an = false) := BAD.out (i + 1) hlt EV.out
            go_wp2_with fail
            (refine wp_region_grow_lit (by kernel_rfl) (by kernel_rfl) ?_; (repeat (go_big_quiet_step ((go_at_call 90; refine Calls.grow_of (within_is G3.out _))))); refine wpQuiet_nil ?_; intro w1 hw1; have hb1 := below_of_plus hw1; clear hw1; obtain ⟨⟨hc1, hf1, hs1⟩, hz1⟩ := after hb1; (try simp only [World.size_alloc, World.size_setCell, World.size_drew] at hz1))
            have hbk : Below w.heap.size w w1 := HB1.trans (hb1.mono HB1.size)
            clear hc1 hf1 hs1 hz1 hb1
            go_wp2_with fail
            go_ret
            exact ⟨retB E.out.symm, hbk⟩
          · have HA2 : Hid (∀ j, j < i + 1 + 1 → gs j = true) := upto_succ HA.out EV.out
            go_wp2_with fail
            (refine wp_region_grow_lit (by kernel_rfl) (by kernel_rfl) ?_; (repeat (go_big_quiet_step ((go_at_call 90; refine Calls.grow_of (within_is G3.out _))))); refine wpQuiet_nil ?_; intro w1 hw1; have hb1 := below_of_plus hw1; clear hw1; obtain ⟨⟨hc1, hf1, hs1⟩, hz1⟩ := after hb1; (try simp only [World.size_alloc, World.size_setCell, World.size_drew] at hz1))
            have hbk : Below W.heap.size W w1 := gr_trans hB1 (by (repeat (first | exact Below.refl _ _ | refine Below.setCell ?_ (by first | omega | (simp; omega) | (simp; done)) _ | refine Below.alloc ?_ (by first | omega | (simp; omega) | (simp; done)) _ | refine Below.drew ?_ | refine below_drewN ?_ _ | refine Below.trans ?_ (Below.mono (by assumption) (by first | omega | (simp; omega) | (simp; done))))))
            clear hc1 hf1 hs1 hz1 hb1
            go_wp2_with fail
            go_roundw
            case rel => exact ⟨i + 2, by omega, by go_num, hbk, HA2.out⟩
            case measure => simp [intOf]; omega
    · obtain rfl : k = ff.length := by omega
      have E : Hid (an = true) := FIN.out HA.out
      go_wp2_with fail
      go_ret
      exact ⟨retB E.out.symm, HBr⟩
  · have E : Hid (an = false) := by unfold Hid; rw [HSB.out]; have : ¬ (fp.length : Int) = ff.length := (by omega); simp [this]
    have hpe : ((fp.length : Int) != (ff.length : Int)) = true := by simp; omega
    have hpe2 : ((fp.length : Int) == (ff.length : Int)) = false := by simp; omega
    clear h1 hpl
    go_enter Tryd.func89, Tryd.ntmps89
    go_wp2_with fail
    refine (has_is H1.out _).mono ?_
    rintro e W ⟨rfl, hb⟩
    have HB0 : Below w.heap.size w W := by (repeat (first | exact Below.refl _ _ | refine Below.setCell ?_ (by first | omega | (simp; omega) | (simp; done)) _ | refine Below.alloc ?_ (by first | omega | (simp; omega) | (simp; done)) _ | refine Below.drew ?_ | refine below_drewN ?_ _ | refine Below.trans ?_ (Below.mono (by assumption) (by first | omega | (simp; omega) | (simp; done)))))
    have a0 : W.cell? ⟨w.heap.size, 0, none⟩ = some (.slice fA ff.length fC) := cell_keep hb (by simp [go_sem])
    have a3 : W.cell? ⟨w.heap.size, 3, none⟩ = some (.slice pA fp.length pC) := cell_keep hb (by simp [go_sem])
    have za := cell_lt a0
    clear hb r0 r1 hp
    go_wp2_with fail
    go_ret
    exact ⟨retB E.out.symm, HB0⟩
end Go.Proofs.YtomgnpfpaodpiaaDoor
/- Contracts of isValid, Check, checkSlip. -/
namespace Go.Proofs.YtomgnpfpaodpiaaDoor
open Go Go.RowKit
set_option maxHeartbeats 4000000
theorem shelves_is {f : Floor} {v : Bool} (hv : shelvesB f = v) (w : World) (hl : Lim w) (h : FloorAt w w.heap.size f) :
    Calls Tryd.prog 89 #[f.val] w fun e w' => e = .returned (.bool v) ∧ Below w.heap.size w w' := by
  subst hv
  exact areShelves_any f w hl h
theorem lines_is {f : Floor} {l : List SLine} {v : Bool} (hv : linesB f.far.length l = v) (A : Option Addr) (cap : Nat) (hf : f.far.length ≤ 35184372088832) (w : World) (hl : Lim w) (h : SLinesAt w w.heap.size A l.length l) :
    Calls Tryd.prog 91 #[f.val, .slice A l.length cap] w fun e w' => e = .returned (.bool v) ∧ Below w.heap.size w w' := by
  subst hv
  exact areLines_any f A cap l hf w hl h
theorem RowsAt.short {w : World} {B sz cap : Nat} {A : Option Addr} {α : Type} {enc : α → List Value} {l : List α} (h : RowsAt w B sz A cap (l.map enc)) : RowsAt w B sz A l.length (l.map enc) :=
  ⟨by rw [List.length_map]; exact Nat.le_refl _, by have := h.lens; omega, h.few, h.row⟩
theorem goodSlip_of {f : Floor} {k : Nat} {s : SSlip} (h : f.slips[k]? = some s) : goodSlip f k = (hasB 0 100000 s.till && linesB f.far.length s.lines) := by
  unfold goodSlip
  rw [h]
set_option maxRecDepth 100000 in
theorem isValid_any (f : Floor) (w : World) (hl : Lim w) (h : FloorAt w w.heap.size f) :
    Calls Tryd.prog 57 #[f.val] w fun e w' => e = .returned (.bool (validB f)) ∧ Below w.heap.size w w' := by
  have h1l := h.far.lens
  have h3l := h.slips.lens
  have c1 := h.far.cap
  have c3 := h.slips.cap
  have HL := Lib.hid hl
  have HF := Lib.hid h
  have SH := Lib.hid (fun (v : Bool) (hv : shelvesB f = v) (W : World) hL hW => shelves_is hv W hL hW)
  have LI := Lib.hid (fun (l : List SLine) (v : Bool) (hv : linesB f.far.length l = v) (A : Option Addr) (cap : Nat) (W : World) hL hW => lines_is hv A cap h1l.2 W hL hW)
  have GS : Hid (∀ (k : Nat) (s : SSlip), f.slips[k]? = some s → goodSlip f k = (hasB 0 100000 s.till && linesB f.far.length s.lines)) := fun k s a => goodSlip_of a
  have HVB : Hid (validB f = ((((shelvesB f && withinB 1 10 f.slo f.shi) && hasB 1 20 f.carry) && hasB 0 9 f.slips.length) && (List.range f.slips.length).all (goodSlip f))) := rfl
  obtain ⟨gs, hgs⟩ : ∃ gs, gs = goodSlip f := ⟨_, rfl⟩
  obtain ⟨an, han⟩ : ∃ an, an = validB f := ⟨_, rfl⟩
  obtain ⟨sh, hsh⟩ : ∃ sh, shelvesB f = sh := ⟨_, rfl⟩
  rw [← hgs] at GS HVB
  rw [← han, hsh] at HVB
  rw [← han]
  have HSH := Lib.hid hsh
  clear h hgs han hsh
  obtain ⟨fA, fC, ff, slo, shi, pA, pC, fp, fc, sA, sC, fs⟩ := f
  simp only at h1l h3l c1 c3 GS HVB LI
  show Calls Tryd.prog 57 #[.agg #[.slice fA ff.length fC, vi slo, vi shi, .slice pA fp.length pC, vi fc, .slice sA fs.length sC]] w fun e w' => e = .returned (.bool an) ∧ Below w.heap.size w w'
  rcases sh with _ | _
  · have E : Hid (an = false) := by unfold Hid; rw [HVB.out]; rfl
    go_enter Tryd.func57, Tryd.ntmps57
    go_wp2_with fail
    refine (SH.out _ HSH.out _ (HL.out.next (by (repeat (first | exact Below.refl _ _ | refine Below.setCell ?_ (by first | omega | (simp; omega) | (simp; done)) _ | refine Below.alloc ?_ (by first | omega | (simp; omega) | (simp; done)) _ | refine Below.drew ?_ | refine below_drewN ?_ _ | refine Below.trans ?_ (Below.mono (by assumption) (by first | omega | (simp; omega) | (simp; done))))))) (HF.out.to (by (repeat (first | exact Below.refl _ _ | refine Below.setCell ?_ (by first | omega | (simp; omega) | (simp; done)) _ | refine Below.alloc ?_ (by first | omega | (simp; omega) | (simp; done)) _ | refine Below.drew ?_ | refine below_drewN ?_ _ | refine Below.trans ?_ (Below.mono (by assumption) (by first | omega | (simp; omega) | (simp; done)))))))).mono ?_
    rintro e W ⟨rfl, hb⟩
    have HB0 : Below w.heap.size w W := by (repeat (first | exact Below.refl _ _ | refine Below.setCell ?_ (by first | omega | (simp; omega) | (simp; done)) _ | refine Below.alloc ?_ (by first | omega | (simp; omega) | (simp; done)) _ | refine Below.drew ?_ | refine below_drewN ?_ _ | refine Below.trans ?_ (Below.mono (by assumption) (by first | omega | (simp; omega) | (simp; done)))))
    clear hb
    go_wp2_with fail
    go_ret
    exact ⟨retB E.out.symm, HB0⟩
  obtain ⟨st, hst⟩ : ∃ st, withinB 1 10 slo shi = st := ⟨_, rfl⟩
  have HST := Lib.hid hst
  rw [hst] at HVB
  clear hst
  go_enter Tryd.func57, Tryd.ntmps57
  go_wp2_with fail
  refine (SH.out _ HSH.out _ (HL.out.next (by (repeat (first | exact Below.refl _ _ | refine Below.setCell ?_ (by first | omega | (simp; omega) | (simp; done)) _ | refine Below.alloc ?_ (by first | omega | (simp; omega) | (simp; done)) _ | refine Below.drew ?_ | refine below_drewN ?_ _ | refine Below.trans ?_ (Below.mono (by assumption) (by first | omega | (simp; omega) | (simp; done))))))) (HF.out.to (by (repeat (first | exact Below.refl _ _ | refine Below.setCell ?_ (by first | omega | (simp; omega) | (simp; done)) _ | refine Below.alloc ?_ (by first | omega | (simp; omega) | (simp; done)) _ | refine Below.drew ?_ | refine below_drewN ?_ _ | refine Below.trans ?_ (Below.mono (by assumption) (by first | omega | (simp; omega) | (simp; done)))))))).mono ?_
  rintro e W ⟨rfl, hb⟩
  have HB0 : Below w.heap.size w W := by (repeat (first | exact Below.refl _ _ | refine Below.setCell ?_ (by first | omega | (simp; omega) | (simp; done)) _ | refine Below.alloc ?_ (by first | omega | (simp; omega) | (simp; done)) _ | refine Below.drew ?_ | refine below_drewN ?_ _ | refine Below.trans ?_ (Below.mono (by assumption) (by first | omega | (simp; omega) | (simp; done)))))
  have a0 : W.cell? ⟨w.heap.size, 0, none⟩ = some (.slice fA ff.length fC) := cell_keep hb (by simp [go_sem])
  have a1 : W.cell? ⟨w.heap.size, 1, none⟩ = some (vi slo) := cell_keep hb (by simp [go_sem])
  have a2 : W.cell? ⟨w.heap.size, 2, none⟩ = some (vi shi) := cell_keep hb (by simp [go_sem])
  have a3 : W.cell? ⟨w.heap.size, 3, none⟩ = some (.slice pA fp.length pC) := cell_keep hb (by simp [go_sem])
  have a4 : W.cell? ⟨w.heap.size, 4, none⟩ = some (vi fc) := cell_keep hb (by simp [go_sem])
  have a5 : W.cell? ⟨w.heap.size, 5, none⟩ = some (.slice sA fs.length sC) := cell_keep hb (by simp [go_sem])
  have za := cell_lt a0
  have hLW : Lim W := HL.out.next HB0
  obtain ⟨r0, r1⟩ := hLW.row 2 (by omega) (a := 1) (b := 10) (by decide) (by decide)
  have hp := hLW.pos
  clear hb hLW
  go_wp2_with fail
  refine (within_is HST.out _).mono ?_
  rintro e W1 ⟨rfl, hb1⟩
  have HB1 : Below w.heap.size w W1 := HB0.trans (hb1.mono HB0.size)
  rcases st with _ | _
  · have E : Hid (an = false) := by unfold Hid; rw [HVB.out]; simp
    clear hb1
    go_wp2_with fail
    go_ret
    exact ⟨retB E.out.symm, HB1⟩
  have a01 := cell_keep hb1 a0
  have a11 := cell_keep hb1 a1
  have a21 := cell_keep hb1 a2
  have a31 := cell_keep hb1 a3
  have a41 := cell_keep hb1 a4
  have a51 := cell_keep hb1 a5
  have za1 : w.heap.size < W1.heap.size := cell_lt a01
  have hLW1 : Lim W1 := HL.out.next HB1
  obtain ⟨s0, s1⟩ := hLW1.row 4 (by omega) (a := 1) (b := 20) (by decide) (by decide)
  have hp1 := hLW1.pos
  obtain ⟨ct, hct⟩ : ∃ ct, hasB 1 20 fc = ct := ⟨_, rfl⟩
  have HCT := Lib.hid hct
  rw [hct] at HVB
  clear hct hb1 a0 a1 a2 a3 a4 a5 r0 r1 hp za hLW1
  go_wp2_with fail
  refine (has_is HCT.out _).mono ?_
  rintro e W2 ⟨rfl, hb2⟩
  have HB2 : Below w.heap.size w W2 := HB1.trans (hb2.mono HB1.size)
  rcases ct with _ | _
  · have E : Hid (an = false) := by unfold Hid; rw [HVB.out]; simp
    clear hb2
    go_wp2_with fail
    go_ret
    exact ⟨retB E.out.symm, HB2⟩
  have a02 := cell_keep hb2 a01
  have a12 := cell_keep hb2 a11
  have a22 := cell_keep hb2 a21
  have a32 := cell_keep hb2 a31
  have a42 := cell_keep hb2 a41
  have a52 := cell_keep hb2 a51
  have za2 : w.heap.size < W2.heap.size := cell_lt a02
  have hLW2 : Lim W2 := HL.out.next HB2
  obtain ⟨t0, t1⟩ := hLW2.row 5 (by omega) (a := 0) (b := 9) (by decide) (by decide)
  have hp2 := hLW2.pos
  obtain ⟨nt, hnt⟩ : ∃ nt, hasB 0 9 (fs.length : Int) = nt := ⟨_, rfl⟩
  have HNT := Lib.hid hnt
  rw [hnt] at HVB
  clear hnt hb2 a01 a11 a21 a31 a41 a51 s0 s1 hp1 za1 hLW2
  go_wp2_with fail
  refine (has_is HNT.out _).mono ?_
  rintro e W3 ⟨rfl, hb3⟩
  have HB3 : Below w.heap.size w W3 := HB2.trans (hb3.mono HB2.size)
  rcases nt with _ | _
  · have E : Hid (an = false) := by unfold Hid; rw [HVB.out]; simp
    clear hb3
    go_wp2_with fail
    go_ret
    exact ⟨retB E.out.symm, HB3⟩
  have FIN : Hid ((∀ k, k < fs.length → gs k = true) → an = true) := fun ha => by rw [HVB.out]; exact all_yes (by simp) ha
  have BAD : Hid (∀ k, k < fs.length → gs k = false → an = false) := fun k hk hg => by rw [HVB.out]; exact all_no hk hg
  have a03 := cell_keep hb3 a02
  have a13 := cell_keep hb3 a12
  have a23 := cell_keep hb3 a22
  have a33 := cell_keep hb3 a32
  have a43 := cell_keep hb3 a42
  have a53 := cell_keep hb3 a52
  have za3 : w.heap.size < W3.heap.size := cell_lt a03
  clear hb3 a02 a12 a22 a32 a42 a52 t0 t1 hp2 za2 HVB
  go_wp2_with fail
  go_loopw [38] (fun i wr => ∃ k : Nat, k ≤ fs.length ∧ i = .int .i64 k ∧ Below W3.heap.size W3 wr ∧ Hid (∀ j, j < k → gs j = true)) (fun i _ => fs.length - (intOf i).toNat)
  case atStart => exact ⟨0, Nat.zero_le _, rfl, Below.refl _ _, fun j hj => absurd hj (by omega)⟩
  clear za3
  obtain ⟨k, hk, rfl, hB, HA⟩ := hrel
  have HBr : Below w.heap.size w wr := HB3.trans (hB.mono HB3.size)
  have hLr : Lim wr := HL.out.next HBr
  obtain ⟨r0, r1⟩ := hLr.row 6 (by omega) (a := 0) (b := 100000) (by decide) (by decide)
  have hp := hLr.pos
  by_cases hlt : k < fs.length
  · obtain ⟨s, hs⟩ : ∃ s, fs[k]? = some s := ⟨_, List.getElem?_eq_getElem hlt⟩
    have hFr := HF.out.to HBr
    obtain ⟨bb, off, rfl, hbb, x0, x1⟩ := row2 hFr.slips.row hs rfl
    have G := Lib.hid (GS.out k s hs)
    have hsl : SLinesAt wr wr.heap.size s.ad s.cap s.lines := hFr.each s (List.mem_of_getElem? hs)
    have hkI : (k : Int) < fs.length := by omega
    have h0k : (0 : Int) ≤ k := by omega
    have zbb : bb < wr.heap.size := cell_lt x0
    have a0r := cell_keep hB a03
    have a1r := cell_keep hB a13
    have a2r := cell_keep hB a23
    have a3r := cell_keep hB a33
    have a4r := cell_keep hB a43
    have a5r := cell_keep hB a53
    have za : w.heap.size < wr.heap.size := cell_lt a0r
    clear hs hFr
    obtain ⟨lA, lC, ll, till⟩ := s
    simp only at G hsl
    replace x0 : wr.cell? ⟨bb, off + k * 2, none⟩ = some (.slice lA ll.length lC) := x0
    replace x1 : wr.cell? ⟨bb, off + k * 2 + 1, none⟩ = some (vi till) := x1
    have HSL := Lib.hid hsl.short
    clear hsl
    rcases g1 : hasB 0 100000 till with _ | _
    · have E : Hid (an = false) := BAD.out k hlt (by rw [G.out, g1]; rfl)
      have G1 := Lib.hid g1
      clear g1
      go_wp2_with (go_at_call 73; refine (has_is G1.out _).mono ?_; rintro e w1 ⟨rfl, hb1⟩; obtain ⟨⟨hc1, hf1, hs1⟩, hz1⟩ := after hb1; (try simp only [World.size_alloc, World.size_setCell, World.size_drew] at hz1))
      go_ret
      refine ⟨retB E.out.symm, ?_⟩
      (repeat (first | exact Below.refl _ _ | refine Below.setCell ?_ (by first | omega | (simp; omega) | (simp; done)) _ | refine Below.alloc ?_ (by first | omega | (simp; omega) | (simp; done)) _ | refine Below.drew ?_ | refine below_drewN ?_ _ | refine Below.trans ?_ (Below.mono (by assumption) (by first | omega | (simp; omega) | (simp; done)))))
    · have G1 := Lib.hid g1
      obtain ⟨lv, hlv⟩ : ∃ lv, linesB ff.length ll = lv := ⟨_, rfl⟩
      have HLV := Lib.hid hlv
      have EV : Hid (gs k = lv) := by unfold Hid; rw [G.out, g1, hlv]; rfl
      clear g1 hlv
      go_wp2_with fail
      refine (has_is G1.out _).mono ?_
      rintro e W4 ⟨rfl, hb4⟩
      have HB4 : Below wr.heap.size wr W4 := by (repeat (first | exact Below.refl _ _ | refine Below.setCell ?_ (by first | omega | (simp; omega) | (simp; done)) _ | refine Below.alloc ?_ (by first | omega | (simp; omega) | (simp; done)) _ | refine Below.drew ?_ | refine below_drewN ?_ _ | refine Below.trans ?_ (Below.mono (by assumption) (by first | omega | (simp; omega) | (simp; done)))))
      have p0 : W4.cell? ⟨wr.heap.size, 0, none⟩ = some (.slice lA ll.length lC) := cell_keep hb4 (by simp [go_sem])
      have p1 : W4.cell? ⟨wr.heap.size, 1, none⟩ = some (vi till) := cell_keep hb4 (by simp [go_sem])
      have a04 := cell_keep HB4 a0r
      have a14 := cell_keep HB4 a1r
      have a24 := cell_keep HB4 a2r
      have a34 := cell_keep HB4 a3r
      have a44 := cell_keep HB4 a4r
      have a54 := cell_keep HB4 a5r
      have zp := cell_lt p0
      have za4 : w.heap.size < W4.heap.size := cell_lt a04
      have HBW4 : Below w.heap.size w W4 := HBr.trans (HB4.mono HBr.size)
      clear hb4 a0r a1r a2r a3r a4r a5r x0 x1 r0 r1 hp hLr
      go_wp2_with fail
      refine (LI.out _ _ HLV.out lA lC _ (HL.out.next HBW4) (HSL.out.to HB4)).mono ?_
      rintro e W5 ⟨rfl, hb5⟩
      rcases lv with _ | _
      · have E : Hid (an = false) := BAD.out k hlt EV.out
        go_wp2_with fail
        go_ret
        exact ⟨retB E.out.symm, HBW4.trans (hb5.mono HBW4.size)⟩
      · have HA2 : Hid (∀ j, j < k + 1 → gs j = true) := upto_succ HA.out EV.out
        go_wp2_with fail
        go_roundw
        case rel => exact ⟨k + 1, by omega, by go_num, gr_trans hB (gr_trans HB4 hb5), HA2.out⟩
        case measure => simp [intOf]; omega
  · obtain rfl : k = fs.length := by omega
    have E : Hid (an = true) := FIN.out HA.out
    go_wp2_with fail
    go_ret
    exact ⟨retB E.out.symm, HBr⟩
end Go.Proofs.YtomgnpfpaodpiaaDoor
/- Contracts of Check and checkSlip. -/
namespace Go.Proofs.YtomgnpfpaodpiaaDoor
open Go Go.RowKit
set_option maxHeartbeats 2000000
def checkV (f : Floor) : Int := if validB f then 0 else 30
def checkSlipV (f : Floor) (n : Int) : Int := if validB f then (if slipB f n then 0 else 31) else 30
theorem valid_is {f : Floor} {b : Bool} (hv : validB f = b) (w : World) (hl : Lim w) (h : FloorAt w w.heap.size f) :
    Calls Tryd.prog 57 #[f.val] w fun e w' => e = .returned (.bool b) ∧ Below w.heap.size w w' := by
  have := isValid_any f w hl h
  rwa [hv] at this
theorem slip_is {f : Floor} {n : Int} {b : Bool} (hv : slipB f n = b) (w : World) (hl : f.slips.length ≤ 35184372088832) :
    Calls Tryd.prog 85 #[f.val, vi n] w fun e w' => e = .returned (.bool b) ∧ Below w.heap.size w w' := by
  have := hasSlip_any f n w hl
  rwa [hv] at this
theorem Check_any (f : Floor) (w : World) (hl : Lim w) (h : FloorAt w w.heap.size f) :
    Calls Tryd.prog 16 #[f.val] w fun e w' => e = .returned (vi (checkV f)) ∧ Below w.heap.size w w' := by
  rcases hv : validB f with _ | _
  · have E : Hid (checkV f = 30) := by unfold Hid checkV; simp [hv]
    have VA := Lib.hid (fun (W : World) hL hW => valid_is hv W hL hW)
    have HL := Lib.hid hl
    have HF := Lib.hid h
    obtain ⟨an, han⟩ : ∃ an, an = checkV f := ⟨_, rfl⟩
    rw [← han] at E ⊢
    clear h hl hv han
    obtain ⟨fA, fC, ff, slo, shi, pA, pC, fp, fc, sA, sC, fs⟩ := f
    show Calls Tryd.prog 16 #[.agg #[.slice fA ff.length fC, vi slo, vi shi, .slice pA fp.length pC, vi fc, .slice sA fs.length sC]] w _
    go_enter Tryd.func16, Tryd.ntmps16
    go_wp2_with fail
    refine (VA.out _ (HL.out.next (by (repeat (first | exact Below.refl _ _ | refine Below.setCell ?_ (by first | omega | (simp; omega) | (simp; done)) _ | refine Below.alloc ?_ (by first | omega | (simp; omega) | (simp; done)) _ | refine Below.drew ?_ | refine below_drewN ?_ _ | refine Below.trans ?_ (Below.mono (by assumption) (by first | omega | (simp; omega) | (simp; done))))))) (HF.out.to (by (repeat (first | exact Below.refl _ _ | refine Below.setCell ?_ (by first | omega | (simp; omega) | (simp; done)) _ | refine Below.alloc ?_ (by first | omega | (simp; omega) | (simp; done)) _ | refine Below.drew ?_ | refine below_drewN ?_ _ | refine Below.trans ?_ (Below.mono (by assumption) (by first | omega | (simp; omega) | (simp; done)))))))).mono ?_
    rintro e W ⟨rfl, hb⟩
    have HB0 : Below w.heap.size w W := by (repeat (first | exact Below.refl _ _ | refine Below.setCell ?_ (by first | omega | (simp; omega) | (simp; done)) _ | refine Below.alloc ?_ (by first | omega | (simp; omega) | (simp; done)) _ | refine Below.drew ?_ | refine below_drewN ?_ _ | refine Below.trans ?_ (Below.mono (by assumption) (by first | omega | (simp; omega) | (simp; done)))))
    clear hb
    go_wp2_with fail
    go_ret
    exact ⟨by rw [E.out]; rfl, HB0⟩
  · have E : Hid (checkV f = 0) := by unfold Hid checkV; simp [hv]
    have VA := Lib.hid (fun (W : World) hL hW => valid_is hv W hL hW)
    have HL := Lib.hid hl
    have HF := Lib.hid h
    obtain ⟨an, han⟩ : ∃ an, an = checkV f := ⟨_, rfl⟩
    rw [← han] at E ⊢
    clear h hl hv han
    obtain ⟨fA, fC, ff, slo, shi, pA, pC, fp, fc, sA, sC, fs⟩ := f
    show Calls Tryd.prog 16 #[.agg #[.slice fA ff.length fC, vi slo, vi shi, .slice pA fp.length pC, vi fc, .slice sA fs.length sC]] w _
    go_enter Tryd.func16, Tryd.ntmps16
    go_wp2_with fail
    refine (VA.out _ (HL.out.next (by (repeat (first | exact Below.refl _ _ | refine Below.setCell ?_ (by first | omega | (simp; omega) | (simp; done)) _ | refine Below.alloc ?_ (by first | omega | (simp; omega) | (simp; done)) _ | refine Below.drew ?_ | refine below_drewN ?_ _ | refine Below.trans ?_ (Below.mono (by assumption) (by first | omega | (simp; omega) | (simp; done))))))) (HF.out.to (by (repeat (first | exact Below.refl _ _ | refine Below.setCell ?_ (by first | omega | (simp; omega) | (simp; done)) _ | refine Below.alloc ?_ (by first | omega | (simp; omega) | (simp; done)) _ | refine Below.drew ?_ | refine below_drewN ?_ _ | refine Below.trans ?_ (Below.mono (by assumption) (by first | omega | (simp; omega) | (simp; done)))))))).mono ?_
    rintro e W ⟨rfl, hb⟩
    have HB0 : Below w.heap.size w W := by (repeat (first | exact Below.refl _ _ | refine Below.setCell ?_ (by first | omega | (simp; omega) | (simp; done)) _ | refine Below.alloc ?_ (by first | omega | (simp; omega) | (simp; done)) _ | refine Below.drew ?_ | refine below_drewN ?_ _ | refine Below.trans ?_ (Below.mono (by assumption) (by first | omega | (simp; omega) | (simp; done)))))
    clear hb
    go_wp2_with fail
    go_ret
    exact ⟨by rw [E.out]; rfl, HB0⟩
theorem check_is {f : Floor} {e : Int} (hv : checkV f = e) (w : World) (hl : Lim w) (h : FloorAt w w.heap.size f) :
    Calls Tryd.prog 16 #[f.val] w fun e' w' => e' = .returned (vi e) ∧ Below w.heap.size w w' := by
  have := Check_any f w hl h
  rwa [hv] at this
theorem checkSlip_any (f : Floor) (n : Int) (w : World) (hl : Lim w) (h : FloorAt w w.heap.size f) :
    Calls Tryd.prog 52 #[f.val, vi n] w fun e w' => e = .returned (vi (checkSlipV f n)) ∧ Below w.heap.size w w' := by
  have h3l := h.slips.lens
  have HL := Lib.hid hl
  have HF := Lib.hid h
  rcases hv : validB f with _ | _
  · have E : Hid (checkSlipV f n = 30) := by unfold Hid checkSlipV; simp [hv]
    have VA := Lib.hid (fun (W : World) hL hW => check_is (f := f) (e := 30) (by unfold checkV; simp [hv]) W hL hW)
    obtain ⟨an, han⟩ : ∃ an, an = checkSlipV f n := ⟨_, rfl⟩
    rw [← han] at E ⊢
    clear h hl hv han
    obtain ⟨fA, fC, ff, slo, shi, pA, pC, fp, fc, sA, sC, fs⟩ := f
    show Calls Tryd.prog 52 #[.agg #[.slice fA ff.length fC, vi slo, vi shi, .slice pA fp.length pC, vi fc, .slice sA fs.length sC], vi n] w _
    go_enter Tryd.func52, Tryd.ntmps52
    go_wp2_with fail
    refine (VA.out _ (HL.out.next (by (repeat (first | exact Below.refl _ _ | refine Below.setCell ?_ (by first | omega | (simp; omega) | (simp; done)) _ | refine Below.alloc ?_ (by first | omega | (simp; omega) | (simp; done)) _ | refine Below.drew ?_ | refine below_drewN ?_ _ | refine Below.trans ?_ (Below.mono (by assumption) (by first | omega | (simp; omega) | (simp; done))))))) (HF.out.to (by (repeat (first | exact Below.refl _ _ | refine Below.setCell ?_ (by first | omega | (simp; omega) | (simp; done)) _ | refine Below.alloc ?_ (by first | omega | (simp; omega) | (simp; done)) _ | refine Below.drew ?_ | refine below_drewN ?_ _ | refine Below.trans ?_ (Below.mono (by assumption) (by first | omega | (simp; omega) | (simp; done)))))))).mono ?_
    rintro e W ⟨rfl, hb⟩
    have HB0 : Below w.heap.size w W := by (repeat (first | exact Below.refl _ _ | refine Below.setCell ?_ (by first | omega | (simp; omega) | (simp; done)) _ | refine Below.alloc ?_ (by first | omega | (simp; omega) | (simp; done)) _ | refine Below.drew ?_ | refine below_drewN ?_ _ | refine Below.trans ?_ (Below.mono (by assumption) (by first | omega | (simp; omega) | (simp; done)))))
    clear hb
    go_wp2_with fail
    go_ret
    exact ⟨by rw [E.out]; rfl, HB0⟩
  obtain ⟨sb, hsb⟩ : ∃ sb, slipB f n = sb := ⟨_, rfl⟩
  have E : Hid (checkSlipV f n = if sb then 0 else 31) := by unfold Hid checkSlipV; simp [hv, hsb]
  have VA := Lib.hid (fun (W : World) hL hW => check_is (f := f) (e := 0) (by unfold checkV; simp [hv]) W hL hW)
  have HS := Lib.hid (fun (W : World) => slip_is hsb W h3l.2)
  obtain ⟨an, han⟩ : ∃ an, an = checkSlipV f n := ⟨_, rfl⟩
  rw [← han] at E ⊢
  clear h hl hv han hsb
  obtain ⟨fA, fC, ff, slo, shi, pA, pC, fp, fc, sA, sC, fs⟩ := f
  simp only at h3l
  show Calls Tryd.prog 52 #[.agg #[.slice fA ff.length fC, vi slo, vi shi, .slice pA fp.length pC, vi fc, .slice sA fs.length sC], vi n] w _
  go_enter Tryd.func52, Tryd.ntmps52
  go_wp2_with fail
  refine (VA.out _ (HL.out.next (by (repeat (first | exact Below.refl _ _ | refine Below.setCell ?_ (by first | omega | (simp; omega) | (simp; done)) _ | refine Below.alloc ?_ (by first | omega | (simp; omega) | (simp; done)) _ | refine Below.drew ?_ | refine below_drewN ?_ _ | refine Below.trans ?_ (Below.mono (by assumption) (by first | omega | (simp; omega) | (simp; done))))))) (HF.out.to (by (repeat (first | exact Below.refl _ _ | refine Below.setCell ?_ (by first | omega | (simp; omega) | (simp; done)) _ | refine Below.alloc ?_ (by first | omega | (simp; omega) | (simp; done)) _ | refine Below.drew ?_ | refine below_drewN ?_ _ | refine Below.trans ?_ (Below.mono (by assumption) (by first | omega | (simp; omega) | (simp; done)))))))).mono ?_
  rintro e W ⟨rfl, hb⟩
  have HB0 : Below w.heap.size w W := by (repeat (first | exact Below.refl _ _ | refine Below.setCell ?_ (by first | omega | (simp; omega) | (simp; done)) _ | refine Below.alloc ?_ (by first | omega | (simp; omega) | (simp; done)) _ | refine Below.drew ?_ | refine below_drewN ?_ _ | refine Below.trans ?_ (Below.mono (by assumption) (by first | omega | (simp; omega) | (simp; done)))))
  have a0 : W.cell? ⟨w.heap.size, 0, none⟩ = some (.slice fA ff.length fC) := cell_keep hb (by simp [go_sem])
  have a1 : W.cell? ⟨w.heap.size, 1, none⟩ = some (vi slo) := cell_keep hb (by simp [go_sem])
  have a2 : W.cell? ⟨w.heap.size, 2, none⟩ = some (vi shi) := cell_keep hb (by simp [go_sem])
  have a3 : W.cell? ⟨w.heap.size, 3, none⟩ = some (.slice pA fp.length pC) := cell_keep hb (by simp [go_sem])
  have a4 : W.cell? ⟨w.heap.size, 4, none⟩ = some (vi fc) := cell_keep hb (by simp [go_sem])
  have a5 : W.cell? ⟨w.heap.size, 5, none⟩ = some (.slice sA fs.length sC) := cell_keep hb (by simp [go_sem])
  clear hb
  go_wp2_with fail
  refine (HS.out _).mono ?_
  rintro e W2 ⟨rfl, hb⟩
  have HB1 : Below w.heap.size w W2 := HB0.trans (hb.mono HB0.size)
  clear hb
  rcases sb with _ | _
  · go_wp2_with fail
    go_ret
    exact ⟨by rw [E.out]; rfl, HB1⟩
  · go_wp2_with fail
    go_ret
    exact ⟨by rw [E.out]; rfl, HB1⟩
theorem checkSlip_is {f : Floor} {n e : Int} (hv : checkSlipV f n = e) (w : World) (hl : Lim w) (h : FloorAt w w.heap.size f) :
    Calls Tryd.prog 52 #[f.val, vi n] w fun e' w' => e' = .returned (vi e) ∧ Below w.heap.size w w' := by
  have := checkSlip_any f n w hl h
  rwa [hv] at this
end Go.Proofs.YtomgnpfpaodpiaaDoor
/- Contracts of sets. -/
namespace Go.Proofs.YtomgnpfpaodpiaaDoor
open Go Go.RowKit
set_option maxHeartbeats 2000000
theorem has_fact : ∀ s : Fin 9, ∀ m : Fin 512, (bits BinOp.and IntKind.i64 ((m.val : Int) / 2 ^ s.val) 1 == 1) = m.val.testBit s.val := by decide +kernel
theorem with_fact : ∀ s : Fin 9, ∀ m : Fin 512, bits BinOp.or IntKind.i64 (m.val : Int) (wrap64 (2 ^ s.val)) = ((m.val ||| 2 ^ s.val : Nat) : Int) := by decide +kernel
theorem setHas_any (m s : Nat) (hm : m < 512) (hs : s < 9) (w : World) :
    Calls Tryd.prog 96 #[vi m, vi s] w fun e w' => e = .returned (.bool (m.testBit s)) ∧ Below w.heap.size w w' := by
  have h1 : (0 : Int) ≤ s := by omega
  have h2 : (s : Int) < 9 := by omega
  go_enter Tryd.func96, Tryd.ntmps96
  go_wp2_with fail
  go_ret
  exact ⟨retB (has_fact ⟨s, hs⟩ ⟨m, hm⟩), Below.refl _ _⟩
theorem setWith_any (m s : Nat) (hm : m < 512) (hs : s < 9) (w : World) :
    Calls Tryd.prog 97 #[vi m, vi s] w fun e w' => e = .returned (vi (m ||| 2 ^ s : Nat)) ∧ Below w.heap.size w w' := by
  have h1 : (0 : Int) ≤ s := by omega
  have h2 : (s : Int) < 9 := by omega
  go_enter Tryd.func97, Tryd.ntmps97
  go_wp2_with fail
  go_ret
  exact ⟨retI (with_fact ⟨s, hs⟩ ⟨m, hm⟩), Below.refl _ _⟩
end Go.Proofs.YtomgnpfpaodpiaaDoor
/- Contracts of floor.all and isInTime. -/
namespace Go.Proofs.YtomgnpfpaodpiaaDoor
open Go Go.RowKit
set_option maxHeartbeats 2000000
theorem all_fact : ∀ n : Fin 10, wrap64 (wrap64 (2 ^ n.val) - 1) = ((2 ^ n.val - 1 : Nat) : Int) := by decide +kernel
theorem all_any (f : Floor) (hs : f.slips.length ≤ 9) (w : World) :
    Calls Tryd.prog 71 #[f.val] w fun e w' => e = .returned (vi (2 ^ f.slips.length - 1 : Nat)) ∧ Below w.heap.size w w' := by
  obtain ⟨fA, fC, ff, slo, shi, pA, pC, fp, fc, sA, sC, fs⟩ := f
  simp only at hs
  show Calls Tryd.prog 71 #[.agg #[.slice fA ff.length fC, vi slo, vi shi, .slice pA fp.length pC, vi fc, .slice sA fs.length sC]] w _
  have h1 : (0 : Int) ≤ fs.length := by omega
  have h2 : (fs.length : Int) ≤ 9 := by omega
  go_enter Tryd.func71, Tryd.ntmps71
  go_wp2_with fail
  go_ret
  refine ⟨retI (all_fact ⟨fs.length, by omega⟩), ?_⟩
  (repeat (first | exact Below.refl _ _ | refine Below.setCell ?_ (by first | omega | (simp; omega) | (simp; done)) _ | refine Below.alloc ?_ (by first | omega | (simp; omega) | (simp; done)) _ | refine Below.drew ?_ | refine below_drewN ?_ _ | refine Below.trans ?_ (Below.mono (by assumption) (by first | omega | (simp; omega) | (simp; done)))))
theorem isInTime_any (f : Floor) (n : Nat) (x : Int) (s : SSlip) (hs : f.slips[n]? = some s) (w : World) (h : FloorAt w w.heap.size f) :
    Calls Tryd.prog 109 #[f.val, vi n, vi x] w fun e w' => e = .returned (.bool (decide (x ≤ s.till))) ∧ Below w.heap.size w w' := by
  have hsl := h.slips.lens
  obtain ⟨bs, os, hsA, hbs, s0, s1⟩ := row2 h.slips.row hs rfl
  have hnl : (n : Int) < f.slips.length := by have := (List.getElem?_eq_some_iff.1 hs).1; omega
  have h0n : (0 : Int) ≤ n := by omega
  have zbs : bs < w.heap.size := cell_lt s0
  clear hs h
  obtain ⟨sa, sc, sl, till⟩ := s
  replace s1 : w.cell? ⟨bs, os + n * 2 + 1, none⟩ = some (vi till) := s1
  obtain ⟨fA, fC, ff, slo, shi, pA, pC, fp, fc, sA, sC, fs⟩ := f
  simp only at hsl hnl hsA
  subst hsA
  show Calls Tryd.prog 109 #[.agg #[.slice fA ff.length fC, vi slo, vi shi, .slice pA fp.length pC, vi fc, .slice (some ⟨bs, os, none⟩) fs.length sC], vi n, vi x] w _
  obtain ⟨ans, hans⟩ : ∃ ans, ans = decide (x ≤ till) := ⟨_, rfl⟩
  go_enter Tryd.func109, Tryd.ntmps109
  go_wp2_with fail
  go_ret
  refine ⟨rfl, ?_⟩
  (repeat (first | exact Below.refl _ _ | refine Below.setCell ?_ (by first | omega | (simp; omega) | (simp; done)) _ | refine Below.alloc ?_ (by first | omega | (simp; omega) | (simp; done)) _ | refine Below.drew ?_ | refine below_drewN ?_ _ | refine Below.trans ?_ (Below.mono (by assumption) (by first | omega | (simp; omega) | (simp; done)))))
end Go.Proofs.YtomgnpfpaodpiaaDoor
/- Contract of setOf. -/
namespace Go.Proofs.YtomgnpfpaodpiaaDoor
open Go Go.RowKit
set_option maxHeartbeats 2000000
def setF (l : List Nat) : Nat := l.foldl (fun m s => m ||| 2 ^ s) 0
theorem setF_snoc (l : List Nat) (s : Nat) : setF (l ++ [s]) = setF l ||| 2 ^ s := by simp [setF]
theorem setF_lt : ∀ (l : List Nat), (∀ s ∈ l, s < 9) → setF l < 512 := by
  have key : ∀ (l : List Nat) (m : Nat), m < 512 → (∀ s ∈ l, s < 9) → l.foldl (fun m s => m ||| 2 ^ s) m < 512 := by
    intro l
    induction l with
    | nil => intro m hm _; exact hm
    | cons s l ih =>
      intro m hm h
      refine ih _ ?_ (fun x hx => h x (by simp [hx]))
      have hs := h s (by simp)
      have : (2 : Nat) ^ s < 2 ^ 9 := Nat.pow_lt_pow_right (by omega) hs
      exact Nat.or_lt_two_pow (n := 9) (by omega) this
  exact fun l h => key l 0 (by omega) h
theorem setOf_any (A : Option Addr) (cap : Nat) (l : List Nat) (hl : ∀ s ∈ l, s < 9) (w : World) (h : IntsAt w w.heap.size A l.length (l.map (fun s : Nat => (s : Int)))) :
    Calls Tryd.prog 77 #[.slice A l.length cap] w fun e w' => e = .returned (vi (setF l)) ∧ Below w.heap.size w w' := by
  have hll := h.few
  simp only [List.length_map] at hll
  have HX : Hid (∀ (k : Nat) (s : Nat), l[k]? = some s → s < 9 ∧ setF (l.take k) < 512 ∧ setF (l.take (k + 1)) = (setF (l.take k) ||| 2 ^ s)) := fun k s hs => by
    obtain ⟨hk, e⟩ := List.getElem?_eq_some_iff.1 hs
    refine ⟨hl s (List.mem_of_getElem? hs), setF_lt _ (fun x hx => hl x (List.mem_of_mem_take hx)), ?_⟩
    rw [List.take_succ_eq_append_getElem hk, setF_snoc, e]
  have HA : Hid (setF (l.take l.length) = setF l) := by unfold Hid; rw [List.take_length]
  have H0 : Hid (setF (l.take 0) = 0) := rfl
  have HH := Lib.hid h
  obtain ⟨R, hR⟩ : ∃ R, R = setF l := ⟨_, rfl⟩
  obtain ⟨S, hS⟩ : ∃ S, S = fun k => setF (l.take k) := ⟨_, rfl⟩
  have eS : ∀ k, setF (l.take k) = S k := fun k => by rw [hS]
  simp only [eS] at HX HA H0
  rw [← hR] at HA ⊢
  clear eS hS hR h hl
  go_enter Tryd.func77, Tryd.ntmps77
  go_wp2_with fail
  go_loopw [3, 5, 8] (fun x y i wr => ∃ k : Nat, k ≤ l.length ∧ i = .int .i64 k ∧ Below w.heap.size w wr ∧ x = vi (S k)) (fun _ _ i _ => l.length - (intOf i).toNat)
  case atStart => exact ⟨0, Nat.zero_le _, rfl, Below.refl _ _, by rw [H0.out]; rfl⟩
  obtain ⟨k, hk, rfl, hB, rfl⟩ := hrel
  have hz := hB.size
  by_cases hlt : k < l.length
  · obtain ⟨s, hs⟩ : ∃ s, l[k]? = some s := ⟨_, List.getElem?_eq_getElem hlt⟩
    obtain ⟨s9, sm, S1⟩ := HX.out k s hs
    obtain ⟨bb, off, rfl, hbb, x0⟩ := ints_at (HH.out.to hB) (k := k) (x := (s : Int)) (by rw [List.getElem?_map, hs]; rfl)
    have S1 := Lib.hid S1
    have hkI : (k : Int) < l.length := by omega
    have h0k : (0 : Int) ≤ k := by omega
    have WI := Lib.hid (setWith_any (S k) s sm s9)
    obtain ⟨sk, hsk⟩ : ∃ sk, sk = S k := ⟨_, rfl⟩
    rw [← hsk] at WI S1 sm ⊢
    clear hs hsk
    go_wp2_with fail
    refine (WI.out _).mono ?_
    rintro e W2 ⟨rfl, hb2⟩
    go_wp2_with fail
    go_roundw
    case rel => exact ⟨k + 1, by omega, by go_num, hB.trans (hb2.mono hz), by rw [S1.out]⟩
    case measure => simp [intOf]; omega
  · obtain rfl : k = l.length := by omega
    rw [HA.out]
    go_wp2_with fail
    go_ret
    exact ⟨rfl, hB⟩
end Go.Proofs.YtomgnpfpaodpiaaDoor
/- Contract of pieces.last. -/
namespace Go.Proofs.YtomgnpfpaodpiaaDoor
open Go Go.RowKit
set_option maxHeartbeats 2000000
theorem spread {p : List Int} (h : p.length = 12) : ∃ n0 n1 n2 n3 n4 n5 n6 n7 n8 n9 n10 n11, p = [n0, n1, n2, n3, n4, n5, n6, n7, n8, n9, n10, n11] := by
  match p, h with
  | [n0, n1, n2, n3, n4, n5, n6, n7, n8, n9, n10, n11], _ => exact ⟨n0, n1, n2, n3, n4, n5, n6, n7, n8, n9, n10, n11, rfl⟩
set_option maxRecDepth 100000 in
theorem idx12 {q : List Int} (h : q.length = 12) (k : Nat) (hk : k < 12) (w : World) : (Instr.index 102 (.agg (q.map vi).toArray) (.int .i64 k)).run Tryd.prog w = .ok (vi (q[k]?.getD 0)) w := by
  obtain ⟨n0, n1, n2, n3, n4, n5, n6, n7, n8, n9, n10, n11, rfl⟩ := spread h
  have hk : k = 0 ∨ k = 1 ∨ k = 2 ∨ k = 3 ∨ k = 4 ∨ k = 5 ∨ k = 6 ∨ k = 7 ∨ k = 8 ∨ k = 9 ∨ k = 10 ∨ k = 11 := by omega
  rcases hk with rfl | rfl | rfl | rfl | rfl | rfl | rfl | rfl | rfl | rfl | rfl | rfl <;> (show (_ : Result _) = _; kernel_rfl)
def lastI (o : Option Nat) : Int := match o with | some k => k | none => 0
theorem last_any (p : List Int) (hp : p.length = 12) (w : World) :
    Calls Tryd.prog 113 #[piecesV p] w fun e w' => e = .returned (.tuple #[vi (lastI (lastF p)), .bool (lastF p).isSome]) ∧ Below w.heap.size w w' := by
  have HS := Lib.hid (fun k => lastK_succ p k)
  have HA := Lib.hid (lastK_all hp)
  have HX : Hid (∀ k : Nat, k < 12 → ∃ n : Int, p[k]?.getD 0 = n ∧ ∀ w, (Instr.index 102 (.agg (p.map vi).toArray) (.int .i64 k)).run Tryd.prog w = .ok (vi n) w) := fun k hk => ⟨_, rfl, idx12 hp k hk⟩
  have E0 : Hid (lastK p 0 = none) := rfl
  obtain ⟨q, hq⟩ : ∃ q, q = p := ⟨_, rfl⟩
  obtain ⟨V, hV⟩ : ∃ V, V = (p.map vi).toArray := ⟨_, rfl⟩
  have HV := Lib.hid hV
  rw [← hV] at HX
  obtain ⟨n0, n1, n2, n3, n4, n5, n6, n7, n8, n9, n10, n11, rfl⟩ := spread hp
  rw [← hq] at HX HS HA E0 ⊢
  have HQ := Lib.hid hq
  clear hq hV
  show Calls Tryd.prog 113 #[piecesV q] w _
  rw [HQ.out]
  show Calls Tryd.prog 113 #[.agg #[vi n0, vi n1, vi n2, vi n3, vi n4, vi n5, vi n6, vi n7, vi n8, vi n9, vi n10, vi n11]] w _
  go_enter Tryd.func113, Tryd.ntmps113
  go_wp2_with fail
  have hfold : #[vi n0, vi n1, vi n2, vi n3, vi n4, vi n5, vi n6, vi n7, vi n8, vi n9, vi n10, vi n11] = V := by rw [HV.out]; rfl
  rw [hfold]
  clear hfold HV hp
  go_loopw [4, 5, 6, 7, 9] (fun a b x y i wr => ∃ k : Nat, k ≤ 12 ∧ i = .int .i64 k ∧ Below w.heap.size w wr ∧ (∃ o, a = vi (lastI o) ∧ b = .bool o.isSome ∧ Hid (lastK q k = o))) (fun _ _ _ _ i _ => 12 - (intOf i).toNat)
  case atStart => exact ⟨0, Nat.zero_le _, rfl, by (repeat (first | exact Below.refl _ _ | refine Below.setCell ?_ (by first | omega | (simp; omega) | (simp; done)) _ | refine Below.alloc ?_ (by first | omega | (simp; omega) | (simp; done)) _ | refine Below.drew ?_ | refine below_drewN ?_ _ | refine Below.trans ?_ (Below.mono (by assumption) (by first | omega | (simp; omega) | (simp; done))))), none, rfl, rfl, E0⟩
  obtain ⟨k, hk, rfl, hB, o, rfl, rfl, HO⟩ := hrel
  by_cases hlt : k < 12
  · obtain ⟨n, hn, hx⟩ := HX.out k hlt
    have hkI : (k : Int) < 12 := by omega
    have h0k : (0 : Int) ≤ k := by omega
    have S1 := HS.out k
    rw [hn, HO.out] at S1
    have S1 := Lib.hid S1
    clear hn
    go_wp2_with fail
    all_goals go_roundw
    case rel => exact ⟨k + 1, by omega, by go_num, hB, some k, rfl, rfl, by unfold Hid; rw [S1.out, if_pos (by omega)]⟩
    case measure => simp [intOf]; omega
    case rel => exact ⟨k + 1, by omega, by go_num, hB, o, rfl, rfl, by unfold Hid; rw [S1.out, if_neg (by omega)]⟩
    case measure => simp [intOf]; omega
  · obtain rfl : k = 12 := by omega
    have E : Hid (lastF q = o) := by unfold Hid; rw [← HA.out, HO.out]
    go_wp2_with fail
    go_ret2
    refine ⟨by rw [← HQ.out, E.out]; rfl, ?_⟩
    (repeat (first | exact Below.refl _ _ | refine Below.setCell ?_ (by first | omega | (simp; omega) | (simp; done)) _ | refine Below.alloc ?_ (by first | omega | (simp; omega) | (simp; done)) _ | refine Below.drew ?_ | refine below_drewN ?_ _ | refine Below.trans ?_ (Below.mono (by assumption) (by first | omega | (simp; omega) | (simp; done)))))
end Go.Proofs.YtomgnpfpaodpiaaDoor
