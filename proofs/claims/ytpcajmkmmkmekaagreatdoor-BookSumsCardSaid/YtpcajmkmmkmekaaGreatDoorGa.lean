/- The data of racks as plain lists, how they lie in memory, and what each function answers: plain mathematics. -/
import Derived.WalkKit
import Derived.Lib.Hide
import Derived.OwnWalk
set_option linter.unusedVariables false
set_option linter.unusedSimpArgs false
namespace Go.Proofs.YtpcajmkmmkmekaaGreatDoor
open Go Go.RowKit

/-- the n-th cell of a row of structs -/
def RowAt (w : World) (B sz : Nat) (A : Option Addr) (rows : List (List Value)) : Prop :=
  0 < rows.length → ∃ b off, A = some ⟨b, off, none⟩ ∧ b < B ∧ ∀ i r, rows[i]? = some r → ∀ j u, j < sz → r[j]? = some u → w.cell? ⟨b, off + i * sz + j, none⟩ = some u

structure Fit where
  size : Int
  lo : Int
  hi : Int
  price : Int
structure Entry where
  number : Int
  good : Int
  colours : Int
  ad : Option Addr
  cap : Nat
  sizes : List Fit
structure Issue where
  lo : Int
  hi : Int
  held : Int
  ad : Option Addr
  cap : Nat
  entries : List Entry
structure Rack where
  goods : Int
  ad : Option Addr
  cap : Nat
  issues : List Issue
structure Item where
  good : Int
  size : Int
  colour : Int
structure Line where
  item : Item
  many : Int

abbrev vi (n : Int) : Value := .int .i64 n
def Fit.cells (f : Fit) : List Value := [vi f.size, vi f.lo, vi f.hi, vi f.price]
abbrev Fit.val (f : Fit) : Value := .agg #[vi f.size, vi f.lo, vi f.hi, vi f.price]
abbrev Entry.slice (e : Entry) : Value := .slice e.ad e.sizes.length e.cap
def Entry.cells (e : Entry) : List Value := [vi e.number, vi e.good, vi e.colours, e.slice]
abbrev Entry.val (e : Entry) : Value := .agg #[vi e.number, vi e.good, vi e.colours, e.slice]
abbrev Issue.slice (x : Issue) : Value := .slice x.ad x.entries.length x.cap
def Issue.cells (x : Issue) : List Value := [vi x.lo, vi x.hi, vi x.held, x.slice]
abbrev Issue.val (x : Issue) : Value := .agg #[vi x.lo, vi x.hi, vi x.held, x.slice]
abbrev Rack.slice (r : Rack) : Value := .slice r.ad r.issues.length r.cap
abbrev Rack.val (r : Rack) : Value := .agg #[vi r.goods, r.slice]
abbrev Item.val (x : Item) : Value := .agg #[vi x.good, vi x.size, vi x.colour]
def Line.cells (l : Line) : List Value := [vi l.item.good, vi l.item.size, vi l.item.colour, vi l.many]

def room : Nat := 1000000000000
/-- what is known of a list in memory -/
structure FitsAt (w : World) (B : Nat) (A : Option Addr) (cap : Nat) (l : List Fit) : Prop where
  len : l.length ≤ cap
  cap : cap ≤ 4398046511104
  row : RowAt w B 4 A (l.map Fit.cells)
structure EntriesAt (w : World) (B : Nat) (A : Option Addr) (cap : Nat) (l : List Entry) : Prop where
  len : l.length ≤ cap
  cap : cap ≤ 4398046511104
  row : RowAt w B 4 A (l.map Entry.cells)
  each : ∀ e, e ∈ l → FitsAt w B e.ad e.cap e.sizes
structure IssuesAt (w : World) (B : Nat) (A : Option Addr) (cap : Nat) (l : List Issue) : Prop where
  len : l.length ≤ cap
  cap : cap ≤ 9223372036854775807
  few : l.length ≤ 4398046511104
  row : RowAt w B 4 A (l.map Issue.cells)
  each : ∀ x, x ∈ l → EntriesAt w B x.ad x.cap x.entries
def RackAt (w : World) (B : Nat) (r : Rack) : Prop := IssuesAt w B r.ad r.cap r.issues
def IssueAt (w : World) (B : Nat) (x : Issue) : Prop := EntriesAt w B x.ad x.cap x.entries
def EntryAt (w : World) (B : Nat) (e : Entry) : Prop := FitsAt w B e.ad e.cap e.sizes
structure LinesAt (w : World) (B : Nat) (A : Option Addr) (cap : Nat) (l : List Line) : Prop where
  len : l.length ≤ cap
  cap : cap ≤ 9223372036854775807
  row : RowAt w B 4 A (l.map Line.cells)
structure IntsAt (w : World) (B : Nat) (A : Option Addr) (cap : Nat) (l : List Int) : Prop where
  len : l.length ≤ cap
  cap : cap ≤ 17592186044416
  row : RowAt w B 1 A (l.map fun n => [vi n])

section keep
variable {w w' : World} {B B' sz cap : Nat} {A : Option Addr}
theorem RowAt.keep {rows : List (List Value)} (h : RowAt w B sz A rows) (hk : ∀ p : Addr, p.block < B → w'.cell? p = w.cell? p) : RowAt w' B sz A rows := fun hl => by
  obtain ⟨b, off, hA, hb, hc⟩ := h hl
  exact ⟨b, off, hA, hb, fun i r hr j u hj hu => (hk _ hb).trans (hc i r hr j u hj hu)⟩
theorem RowAt.more {rows : List (List Value)} (h : RowAt w B sz A rows) (hB : B ≤ B') : RowAt w B' sz A rows := fun hl => by
  obtain ⟨b, off, hA, hb, hc⟩ := h hl
  exact ⟨b, off, hA, by omega, hc⟩
theorem RowAt.take {rows : List (List Value)} (h : RowAt w B sz A rows) (k : Nat) : RowAt w B sz A (rows.take k) := fun hl => by
  rw [List.length_take] at hl
  obtain ⟨b, off, hA, hb, hc⟩ := h (by omega)
  refine ⟨b, off, hA, hb, fun i r hr j u hj hu => hc i r ?_ j u hj hu⟩
  rw [List.getElem?_take] at hr
  split at hr <;> simp_all
theorem FitsAt.keep {l : List Fit} (h : FitsAt w B A cap l) (hk : ∀ p : Addr, p.block < B → w'.cell? p = w.cell? p) : FitsAt w' B A cap l := ⟨h.len, h.cap, h.row.keep hk⟩
theorem EntriesAt.keep {l : List Entry} (h : EntriesAt w B A cap l) (hk : ∀ p : Addr, p.block < B → w'.cell? p = w.cell? p) : EntriesAt w' B A cap l := ⟨h.len, h.cap, h.row.keep hk, fun e he => (h.each e he).keep hk⟩
theorem IssuesAt.keep {l : List Issue} (h : IssuesAt w B A cap l) (hk : ∀ p : Addr, p.block < B → w'.cell? p = w.cell? p) : IssuesAt w' B A cap l := ⟨h.len, h.cap, h.few, h.row.keep hk, fun e he => (h.each e he).keep hk⟩
theorem LinesAt.keep {l : List Line} (h : LinesAt w B A cap l) (hk : ∀ p : Addr, p.block < B → w'.cell? p = w.cell? p) : LinesAt w' B A cap l := ⟨h.len, h.cap, h.row.keep hk⟩
theorem IntsAt.keep {l : List Int} (h : IntsAt w B A cap l) (hk : ∀ p : Addr, p.block < B → w'.cell? p = w.cell? p) : IntsAt w' B A cap l := ⟨h.len, h.cap, h.row.keep hk⟩
theorem FitsAt.more {l : List Fit} (h : FitsAt w B A cap l) (hB : B ≤ B') : FitsAt w B' A cap l := ⟨h.len, h.cap, h.row.more hB⟩
theorem EntriesAt.more {l : List Entry} (h : EntriesAt w B A cap l) (hB : B ≤ B') : EntriesAt w B' A cap l := ⟨h.len, h.cap, h.row.more hB, fun e he => (h.each e he).more hB⟩
theorem IssuesAt.more {l : List Issue} (h : IssuesAt w B A cap l) (hB : B ≤ B') : IssuesAt w B' A cap l := ⟨h.len, h.cap, h.few, h.row.more hB, fun e he => (h.each e he).more hB⟩
theorem LinesAt.more {l : List Line} (h : LinesAt w B A cap l) (hB : B ≤ B') : LinesAt w B' A cap l := ⟨h.len, h.cap, h.row.more hB⟩
theorem IntsAt.more {l : List Int} (h : IntsAt w B A cap l) (hB : B ≤ B') : IntsAt w B' A cap l := ⟨h.len, h.cap, h.row.more hB⟩
theorem FitsAt.below {l : List Fit} (h : FitsAt w B A cap l) (hb : Below B w w') : FitsAt w' B A cap l := h.keep fun _ hp => hb.cell hp
theorem EntriesAt.below {l : List Entry} (h : EntriesAt w B A cap l) (hb : Below B w w') : EntriesAt w' B A cap l := h.keep fun _ hp => hb.cell hp
theorem IssuesAt.below {l : List Issue} (h : IssuesAt w B A cap l) (hb : Below B w w') : IssuesAt w' B A cap l := h.keep fun _ hp => hb.cell hp
theorem LinesAt.below {l : List Line} (h : LinesAt w B A cap l) (hb : Below B w w') : LinesAt w' B A cap l := h.keep fun _ hp => hb.cell hp
theorem IntsAt.below {l : List Int} (h : IntsAt w B A cap l) (hb : Below B w w') : IntsAt w' B A cap l := h.keep fun _ hp => hb.cell hp
theorem EntriesAt.take {l : List Entry} (h : EntriesAt w B A cap l) (k c : Nat) (hk : k ≤ c) (hc : c ≤ cap) : EntriesAt w B A c (l.take k) :=
  ⟨by rw [List.length_take]; omega, by have := h.cap; omega, by rw [List.map_take]; exact h.row.take k, fun e he => h.each e (List.mem_of_mem_take he)⟩
theorem FitsAt.to {l : List Fit} (h : FitsAt w w.heap.size A cap l) (hb : Below w.heap.size w w') : FitsAt w' w'.heap.size A cap l := (h.below hb).more hb.size
theorem EntriesAt.to {l : List Entry} (h : EntriesAt w w.heap.size A cap l) (hb : Below w.heap.size w w') : EntriesAt w' w'.heap.size A cap l := (h.below hb).more hb.size
theorem IssuesAt.to {l : List Issue} (h : IssuesAt w w.heap.size A cap l) (hb : Below w.heap.size w w') : IssuesAt w' w'.heap.size A cap l := (h.below hb).more hb.size
theorem LinesAt.to {l : List Line} (h : LinesAt w w.heap.size A cap l) (hb : Below w.heap.size w w') : LinesAt w' w'.heap.size A cap l := (h.below hb).more hb.size
theorem IntsAt.to {l : List Int} (h : IntsAt w w.heap.size A cap l) (hb : Below w.heap.size w w') : IntsAt w' w'.heap.size A cap l := (h.below hb).more hb.size
theorem RackAt.to {r : Rack} (h : RackAt w w.heap.size r) (hb : Below w.heap.size w w') : RackAt w' w'.heap.size r := IssuesAt.to h hb
theorem IssueAt.to {x : Issue} (h : IssueAt w w.heap.size x) (hb : Below w.heap.size w w') : IssueAt w' w'.heap.size x := EntriesAt.to h hb
theorem EntryAt.to {e : Entry} (h : EntryAt w w.heap.size e) (hb : Below w.heap.size w w') : EntryAt w' w'.heap.size e := FitsAt.to h hb
theorem EntriesAt.at_ {l : List Entry} (h : EntriesAt w B A cap l) {k : Nat} {e : Entry} (he : l[k]? = some e) : EntryAt w B e := h.each e (List.mem_of_getElem? he)
theorem IssuesAt.at_ {l : List Issue} (h : IssuesAt w B A cap l) {k : Nat} {e : Issue} (he : l[k]? = some e) : IssueAt w B e := h.each e (List.mem_of_getElem? he)
end keep

/-- the four cells of the k-th element -/
theorem row4 {w : World} {B : Nat} {A : Option Addr} {α : Type} {enc : α → List Value} {l : List α} (h : RowAt w B 4 A (l.map enc)) {k : Nat} {x : α} {c0 c1 c2 c3 : Value} (hx : l[k]? = some x) (he : enc x = [c0, c1, c2, c3]) :
    ∃ b off, A = some ⟨b, off, none⟩ ∧ b < B ∧ w.cell? ⟨b, off + k * 4, none⟩ = some c0 ∧ w.cell? ⟨b, off + k * 4 + 1, none⟩ = some c1 ∧ w.cell? ⟨b, off + k * 4 + 2, none⟩ = some c2 ∧ w.cell? ⟨b, off + k * 4 + 3, none⟩ = some c3 := by
  have hk : k < l.length := (List.getElem?_eq_some_iff.1 hx).1
  obtain ⟨b, off, hA, hb, hc⟩ := h (by rw [List.length_map]; omega)
  have hr : (l.map enc)[k]? = some [c0, c1, c2, c3] := by rw [List.getElem?_map, hx]; simp [he]
  exact ⟨b, off, hA, hb, hc k _ hr 0 c0 (by omega) rfl, hc k _ hr 1 c1 (by omega) rfl, hc k _ hr 2 c2 (by omega) rfl, hc k _ hr 3 c3 (by omega) rfl⟩
theorem IntsAt.at_ {w : World} {B cap : Nat} {A : Option Addr} {l : List Int} (h : IntsAt w B A cap l) {k : Nat} {x : Int} (hx : l[k]? = some x) :
    ∃ b off, A = some ⟨b, off, none⟩ ∧ b < B ∧ w.cell? ⟨b, off + k, none⟩ = some (vi x) := by
  have hk : k < l.length := (List.getElem?_eq_some_iff.1 hx).1
  obtain ⟨b, off, hA, hb, hc⟩ := h.row (by rw [List.length_map]; omega)
  have hr : (l.map fun n => [vi n])[k]? = some [vi x] := by rw [List.getElem?_map, hx]; rfl
  exact ⟨b, off, hA, hb, by simpa using hc k _ hr 0 (vi x) (by omega) rfl⟩

/- the table of limits -/
def limLo (k : Int) : Int := if k = 2 ∨ k = 3 ∨ k = 9 ∨ k = 10 then 0 else 1
def limHi (k : Int) : Int := if k = 0 then 24 else if k = 1 then 4 else if k = 2 then 24 else if k = 3 then 20000 else if k = 4 then 9999 else if k = 5 then 8 else if k = 6 then 99 else if k = 7 then 400 else if k = 8 then 100000 else if k = 9 then 3 else if k = 10 then 20 else 1000
def limB (k n : Int) : Bool := decide (limLo k ≤ n) && decide (n ≤ limHi k)
def limS (k lo hi : Int) : Bool := decide (lo ≤ hi) && (limB k lo && limB k hi)
structure Lim (w : World) : Prop where
  pos : 0 < w.heap.size
  lo : ∀ k : Nat, k < 12 → w.cell? ⟨0, k * 2, none⟩ = some (vi (limLo k))
  hi : ∀ k : Nat, k < 12 → w.cell? ⟨0, k * 2 + 1, none⟩ = some (vi (limHi k))
theorem Lim.below {w w' : World} (h : Lim w) {B : Nat} (hB : 0 < B) (hb : Below B w w') : Lim w' :=
  ⟨by have := hb.size; have := h.pos; omega, fun k hk => (hb.cell (p := ⟨0, k * 2, none⟩) hB).trans (h.lo k hk), fun k hk => (hb.cell (p := ⟨0, k * 2 + 1, none⟩) hB).trans (h.hi k hk)⟩

theorem Lim.next {W w1 : World} (h : Lim W) (hb : Below W.heap.size W w1) : Lim w1 := h.below h.pos hb
theorem Lim.alloc {w : World} (h : Lim w) (o : Obj) : Lim (w.alloc o) := h.below h.pos ((Below.refl _ w).alloc (Nat.le_refl _) o)
theorem Lim.setCell {w : World} (h : Lim w) {p : Addr} (hp : 1 ≤ p.block) (u : Value) : Lim (w.setCell p u) := h.below (by omega) ((Below.refl 1 w).setCell hp u)
theorem Lim.drew {w : World} (h : Lim w) : Lim w.drew := h.below (by omega) (Below.refl 1 w).drew
/- what is valid -/
def fitB (f : Fit) : Bool := limB 6 f.size && (limS 7 f.lo f.hi && limB 8 f.price)
def goodFit (l : List Fit) (k : Nat) : Bool :=
  match l[k]? with
  | some f => fitB f && (match k with | 0 => true | i + 1 => match l[i]? with | some p => decide (p.size < f.size) | none => true)
  | none => true
theorem goodFit0 {l : List Fit} {x : Fit} (h : l[0]? = some x) : goodFit l 0 = fitB x := by simp [goodFit, h]
theorem goodFit1 {l : List Fit} {k : Nat} {x y : Fit} (h : l[k + 1]? = some x) (h' : l[k]? = some y) : goodFit l (k + 1) = (fitB x && decide (y.size < x.size)) := by simp only [goodFit, h, h']
def fitsB (l : List Fit) : Bool := limB 5 l.length && (List.range l.length).all (goodFit l)
theorem all_no {n k : Nat} {p : Nat → Bool} {b : Bool} (hk : k < n) (h : p k = false) : (b && (List.range n).all p) = false := by
  rw [Bool.and_eq_false_iff]
  right
  rw [List.all_eq_false]
  exact ⟨k, List.mem_range.2 hk, by simp [h]⟩
theorem all_yes {n : Nat} {p : Nat → Bool} {b : Bool} (hb : b = true) (h : ∀ k, k < n → p k = true) : (b && (List.range n).all p) = true := by
  rw [Bool.and_eq_true]
  exact ⟨hb, List.all_eq_true.2 fun k hk => h k (List.mem_range.1 hk)⟩
theorem upto_succ {p : Nat → Bool} {k : Nat} (h : ∀ j, j < k → p j = true) (hk : p k = true) : ∀ j, j < k + 1 → p j = true := fun j hj => by
  rcases Nat.lt_succ_iff_lt_or_eq.1 hj with h1 | rfl
  · exact h j h1
  · exact hk
def bit1 (n : Int) : Bool := bits BinOp.and IntKind.i64 n 1 == 1
def hasColour (set k : Int) : Bool := bit1 (set / 2 ^ k.toNat)
theorem hasColour0 (s : Int) : hasColour s 0 = (bits BinOp.and IntKind.i64 s 1 == 1) := by simp [hasColour, bit1]
theorem hasColour1 (s : Int) : hasColour s 1 = (bits BinOp.and IntKind.i64 (s / 2) 1 == 1) := by simp [hasColour, bit1]
theorem hasColour2 (s : Int) : hasColour s 2 = (bits BinOp.and IntKind.i64 (s / 4) 1 == 1) := by simp [hasColour, bit1]
theorem hasColour3 (s : Int) : hasColour s 3 = (bits BinOp.and IntKind.i64 (s / 8) 1 == 1) := by simp [hasColour, bit1]
def setB (s : Int) : Bool := (hasColour s 0 || hasColour s 1 || hasColour s 2 || hasColour s 3) && s / 16 == 0
def goodB (r : Rack) (g : Int) : Bool := decide (0 ≤ g) && decide (g < r.goods)
def issueB (r : Rack) (g : Int) : Bool := decide (0 ≤ g) && decide (g < (r.issues.length : Int))
def entryB (r : Rack) (e : Entry) : Bool := limB 4 e.number && (goodB r e.good && (setB e.colours && fitsB e.sizes))
def meetB (a b c d : Int) : Bool := decide (a ≤ d) && decide (c ≤ b)
def coverB (a b c d : Int) : Bool := decide (a ≤ c) && decide (d ≤ b)
def itemB (r : Rack) (x : Item) : Bool := goodB r x.good && (limB 6 x.size && limB 9 x.colour)
def spinI (n m : Int) : Int := if m < 1 then 0 else n % m
def lotI (a b n : Int) : Int := if b ≤ a then a else a + spinI n (b - a + 1)
theorem after {W w1 : World} (hb : Below W.heap.size W w1) : ((∀ b o, b < W.heap.size → w1.cell? ⟨b, o, none⟩ = W.cell? ⟨b, o, none⟩) ∧ (∀ b o, b < W.heap.size → w1.frozen? ⟨b, o, none⟩ = W.frozen? ⟨b, o, none⟩) ∧ (∀ k, k < W.heap.size → k < w1.heap.size)) ∧ W.heap.size ≤ w1.heap.size :=
  ⟨⟨fun b o h => hb.cell (p := ⟨b, o, none⟩) h, fun b o h => hb.frozen (p := ⟨b, o, none⟩) h, fun k hk => Nat.lt_of_lt_of_le hk hb.size⟩, hb.size⟩
theorem spin_range (n m : Int) (h : 1 ≤ m) : 0 ≤ spinI n m ∧ spinI n m < m := by
  unfold spinI
  rw [if_neg (by omega)]
  exact ⟨Int.emod_nonneg n (by omega), Int.emod_lt_of_pos n (by omega)⟩
theorem spin_neg {n m : Int} (h : 1 ≤ m) (k : n.tmod m < 0) : n.tmod m + m = n % m := by
  rw [Int.tmod_eq_emod] at *
  split at k <;> rename_i h1
  · have := Int.emod_nonneg n (b := m) (by omega); omega
  · rw [if_neg h1]; omega
theorem spin_pos {n m : Int} (h : 1 ≤ m) (k : 0 ≤ n.tmod m) : n.tmod m = n % m := by
  rw [Int.tmod_eq_emod] at *
  split at k <;> rename_i h1
  · rw [if_pos h1]; omega
  · have := Int.emod_lt_of_pos n (b := m) (by omega); omega
theorem ret2 {a b c d : Int} (h : a = c) (k : b = d) : Ending.returned (.agg #[vi a, vi b]) = .returned (.agg #[vi c, vi d]) := by rw [h, k]
theorem retB {a b : Bool} (h : a = b) : Ending.returned (.bool a) = .returned (.bool b) := by rw [h]
theorem retI {a b : Int} (h : a = b) : Ending.returned (vi a) = .returned (vi b) := by rw [h]
abbrev coloursV (set : Int) : Value := .agg #[.bool (hasColour set 0), .bool (hasColour set 1), .bool (hasColour set 2), .bool (hasColour set 3)]
theorem bcell {W w1 : World} (hb : Below W.heap.size W w1) : (∀ b o, b < W.heap.size → w1.cell? ⟨b, o, none⟩ = W.cell? ⟨b, o, none⟩) ∧ (∀ b o, b < W.heap.size → w1.frozen? ⟨b, o, none⟩ = W.frozen? ⟨b, o, none⟩) :=
  ⟨fun b o h => hb.cell (p := ⟨b, o, none⟩) h, fun b o h => hb.frozen (p := ⟨b, o, none⟩) h⟩
end Go.Proofs.YtpcajmkmmkmekaaGreatDoor

/- What the checks of a rack answer: plain mathematics. -/
namespace Go.Proofs.YtpcajmkmmkmekaaGreatDoor
open Go Go.RowKit
def sameB (e o : Entry) : Bool := o.number == e.number || o.good == e.good
def repB (l : List Entry) (e : Entry) : Bool := l.any (sameB e)
def goodEntry (r : Rack) (l : List Entry) (k : Nat) : Bool := match l[k]? with | some e => entryB r e && !repB (l.take k) e | none => true
def headB (x : Issue) : Bool := limS 3 x.lo x.hi && (limS 3 x.lo x.held && limB 2 x.entries.length)
def catB (r : Rack) (x : Issue) : Bool := headB x && (List.range x.entries.length).all (goodEntry r x.entries)
def goodIssue (r : Rack) (k : Nat) : Bool := match r.issues[k]? with | some x => catB r x | none => true
def validB (r : Rack) : Bool := (limB 0 r.goods && limB 1 r.issues.length) && (List.range r.issues.length).all (goodIssue r)
theorem goodEntry_of {r : Rack} {l : List Entry} {k : Nat} {e : Entry} (h : l[k]? = some e) : goodEntry r l k = (entryB r e && !repB (l.take k) e) := by simp [goodEntry, h]
theorem goodIssue_of {r : Rack} {k : Nat} {x : Issue} (h : r.issues[k]? = some x) : goodIssue r k = catB r x := by simp [goodIssue, h]
theorem repB_yes {l : List Entry} {e o : Entry} {k : Nat} (h : l[k]? = some o) (hs : sameB e o = true) : repB l e = true := List.any_eq_true.2 ⟨o, List.mem_of_getElem? h, hs⟩
theorem repB_no {l : List Entry} {e : Entry} (h : ∀ (k : Nat) (o : Entry), l[k]? = some o → sameB e o = false) : repB l e = false := by
  rw [repB, List.any_eq_false]
  intro o ho
  obtain ⟨k, hk⟩ := List.getElem?_of_mem ho
  simp [h k o hk]
end Go.Proofs.YtpcajmkmmkmekaaGreatDoor

/- Lists that a call makes; what Fits and Sure answer: plain mathematics. -/
namespace Go.Proofs.YtpcajmkmmkmekaaGreatDoor
open Go Go.RowKit
theorem own_keep {w w' : World} {base : Nat} {e : TypeId} {sz n : Nat} {v : Value} {xs : List Value} (h : w.ownsRow base e sz v n xs) (hb : Below w.heap.size w w') : w'.ownsRow base e sz v n xs := by
  refine h.kept (row := none) ⟨hb.os, hb.tape, hb.output, hb.size, fun k hk _ => hb.block k hk⟩ ?_
  cases hv : v.ownBlock with
  | none => exact .inl rfl
  | some g => exact .inr (by simp)
/-- a list of numbers that a call hands back -/
def IntsOut (m : List Int) (w : World) (v : Value) (w' : World) : Prop := (∃ A cap, v = .slice A m.length cap ∧ IntsAt w' w'.heap.size A cap m) ∧ Below w.heap.size w w'
theorem ints_of_own {w : World} {base : Nat} {e : TypeId} {m : List Int} {g cap n : Nat} (h : w.ownsRow base e 1 (.slice (some ⟨g, 0, none⟩) n cap) n (m.map vi)) (c : Nat) (hc : m.length ≤ c) (hc' : c ≤ 17592186044416) : IntsAt w w.heap.size (some ⟨g, 0, none⟩) c m := by
  have hl := h.1
  rw [List.length_map, Nat.mul_one] at hl
  refine ⟨hc, hc', fun _ => ⟨g, 0, rfl, (h.lt g rfl).2, fun i r hr j u hj hu => ?_⟩⟩
  rw [List.getElem?_map] at hr
  cases hx : m[i]? with
  | none => rw [hx] at hr; cases hr
  | some x =>
    rw [hx] at hr
    simp only [Option.map_some, Option.some.injEq] at hr
    subst hr
    obtain rfl : j = 0 := by omega
    simp only [List.getElem?_cons_zero, Option.some.injEq] at hu
    subst hu
    have hi : i < m.length := (List.getElem?_eq_some_iff.1 hx).1
    have := h.cellAt i (by omega)
    rw [List.getElem?_map, hx] at this
    simpa using this
def sizesV (p : Fit → Bool) (l : List Fit) : List Int := (l.filter p).map Fit.size
theorem sizesV_succ {p : Fit → Bool} {l : List Fit} {k : Nat} {x : Fit} (h : l[k]? = some x) : sizesV p (l.take (k + 1)) = sizesV p (l.take k) ++ (if p x then [x.size] else []) := by
  obtain ⟨hk, rfl⟩ := List.getElem?_eq_some_iff.1 h
  rw [List.take_succ_eq_append_getElem hk, sizesV, List.filter_append, List.map_append]
  congr 1
  by_cases hp : p l[k] = true
  · simp [hp]
  · simp [hp]
theorem sizesV_le (p : Fit → Bool) (l : List Fit) (k : Nat) : (sizesV p (l.take k)).length ≤ k := by
  rw [sizesV, List.length_map]
  exact Nat.le_trans (List.length_filter_le _ _) (by rw [List.length_take]; omega)
def askB (r : Rack) (issue number a b : Int) : Bool := issueB r issue && (limB 4 number && limS 7 a b)
def lookF (r : Rack) (issue number : Int) : Option Entry := match r.issues[issue.toNat]? with | some x => x.entries.find? fun e => e.number == number | none => none
def lookErr (r : Rack) (issue number a b : Int) : Int := if validB r then if askB r issue number a b then if (lookF r issue number).isSome then 0 else 4 else 11 else 10
def sizesO (p : Fit → Bool) : Option Entry → List Int
  | some e => sizesV p e.sizes
  | none => []
def lookL (p : Fit → Bool) (r : Rack) (issue number a b : Int) : List Int := if validB r && askB r issue number a b then sizesO p (lookF r issue number) else []
theorem IntsOut.nil {w w' : World} (h : Below w.heap.size w w') : IntsOut [] w (.slice none 0 0) w' := ⟨⟨none, 0, rfl, ⟨Nat.le_refl _, by omega, fun hl => absurd hl (by simp)⟩⟩, h⟩
theorem IntsOut.from {m : List Int} {w w1 w' : World} {v : Value} (h : IntsOut m w1 v w') (hb : Below w.heap.size w w1) : IntsOut m w v w' := ⟨h.1, hb.trans (h.2.mono hb.size)⟩
end Go.Proofs.YtpcajmkmmkmekaaGreatDoor

/- Lists of rows that a call makes. -/
namespace Go.Proofs.YtpcajmkmmkmekaaGreatDoor
open Go Go.RowKit
theorem flat_at {sz : Nat} (rows : List (List Value)) : (∀ r ∈ rows, r.length = sz) → ∀ (i : Nat) (r : List Value), rows[i]? = some r → ∀ (j : Nat) (u : Value), j < sz → r[j]? = some u → rows.flatten[i * sz + j]? = some u := by
  induction rows with
  | nil => intro _ i r hr; simp at hr
  | cons a rows ih =>
    intro h i r hr j u hj hu
    have ha := h a (by simp)
    cases i with
    | zero =>
      simp only [List.getElem?_cons_zero, Option.some.injEq] at hr
      subst hr
      rw [List.flatten_cons, List.getElem?_append_left (by omega)]
      simpa using hu
    | succ i =>
      simp only [List.getElem?_cons_succ] at hr
      rw [List.flatten_cons, List.getElem?_append_right (by rw [ha, Nat.add_mul]; omega), ha]
      have := ih (fun r hr => h r (List.mem_cons_of_mem _ hr)) i r hr j u hj hu
      rwa [show (i + 1) * sz + j - sz = i * sz + j by rw [Nat.add_mul]; omega]
theorem flat_len {sz : Nat} (rows : List (List Value)) (h : ∀ r ∈ rows, r.length = sz) : rows.flatten.length = rows.length * sz := by
  induction rows with
  | nil => simp
  | cons a rows ih =>
    rw [List.flatten_cons, List.length_append, ih (fun r hr => h r (List.mem_cons_of_mem _ hr)), h a (by simp), List.length_cons, Nat.add_mul]
    omega
/-- a list of rows that a call hands back -/
def RowsOut (sz : Nat) (m : List (List Value)) (w : World) (v : Value) (w' : World) : Prop := (∃ A cap, v = .slice A m.length cap ∧ m.length ≤ cap ∧ cap ≤ 17592186044416 ∧ RowAt w' w'.heap.size sz A m ∧ (0 < m.length → ∃ g off, A = some ⟨g, off, none⟩ ∧ w.heap.size ≤ g)) ∧ Below w.heap.size w w'
theorem row_of_own {w : World} {base : Nat} {e : TypeId} {sz : Nat} {m : List (List Value)} {g cap n : Nat} (hsz : ∀ r ∈ m, r.length = sz) (h : w.ownsRow base e sz (.slice (some ⟨g, 0, none⟩) n cap) n m.flatten) : RowAt w w.heap.size sz (some ⟨g, 0, none⟩) m := by
  refine fun _ => ⟨g, 0, rfl, (h.lt g rfl).2, fun i r hr j u hj hu => ?_⟩
  have hf := flat_at m hsz i r hr j u hj hu
  have hi := (List.getElem?_eq_some_iff.1 hf).1
  have h1 := h.1
  have := h.cellAt (i * sz + j) (by omega)
  rw [hf] at this
  simpa using this
theorem RowsOut.nil {sz : Nat} {w w' : World} (h : Below w.heap.size w w') : RowsOut sz [] w (.slice none 0 0) w' := ⟨⟨none, 0, rfl, Nat.le_refl _, by omega, fun hl => absurd hl (by simp), fun hl => absurd hl (by simp)⟩, h⟩
theorem RowsOut.from {sz : Nat} {m : List (List Value)} {w w1 w' : World} {v : Value} (h : RowsOut sz m w1 v w') (hb : Below w.heap.size w w1) : RowsOut sz m w v w' := by
  obtain ⟨⟨A, c, e, h1, h2, h3, h5⟩, h4⟩ := h
  exact ⟨⟨A, c, e, h1, h2, h3, fun hl => let ⟨g, o, e, hg⟩ := h5 hl; ⟨g, o, e, Nat.le_trans hb.size hg⟩⟩, hb.trans (h4.mono hb.size)⟩
theorem RowsOut.on {sz : Nat} {m : List (List Value)} {w w1 w' : World} {v : Value} (h : RowsOut sz m w v w1) (hb : Below w1.heap.size w1 w') : RowsOut sz m w v w' := by
  obtain ⟨⟨A, c, rfl, h1, h2, h3, h5⟩, h4⟩ := h
  exact ⟨⟨A, c, rfl, h1, h2, (h3.keep fun p hp => hb.cell hp).more hb.size, h5⟩, h4.trans (hb.mono h4.size)⟩
theorem own_base {w : World} {base base' : Nat} {e : TypeId} {sz n : Nat} {v : Value} {xs : List Value} (h : w.ownsRow base e sz v n xs) (hb : base' ≤ base) : w.ownsRow base' e sz v n xs := by
  obtain ⟨h1, h2⟩ := h
  refine ⟨h1, h2.imp id ?_⟩
  rintro ⟨g, c, cur, e1, e2, e3⟩
  exact ⟨g, c, cur, e1, by omega, e3⟩
end Go.Proofs.YtpcajmkmmkmekaaGreatDoor

