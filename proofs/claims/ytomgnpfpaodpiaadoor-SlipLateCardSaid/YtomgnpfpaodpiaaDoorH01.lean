/- Lists in memory, and what lies below: for seats of other packages than book. -/
import Derived.WalkKit
import Derived.Lib.Hide
import Derived.Test.YtomgnpfpaodpiaaDoorChecked
import Derived.Deep.Slices
import Derived.Lib.SmallJoins
import Derived.SizedLaws
import Derived.ChangeArms
set_option linter.unusedVariables false
set_option linter.unusedSimpArgs false
namespace Go.Proofs.YtomgnpfpaodpiaaDoor
open Go Go.RowKit
/-- the n-th cell of a row of structs -/
def RowAt (w : World) (B sz : Nat) (A : Option Addr) (rows : List (List Value)) : Prop :=
  0 < rows.length → ∃ b off, A = some ⟨b, off, none⟩ ∧ b < B ∧ ∀ i r, rows[i]? = some r → ∀ j u, j < sz → r[j]? = some u → w.cell? ⟨b, off + i * sz + j, none⟩ = some u

abbrev vi (n : Int) : Value := .int .i64 n
/-- what is known of a list in memory: its capacity may be anything -/
structure RowsAt (w : World) (B sz : Nat) (A : Option Addr) (cap : Nat) (m : List (List Value)) : Prop where
  len : m.length ≤ cap
  cap : cap ≤ 9223372036854775807
  few : m.length ≤ 35184372088832
  row : RowAt w B sz A m
abbrev intC (n : Int) : List Value := [vi n]
abbrev IntsAt (w : World) (B : Nat) (A : Option Addr) (cap : Nat) (l : List Int) : Prop := RowsAt w B 1 A cap (l.map intC)

section keep
variable {w w' : World} {B B' sz cap : Nat} {A : Option Addr}
theorem RowAt.keep {rows : List (List Value)} (h : RowAt w B sz A rows) (hk : ∀ p : Addr, p.block < B → w'.cell? p = w.cell? p) : RowAt w' B sz A rows := fun hl => by
  obtain ⟨b, off, hA, hb, hc⟩ := h hl
  exact ⟨b, off, hA, hb, fun i r hr j u hj hu => (hk _ hb).trans (hc i r hr j u hj hu)⟩
theorem RowAt.more {rows : List (List Value)} (h : RowAt w B sz A rows) (hB : B ≤ B') : RowAt w B' sz A rows := fun hl => by
  obtain ⟨b, off, hA, hb, hc⟩ := h hl
  exact ⟨b, off, hA, by omega, hc⟩
theorem RowAt.take {rows : List (List Value)} (h : RowAt w B sz A rows) (k : Nat) : RowAt w B sz A (rows.take k) := fun hl => by
  rw [List.length_take] at hl
  obtain ⟨b, off, hA, hb, hc⟩ := h (by omega)
  refine ⟨b, off, hA, hb, fun i r hr j u hj hu => hc i r ?_ j u hj hu⟩
  rw [List.getElem?_take] at hr
  split at hr <;> simp_all
theorem RowsAt.keep {m : List (List Value)} (h : RowsAt w B sz A cap m) (hk : ∀ p : Addr, p.block < B → w'.cell? p = w.cell? p) : RowsAt w' B sz A cap m := ⟨h.len, h.cap, h.few, h.row.keep hk⟩
theorem RowsAt.more {m : List (List Value)} (h : RowsAt w B sz A cap m) (hB : B ≤ B') : RowsAt w B' sz A cap m := ⟨h.len, h.cap, h.few, h.row.more hB⟩
theorem RowsAt.below {m : List (List Value)} (h : RowsAt w B sz A cap m) (hb : Below B w w') : RowsAt w' B sz A cap m := h.keep fun _ hp => hb.cell hp
theorem RowsAt.to {m : List (List Value)} (h : RowsAt w w.heap.size sz A cap m) (hb : Below w.heap.size w w') : RowsAt w' w'.heap.size sz A cap m := (h.below hb).more hb.size
theorem RowsAt.lens {α : Type} {enc : α → List Value} {l : List α} (h : RowsAt w B sz A cap (l.map enc)) : l.length ≤ cap ∧ l.length ≤ 35184372088832 := by
  have h1 := h.len
  have h2 := h.few
  rw [List.length_map] at h1 h2
  exact ⟨h1, h2⟩
end keep
/-- the four cells of the k-th element -/
theorem row4 {w : World} {B : Nat} {A : Option Addr} {α : Type} {enc : α → List Value} {l : List α} (h : RowAt w B 4 A (l.map enc)) {k : Nat} {x : α} {c0 c1 c2 c3 : Value} (hx : l[k]? = some x) (he : enc x = [c0, c1, c2, c3]) :
    ∃ b off, A = some ⟨b, off, none⟩ ∧ b < B ∧ w.cell? ⟨b, off + k * 4, none⟩ = some c0 ∧ w.cell? ⟨b, off + k * 4 + 1, none⟩ = some c1 ∧ w.cell? ⟨b, off + k * 4 + 2, none⟩ = some c2 ∧ w.cell? ⟨b, off + k * 4 + 3, none⟩ = some c3 := by
  have hk : k < l.length := (List.getElem?_eq_some_iff.1 hx).1
  obtain ⟨b, off, hA, hb, hc⟩ := h (by rw [List.length_map]; omega)
  have hr : (l.map enc)[k]? = some [c0, c1, c2, c3] := by rw [List.getElem?_map, hx]; simp [he]
  exact ⟨b, off, hA, hb, hc k _ hr 0 c0 (by omega) rfl, hc k _ hr 1 c1 (by omega) rfl, hc k _ hr 2 c2 (by omega) rfl, hc k _ hr 3 c3 (by omega) rfl⟩
/-- the cells of the k-th element of a row of two -/
theorem row2 {w : World} {B : Nat} {A : Option Addr} {α : Type} {enc : α → List Value} {l : List α} (h : RowAt w B 2 A (l.map enc)) {k : Nat} {x : α} {c0 c1 : Value} (hx : l[k]? = some x) (he : enc x = [c0, c1]) :
    ∃ b off, A = some ⟨b, off, none⟩ ∧ b < B ∧ w.cell? ⟨b, off + k * 2, none⟩ = some c0 ∧ w.cell? ⟨b, off + k * 2 + 1, none⟩ = some c1 := by
  have hk : k < l.length := (List.getElem?_eq_some_iff.1 hx).1
  obtain ⟨b, off, hA, hb, hc⟩ := h (by rw [List.length_map]; omega)
  have hr : (l.map enc)[k]? = some [c0, c1] := by rw [List.getElem?_map, hx]; simp [he]
  exact ⟨b, off, hA, hb, hc k _ hr 0 c0 (by omega) rfl, hc k _ hr 1 c1 (by omega) rfl⟩
theorem ints_at {w : World} {B cap : Nat} {A : Option Addr} {l : List Int} (h : IntsAt w B A cap l) {k : Nat} {x : Int} (hx : l[k]? = some x) :
    ∃ b off, A = some ⟨b, off, none⟩ ∧ b < B ∧ w.cell? ⟨b, off + k, none⟩ = some (vi x) := by
  have hk : k < l.length := (List.getElem?_eq_some_iff.1 hx).1
  obtain ⟨b, off, hA, hb, hc⟩ := h.row (by rw [List.length_map]; omega)
  have hr : (l.map intC)[k]? = some [vi x] := by rw [List.getElem?_map, hx]; rfl
  exact ⟨b, off, hA, hb, by simpa using hc k _ hr 0 (vi x) (by omega) rfl⟩
def spinI (n m : Int) : Int := if m < 1 then 0 else n % m
def lotI (a b n : Int) : Int := if b ≤ a then a else a + spinI n (b - a + 1)
theorem all_no {n k : Nat} {p : Nat → Bool} {b : Bool} (hk : k < n) (h : p k = false) : (b && (List.range n).all p) = false := by
  rw [Bool.and_eq_false_iff]
  right
  rw [List.all_eq_false]
  exact ⟨k, List.mem_range.2 hk, by simp [h]⟩
theorem all_yes {n : Nat} {p : Nat → Bool} {b : Bool} (hb : b = true) (h : ∀ k, k < n → p k = true) : (b && (List.range n).all p) = true := by
  rw [Bool.and_eq_true]
  exact ⟨hb, List.all_eq_true.2 fun k hk => h k (List.mem_range.1 hk)⟩
theorem upto_succ {p : Nat → Bool} {k : Nat} (h : ∀ j, j < k → p j = true) (hk : p k = true) : ∀ j, j < k + 1 → p j = true := fun j hj => by
  rcases Nat.lt_succ_iff_lt_or_eq.1 hj with h1 | rfl
  · exact h j h1
  · exact hk

theorem after {W w1 : World} (hb : Below W.heap.size W w1) : ((∀ b o, b < W.heap.size → w1.cell? ⟨b, o, none⟩ = W.cell? ⟨b, o, none⟩) ∧ (∀ b o, b < W.heap.size → w1.frozen? ⟨b, o, none⟩ = W.frozen? ⟨b, o, none⟩) ∧ (∀ k, k < W.heap.size → k < w1.heap.size)) ∧ W.heap.size ≤ w1.heap.size :=
  ⟨⟨fun b o h => hb.cell (p := ⟨b, o, none⟩) h, fun b o h => hb.frozen (p := ⟨b, o, none⟩) h, fun k hk => Nat.lt_of_lt_of_le hk hb.size⟩, hb.size⟩
theorem spin_range (n m : Int) (h : 1 ≤ m) : 0 ≤ spinI n m ∧ spinI n m < m := by
  unfold spinI
  rw [if_neg (by omega)]
  exact ⟨Int.emod_nonneg n (by omega), Int.emod_lt_of_pos n (by omega)⟩
theorem spin_neg {n m : Int} (h : 1 ≤ m) (k : n.tmod m < 0) : n.tmod m + m = n % m := by
  rw [Int.tmod_eq_emod] at *
  split at k <;> rename_i h1
  · have := Int.emod_nonneg n (b := m) (by omega); omega
  · rw [if_neg h1]; omega
theorem spin_pos {n m : Int} (h : 1 ≤ m) (k : 0 ≤ n.tmod m) : n.tmod m = n % m := by
  rw [Int.tmod_eq_emod] at *
  split at k <;> rename_i h1
  · rw [if_pos h1]; omega
  · have := Int.emod_lt_of_pos n (b := m) (by omega); omega
theorem ret2 {a b c d : Int} (h : a = c) (k : b = d) : Ending.returned (.agg #[vi a, vi b]) = .returned (.agg #[vi c, vi d]) := by rw [h, k]
theorem retB {a b : Bool} (h : a = b) : Ending.returned (.bool a) = .returned (.bool b) := by rw [h]
theorem retI {a b : Int} (h : a = b) : Ending.returned (vi a) = .returned (vi b) := by rw [h]
theorem bcell {W w1 : World} (hb : Below W.heap.size W w1) : (∀ b o, b < W.heap.size → w1.cell? ⟨b, o, none⟩ = W.cell? ⟨b, o, none⟩) ∧ (∀ b o, b < W.heap.size → w1.frozen? ⟨b, o, none⟩ = W.frozen? ⟨b, o, none⟩) :=
  ⟨fun b o h => hb.cell (p := ⟨b, o, none⟩) h, fun b o h => hb.frozen (p := ⟨b, o, none⟩) h⟩
end Go.Proofs.YtomgnpfpaodpiaaDoor

/- How the arguments of the laws read: rows. -/
namespace Go.Proofs.YtomgnpfpaodpiaaDoor
open Go Go.RowKit Go.Deep Go.ChangeShapes Go.WideShapes
set_option maxHeartbeats 1000000
theorem weightsAll_mem {H : Type} {P : Program} {e : TypeId} {l : List (DataW H)} {d : DataW H} (h : d ∈ l) : ∀ n ∈ d.weights P e, n ∈ DataW.weightsAll P e l := by
  induction l with
  | nil => cases h
  | cons x r ih =>
    intro n hn
    simp only [DataW.weightsAll, List.mem_append]
    rcases List.mem_cons.1 h with rfl | h1
    · exact .inl hn
    · exact .inr (ih h1 n hn)
abbrev Fair {H : Type} (P : Program) (t : TypeId) (d : DataW H) : Prop := ∀ n ∈ d.weights P t, n ≤ reachBytes
theorem cell_none {w : World} {a : Addr} {v : Value} (h : w.cell? a = some v) : a.spot = none ∧ a.block < w.heap.size := by
  unfold World.cell? at h
  split at h
  · rename_i ho
    refine ⟨?_, (Array.getElem?_eq_some_iff.1 ho).1⟩
    split at h
    · cases h
    · rename_i hs; simpa using hs
  · cases h
section
variable {H : Type} {enc : TypeId × Value → H} {P : Program} {w : World}
theorem open_rows {α : Type} [Inhabited α] {t e : TypeId} (code : α → List Value) (Q : α → Prop) {sz : Nat} (ht : P.underlying t = some (.slice e)) (hsz : P.cellsOf e = sz) (h0 : 0 < sz)
    (dec : ∀ (n : Nat) (cs : List Value) (y : DataW H × List MemPlace), DataW.trod enc P w 0 (fun _ => true) true n e cs = some y → Fair P e y.1 → ∃ x : α, cs = code x ∧ Q x)
    {fuel : Nat} {cs : List Value} {x : DataW H × List MemPlace} (h : DataW.trod enc P w 0 (fun _ => true) true fuel t cs = some x) (hw : Fair P t x.1) :
    ∃ (A : Option Addr) (cap : Nat) (l : List α), cs = [.slice A l.length cap] ∧ l.length ≤ cap ∧ cap * P.bytesOf e ≤ reachBytes ∧ cap ≤ maxLen ∧ RowAt w w.heap.size sz A (l.map code) ∧ ∀ x ∈ l, Q x := by
  rcases open_slice ht h with ⟨rfl, rfl⟩ | ⟨a, len, cap, m, n, D, Pl, rfl, _, hl, hm, hmm, rfl, hx⟩
  · exact ⟨none, 0, [], rfl, by simp, by simp, by simp, fun hl => absurd hl (by simp), fun x hx => by cases hx⟩
  · simp only [if_true] at hmm
    subst hmm
    have hwt : (len + (m - len)) * P.bytesOf e ≤ reachBytes := by
      refine hw _ ?_
      simp [DataW.weights, ht]
    have hfair : ∀ i, i < len → Fair P e (D i) := by
      intro i hi k hk
      refine hw k ?_
      simp only [DataW.weights, ht, List.mem_cons, List.mem_append]
      exact .inr (.inl (weightsAll_mem (List.mem_map.2 ⟨i, List.mem_range.2 hi, rfl⟩) k hk))
    obtain ⟨f, hf⟩ := choose_lt (n := len) (p := fun i (x : α) => w.cells? 0 (a.add (i * P.cellsOf e)) (P.cellsOf e) = some (code x) ∧ Q x) (fun i hi => by
      obtain ⟨cs', h1, h2⟩ := hx i (by omega)
      obtain ⟨x, rfl, hq⟩ := dec n cs' _ h2 (hfair i hi)
      exact ⟨x, h1, hq⟩)
    refine ⟨some a, m, (List.range len).map f, by simp, by simpa using hl, by rwa [show len + (m - len) = m by omega] at hwt, hm, ?_, ?_⟩
    · intro hpos
      rw [List.length_map, List.length_map, List.length_range] at hpos
      obtain ⟨_, hcl, hc0⟩ := World.cells?_some (hf 0 hpos).1
      have hz := hc0 0 (by omega)
      rw [Nat.zero_mul] at hz
      have hz' : w.cell? a = (code (f 0))[0]? := by simpa [Addr.add] using hz
      rw [List.getElem?_eq_getElem (by omega)] at hz'
      obtain ⟨hs, hb⟩ := cell_none hz'
      obtain ⟨b, off, spot⟩ := a
      simp only at hs hb
      subst hs
      refine ⟨b, off, rfl, hb, fun i r hr j u hj hu => ?_⟩
      rw [List.getElem?_map, List.getElem?_map] at hr
      by_cases hi : i < len
      · simp only [List.getElem?_range hi, Option.map_some, Option.some.injEq] at hr
        subst hr
        obtain ⟨_, _, hcj⟩ := World.cells?_some (hf i hi).1
        have := hcj j (by omega)
        rw [add_add, hu, hsz] at this
        rw [← this]
        congr 1
        unfold Addr.add
        split
        · simp_all
        · simp [Nat.add_assoc]
      · rw [List.getElem?_eq_none (by simpa using hi)] at hr
        cases hr
    · intro x hx
      obtain ⟨i, hi, rfl⟩ := List.mem_map.1 hx
      exact (hf i (List.mem_range.1 hi)).2
end
end Go.Proofs.YtomgnpfpaodpiaaDoor

/- The data of floors as plain lists, how they lie in memory, and what is valid: plain mathematics. -/
namespace Go.Proofs.YtomgnpfpaodpiaaDoor
open Go Go.RowKit
structure SLine where
  shelf : Int
  many : Int
structure SSlip where
  ad : Option Addr
  cap : Nat
  lines : List SLine
  till : Int
structure Floor where
  fA : Option Addr
  fC : Nat
  far : List Int
  slo : Int
  shi : Int
  pA : Option Addr
  pC : Nat
  picks : List (Int × Int)
  carry : Int
  sA : Option Addr
  sC : Nat
  slips : List SSlip
def SLine.cells (l : SLine) : List Value := [vi l.shelf, vi l.many]
abbrev SLine.val (l : SLine) : Value := .agg #[vi l.shelf, vi l.many]
abbrev SSlip.slice (s : SSlip) : Value := .slice s.ad s.lines.length s.cap
def SSlip.cells (s : SSlip) : List Value := [s.slice, vi s.till]
abbrev SSlip.val (s : SSlip) : Value := .agg #[s.slice, vi s.till]
def spanC (p : Int × Int) : List Value := [vi p.1, vi p.2]
abbrev spanV (p : Int × Int) : Value := .agg #[vi p.1, vi p.2]
abbrev Floor.val (f : Floor) : Value := .agg #[.slice f.fA f.far.length f.fC, vi f.slo, vi f.shi, .slice f.pA f.picks.length f.pC, vi f.carry, .slice f.sA f.slips.length f.sC]
abbrev SLinesAt (w : World) (B : Nat) (A : Option Addr) (cap : Nat) (l : List SLine) : Prop := RowsAt w B 2 A cap (l.map SLine.cells)
structure FloorAt (w : World) (B : Nat) (f : Floor) : Prop where
  far : IntsAt w B f.fA f.fC f.far
  picks : RowsAt w B 2 f.pA f.pC (f.picks.map spanC)
  slips : RowsAt w B 2 f.sA f.sC (f.slips.map SSlip.cells)
  each : ∀ s ∈ f.slips, SLinesAt w B s.ad s.cap s.lines
theorem FloorAt.to {w w' : World} {f : Floor} (h : FloorAt w w.heap.size f) (hb : Below w.heap.size w w') : FloorAt w' w'.heap.size f := ⟨h.far.to hb, h.picks.to hb, h.slips.to hb, fun s hs => (h.each s hs).to hb⟩
theorem FloorAt.below {w w' : World} {B : Nat} {f : Floor} (h : FloorAt w B f) (hb : Below B w w') : FloorAt w' B f := ⟨h.far.below hb, h.picks.below hb, h.slips.below hb, fun s hs => (h.each s hs).below hb⟩
/- the table of limits -/
def limLo (k : Int) : Int := if k = 1 ∨ k = 3 ∨ k = 5 ∨ k = 6 then 0 else 1
def limHi (k : Int) : Int := if k = 0 then 12 else if k = 1 then 500 else if k = 2 then 10 else if k = 3 then 300 else if k = 4 then 20 else if k = 5 then 9 else if k = 6 then 100000 else if k = 7 then 12 else if k = 8 then 20 else 5
structure Lim (w : World) : Prop where
  pos : 0 < w.heap.size
  lo : ∀ k : Nat, k < 10 → w.cell? ⟨0, k * 2, none⟩ = some (vi (limLo k))
  hi : ∀ k : Nat, k < 10 → w.cell? ⟨0, k * 2 + 1, none⟩ = some (vi (limHi k))
theorem Lim.below {w w' : World} (h : Lim w) {B : Nat} (hB : 0 < B) (hb : Below B w w') : Lim w' :=
  ⟨by have := hb.size; have := h.pos; omega, fun k hk => (hb.cell (p := ⟨0, k * 2, none⟩) hB).trans (h.lo k hk), fun k hk => (hb.cell (p := ⟨0, k * 2 + 1, none⟩) hB).trans (h.hi k hk)⟩
theorem Lim.next {W w1 : World} (h : Lim W) (hb : Below W.heap.size W w1) : Lim w1 := h.below h.pos hb
theorem Lim.alloc {w : World} (h : Lim w) (o : Obj) : Lim (w.alloc o) := h.below h.pos ((Below.refl _ w).alloc (Nat.le_refl _) o)
theorem Lim.setCell {w : World} (h : Lim w) {p : Addr} (hp : 1 ≤ p.block) (u : Value) : Lim (w.setCell p u) := h.below (by omega) ((Below.refl 1 w).setCell hp u)
theorem Lim.drew {w : World} (h : Lim w) : Lim w.drew := h.below (by omega) (Below.refl 1 w).drew
/- what is valid -/
def hasB (lo hi n : Int) : Bool := decide (lo ≤ n) && decide (n ≤ hi)
def withinB (lo hi a b : Int) : Bool := decide (a ≤ b) && (hasB lo hi a && hasB lo hi b)
/-- the line k is right: a shelf of n ones behind that of the line before it, and pieces of it -/
def goodLine (n : Int) (l : List SLine) (k : Nat) : Bool :=
  match l[k]? with
  | some x => (decide ((match k with | 0 => (0 : Int) | i + 1 => (match l[i]? with | some p => p.shelf + 1 | none => 0)) ≤ x.shelf) && decide (x.shelf < n)) && hasB 1 20 x.many
  | none => true
def linesB (n : Int) (l : List SLine) : Bool := hasB 1 12 l.length && (List.range l.length).all (goodLine n l)
def goodShelf (f : Floor) (k : Nat) : Bool :=
  match f.far[k]? with
  | some x => (hasB 0 500 x && (match k with | 0 => true | i + 1 => (match f.far[i]? with | some p => decide (p ≤ x) | none => true))) && (match f.picks[k]? with | some q => withinB 0 300 q.1 q.2 | none => true)
  | none => true
def shelvesB (f : Floor) : Bool := (hasB 1 12 f.far.length && decide ((f.picks.length : Int) = f.far.length)) && (List.range f.far.length).all (goodShelf f)
def goodSlip (f : Floor) (k : Nat) : Bool := match f.slips[k]? with | some s => hasB 0 100000 s.till && linesB f.far.length s.lines | none => true
def validB (f : Floor) : Bool := (((shelvesB f && withinB 1 10 f.slo f.shi) && hasB 1 20 f.carry) && hasB 0 9 f.slips.length) && (List.range f.slips.length).all (goodSlip f)
def slipB (f : Floor) (n : Int) : Bool := decide (0 ≤ n) && decide (n < (f.slips.length : Int))
/-- how many pieces of each of the twelve shelves there are -/
def piecesF (l : List SLine) : List Int := l.foldl (fun p x => p.set x.shelf.toNat (p[x.shelf.toNat]?.getD 0 + x.many)) (List.replicate 12 0)
abbrev piecesV (p : List Int) : Value := .agg (p.map vi).toArray
/-- the lines of some pieces, from a shelf on -/
def linesFrom : Nat → List Int → List SLine
  | _, [] => []
  | k, n :: r => if 0 < n then ⟨k, n⟩ :: linesFrom (k + 1) r else linesFrom (k + 1) r
def linesOf (p : List Int) : List SLine := linesFrom 0 p
/-- the last shelf of which there are pieces -/
def lastF (p : List Int) : Option Nat := (List.range p.length).foldl (fun acc k => if 0 < p[k]?.getD 0 then some k else acc) none
def withoutF (p q : List Int) : List Int := (p.zip q).map fun x => x.1 - x.2
/-- what is carried on the next tour, and what is left -/
def moveF (x : List Int × List Int) : List Int × List Int := match lastF x.1 with | some k => (x.1.set k (x.1[k]?.getD 0 - 1), x.2.set k (x.2[k]?.getD 0 + 1)) | none => x
def farthestF (carry : Nat) (left : List Int) : List Int := (carry.rec (motive := fun _ => List Int × List Int) (left, List.replicate 12 0) fun _ x => moveF x).2
def loadsF (carry : Nat) : Nat → List Int → List (List Int)
  | 0, _ => []
  | n + 1, left => if left.all (· == 0) then [] else farthestF carry left :: loadsF carry n (withoutF left (farthestF carry left))
end Go.Proofs.YtomgnpfpaodpiaaDoor

/- Pieces of shelves: what is carried, and what is left. Plain mathematics. -/
namespace Go.Proofs.YtomgnpfpaodpiaaDoor
open Go Go.RowKit
/-- a number of pieces of each of twelve shelves, none of them below 0, and how many at most -/
structure Twelve (m : Int) (p : List Int) : Prop where
  len : p.length = 12
  pos : ∀ n ∈ p, 0 ≤ n
  top : ∀ n ∈ p, n ≤ m
theorem Twelve.at_ {m : Int} {p : List Int} (h : Twelve m p) {k : Nat} (hk : k < 12) : ∃ n, p[k]? = some n ∧ 0 ≤ n ∧ n ≤ m := by
  have : k < p.length := by rw [h.len]; exact hk
  exact ⟨p[k], List.getElem?_eq_getElem this, h.pos _ (List.getElem_mem _), h.top _ (List.getElem_mem _)⟩
theorem twelve_zero : Twelve 0 (List.replicate 12 0) := ⟨by simp, fun n h => by rw [List.mem_replicate] at h; omega, fun n h => by rw [List.mem_replicate] at h; omega⟩
theorem Twelve.set {m : Int} {p : List Int} (h : Twelve m p) {n : Int} (h0 : 0 ≤ n) (h1 : n ≤ m) (k : Nat) : Twelve m (p.set k n) :=
  ⟨by rw [List.length_set]; exact h.len, fun x hx => by
    rcases List.mem_or_eq_of_mem_set hx with hx | rfl
    · exact h.pos x hx
    · exact h0, fun x hx => by
    rcases List.mem_or_eq_of_mem_set hx with hx | rfl
    · exact h.top x hx
    · exact h1⟩
theorem Twelve.wide {m m' : Int} {p : List Int} (h : Twelve m p) (hm : m ≤ m') : Twelve m' p := ⟨h.len, h.pos, fun n hn => Int.le_trans (h.top n hn) hm⟩
theorem lastF_is (p : List Int) : match lastF p with
    | none => ∀ (k : Nat) (n : Int), p[k]? = some n → n ≤ 0
    | some k => (∃ n, p[k]? = some n ∧ 0 < n) ∧ ∀ (j : Nat) (n : Int), k < j → p[j]? = some n → n ≤ 0 := by
  have key : ∀ m, m ≤ p.length → match (List.range m).foldl (fun acc k => if 0 < p[k]?.getD 0 then some k else acc) none with
      | none => ∀ (k : Nat) (n : Int), k < m → p[k]? = some n → n ≤ 0
      | some k => k < m ∧ (∃ n, p[k]? = some n ∧ 0 < n) ∧ ∀ (j : Nat) (n : Int), k < j → j < m → p[j]? = some n → n ≤ 0 := by
    intro m
    induction m with
    | zero => intro _; simp
    | succ m ih =>
      intro hm
      have ih := ih (by omega)
      rw [List.range_succ, List.foldl_append]
      simp only [List.foldl_cons, List.foldl_nil]
      have hg : p[m]? = some p[m] := List.getElem?_eq_getElem (by omega)
      rw [hg]
      simp only [Option.getD_some]
      by_cases hp : 0 < p[m]
      · rw [if_pos hp]
        refine ⟨by omega, ⟨p[m], hg, hp⟩, fun j n h1 h2 _ => by omega⟩
      · rw [if_neg hp]
        generalize (List.range m).foldl (fun acc k => if 0 < p[k]?.getD 0 then some k else acc) none = acc at ih ⊢
        cases acc with
        | none =>
          intro k n hk hn
          by_cases hkm : k = m
          · subst hkm; rw [hg] at hn; cases hn; omega
          · exact ih k n (by omega) hn
        | some k =>
          obtain ⟨i1, i2, i3⟩ := ih
          refine ⟨by omega, i2, fun j n h1 h2 hn => ?_⟩
          by_cases hjm : j = m
          · subst hjm; rw [hg] at hn; cases hn; omega
          · exact i3 j n h1 (by omega) hn
  have := key p.length (Nat.le_refl _)
  change match lastF p with | none => _ | some k => _ at this
  cases h : lastF p with
  | none =>
    rw [h] at this
    intro k n hn
    exact this k n (List.getElem?_eq_some_iff.1 hn).1 hn
  | some k =>
    rw [h] at this
    exact ⟨this.2.1, fun j n h1 hn => this.2.2 j n h1 (List.getElem?_eq_some_iff.1 hn).1 hn⟩
/-- the first k of the twelve shelves, for a loop over them -/
def lastK (p : List Int) (k : Nat) : Option Nat := (List.range k).foldl (fun acc k => if 0 < p[k]?.getD 0 then some k else acc) none
theorem lastK_succ (p : List Int) (k : Nat) : lastK p (k + 1) = if 0 < p[k]?.getD 0 then some k else lastK p k := by
  unfold lastK
  rw [List.range_succ, List.foldl_append]
  rfl
theorem lastK_all {p : List Int} (h : p.length = 12) : lastK p 12 = lastF p := by unfold lastK lastF; rw [h]
/- moving the farthest pieces -/
def movesF (k : Nat) (left : List Int) : List Int × List Int := k.rec (motive := fun _ => List Int × List Int) (left, List.replicate 12 0) fun _ x => moveF x
theorem movesF_succ (k : Nat) (left : List Int) : movesF (k + 1) left = moveF (movesF k left) := rfl
theorem farthest_is (c : Nat) (left : List Int) : farthestF c left = (movesF c left).2 := rfl
theorem moves_stop {left : List Int} {k : Nat} (h : lastF (movesF k left).1 = none) : ∀ d, movesF (k + d) left = movesF k left
  | 0 => rfl
  | d + 1 => by
    rw [← Nat.add_assoc, movesF_succ, moves_stop h d]
    unfold moveF
    rw [h]
theorem moves_ok {left : List Int} {m : Int} (h : Twelve m left) : ∀ k, Twelve m (movesF k left).1 ∧ Twelve k (movesF k left).2 ∧ ∀ (j : Nat) (a b c : Int), left[j]? = some a → (movesF k left).1[j]? = some b → (movesF k left).2[j]? = some c → b + c = a
  | 0 => ⟨h, twelve_zero, fun j a b c h1 h2 h3 => by
    have e1 : (movesF 0 left).1 = left := rfl
    have e2 : (movesF 0 left).2 = List.replicate 12 0 := rfl
    rw [e1, h1] at h2
    rw [e2, List.getElem?_replicate] at h3
    split at h3
    · cases h2; cases h3; omega
    · cases h3⟩
  | k + 1 => by
    obtain ⟨i1, i2, i3⟩ := moves_ok h k
    rw [movesF_succ]
    unfold moveF
    have hl := lastF_is (movesF k left).1
    cases hf : lastF (movesF k left).1 with
    | none =>
      simp only
      exact ⟨i1, i2.wide (by omega), i3⟩
    | some s =>
      rw [hf] at hl
      obtain ⟨⟨n, hn, hp⟩, _⟩ := hl
      have hs : s < 12 := by have := (List.getElem?_eq_some_iff.1 hn).1; rw [i1.len] at this; exact this
      obtain ⟨c, hc, c0, c1⟩ := i2.at_ hs
      have hnm := i1.top n (List.mem_of_getElem? hn)
      simp only [hn, hc, Option.getD_some]
      refine ⟨i1.set (by omega) (by omega) s, (i2.wide (m' := ((k + 1 : Nat) : Int)) (by omega)).set (by omega) (by omega) s, fun j a b c' h1 h2 h3 => ?_⟩
      by_cases hj : j = s
      · subst hj
        rw [List.getElem?_set_self (by rw [i1.len]; exact hs)] at h2
        rw [List.getElem?_set_self (by rw [i2.len]; exact hs)] at h3
        cases h2; cases h3
        have := i3 j a n c h1 hn hc
        omega
      · rw [List.getElem?_set_ne (by omega)] at h2 h3
        exact i3 j a b c' h1 h2 h3
end Go.Proofs.YtomgnpfpaodpiaaDoor

