/- Rules by which a run of that machine is computed; What the functions of package parcel answer, for any book, and why the law's comparison holds; how a book of a world reads. Conditions: none. -/
import Derived.Test.YtcmkngajdckndaaGreatDoorZ06
import Derived.Test.YtcmkngajdckndaaGreatDoorChecked
import Derived.Deep.Slices
import Derived.Lib.SmallJoins
import Derived.SizedLaws
import Derived.ChangeArms
import Derived.OpenShut
import Derived.Test.YtcmkngajdckndaaGreatDoorCards
import Derived.Test.YtcmkngajdckndaaGreatDoorTie
import Derived.WalkKit
import Derived.ProofKit
import Derived.ReadAgain
import Derived.Deep.DeepHandedRow
import Derived.Lib.LaidTab
set_option linter.unusedVariables false
set_option linter.unusedSimpArgs false
namespace Go
namespace Lm
theorem cell_cells {w : World} {b p : Nat} {u : Value} (h : w.cell? ⟨b, p, none⟩ = some u) : ∃ cs e fz, w.heap[b]? = some (.cells cs e fz) ∧ cs[p]? = some u := by
  unfold World.cell? at h
  split at h
  · rename_i cs e fz heq
    exact ⟨cs, e, fz, heq, by simpa using h⟩
  · cases h
def enc1 (w : World) (u : Value) : Value := (encV w u).getD junkV
theorem cellsW_get {w : World} {o k : Nat} {cs : Array Value} (hk : ∀ i, i < k → ∃ u, cs[o + i]? = some u ∧ (encV w u).isSome = true) : o + k ≤ (cellsW w o cs).length ∨ k = 0 := by
  rcases Nat.eq_zero_or_pos k with h0 | h0
  · exact .inr h0
  left
  obtain ⟨u, hu, _⟩ := hk (k - 1) (by omega)
  have hlt := (Array.getElem?_eq_some_iff.1 hu).1
  have h1 := tw_up (fun v => (encV w v).isSome) (cs.toList.drop o) k (fun i hi => by
    obtain ⟨u, a, b⟩ := hk i hi
    exact ⟨u, by rw [List.getElem?_drop, Array.getElem?_toList]; exact a, b⟩) (k - 1) (by omega)
  rw [List.getElem?_drop, show cs.toList[o + (k - 1)]? = cs[o + (k - 1)]? from Array.getElem?_toList, hu] at h1
  have := (List.getElem?_eq_some_iff.1 h1).1
  unfold cellsW
  rw [List.length_append, List.length_replicate, List.length_map, Nat.min_eq_left (by omega)]
  omega
theorem cellsW_at {w : World} {o k i : Nat} {cs : Array Value} {u : Value} (hk : ∀ i, i < k → ∃ u, cs[o + i]? = some u ∧ (encV w u).isSome = true) (hi : i < k) (hu : cs[o + i]? = some u) : (cellsW w o cs)[o + i]? = some (enc1 w u) := by
  have hlt := (Array.getElem?_eq_some_iff.1 hu).1
  have h1 := tw_up (fun v => (encV w v).isSome) (cs.toList.drop o) k (fun i hi => by
    obtain ⟨u, a, b⟩ := hk i hi
    exact ⟨u, by rw [List.getElem?_drop, Array.getElem?_toList]; exact a, b⟩) i hi
  rw [List.getElem?_drop, show cs.toList[o + i]? = cs[o + i]? from Array.getElem?_toList, hu] at h1
  unfold cellsW
  rw [Nat.min_eq_left (by omega), List.getElem?_append, List.length_replicate, if_neg (by omega), List.getElem?_map]
  rw [show o + i - o = i by omega, h1]
  rfl
theorem lst_world {w : World} {b off sz c : Nat} {rows : List (List Value)} (hb : b < w.heap.size) (hsz : 0 < sz) (hlen : ∀ r, r ∈ rows → r.length = sz)
    (hc : ∀ i r j u, rows[i]? = some r → r[j]? = some u → w.cell? ⟨b, off + (i * sz + j), none⟩ = some u) (hok : ∀ r, r ∈ rows → ∀ u, u ∈ r → (encV w u).isSome = true) (hpos : 0 < rows.length) :
    Lst (hpW w) (argOf w) sz (.slice (some ⟨markOf w b off, off, none⟩) rows.length c) (rows.map fun r => r.map (enc1 w)) ∧ off < topOf w := by
  have h00 : ∃ u, w.cell? ⟨b, off, none⟩ = some u := by
    have hr := List.getElem?_eq_getElem hpos
    have hl := hlen _ (List.getElem_mem hpos)
    have hu := List.getElem?_eq_getElem (l := rows[0]) (i := 0) (by omega)
    exact ⟨_, by simpa using hc 0 _ 0 _ hr hu⟩
  obtain ⟨u0, hu0⟩ := h00
  obtain ⟨cs, e, fz, hcs, hcu⟩ := cell_cells hu0
  have htop : off < topOf w := by
    have := topOf_lt hcs
    have := (Array.getElem?_eq_some_iff.1 hcu).1
    omega
  obtain ⟨m1, m2, m3⟩ := mark_ok hb htop
  have hrow : rowL (hpW w) (markOf w b off) = some (cellsW w off cs) := by
    unfold rowL
    have : hget (hpW w) (markOf w b off) = some (rowW w (markOf w b off)) := rfl
    rw [this]
    unfold rowW
    rw [if_pos ⟨m1, by rw [m2]; exact hb⟩, m2, m3, hcs]
  have cell : ∀ {p u}, w.cell? ⟨b, p, none⟩ = some u → cs[p]? = some u := fun {p u} h => by
    obtain ⟨cs', e', fz', h1, h2⟩ := cell_cells h
    rw [hcs] at h1
    cases h1
    exact h2
  have hk : ∀ i, i < rows.length * sz → ∃ u, cs[off + i]? = some u ∧ (encV w u).isSome = true := fun i hi => by
    have hd : i / sz < rows.length := (Nat.div_lt_iff_lt_mul hsz).2 hi
    have hr := List.getElem?_eq_getElem hd
    have hm := List.getElem_mem hd
    have hl := hlen _ hm
    have hj : i % sz < (rows[i / sz]).length := by rw [hl]; exact Nat.mod_lt _ hsz
    have hu := List.getElem?_eq_getElem hj
    refine ⟨_, ?_, hok _ hm _ (List.getElem_mem hj)⟩
    have := cell (hc _ _ _ _ hr hu)
    rwa [Nat.mul_comm, Nat.div_add_mod] at this
  refine ⟨⟨_, c, by rw [List.length_map], fun i row hi => ?_⟩, htop⟩
  rw [List.getElem?_map] at hi
  cases hr : rows[i]? with
  | none => rw [hr] at hi; cases hi
  | some r =>
    rw [hr] at hi
    simp only [Option.map_some, Option.some.injEq] at hi
    subst hi
    have hil := (List.getElem?_eq_some_iff.1 hr).1
    have hm := List.mem_of_getElem? hr
    have hl := hlen r hm
    have hmul : (i + 1) * sz ≤ rows.length * sz := Nat.mul_le_mul_right _ hil
    rw [Nat.succ_mul] at hmul
    refine ⟨by rw [List.length_map, hl], markOf w b off, off, cellsW w off cs, rfl, m1, hrow, ?_, ?_⟩
    · rcases cellsW_get hk with q | q
      · rw [Nat.succ_mul]; omega
      · have := Nat.mul_pos hpos hsz; omega
    · refine List.ext_getElem? fun j => ?_
      by_cases hj : j < sz
      · rw [List.getElem?_take_of_lt hj, List.getElem?_drop, List.getElem?_map]
        have hu := List.getElem?_eq_getElem (l := r) (i := j) (by omega)
        have hcj := cell (hc i r j _ hr hu)
        rw [Nat.add_assoc, cellsW_at hk (i := i * sz + j) (by omega) hcj, hu]
        rfl
      · rw [List.getElem?_eq_none (by rw [List.length_take]; omega), List.getElem?_eq_none (by rw [List.length_map, hl]; omega)]
theorem slice_world {w : World} {sz cap : Nat} {A : Option Addr} {rows : List (List Value)} (hsz : 0 < sz) (hlen : ∀ r, r ∈ rows → r.length = sz) (hcap : rows.length ≤ cap) (hh : cap < HALF)
    (hA : 0 < cap → ∃ b off, A = some ⟨b, off, none⟩ ∧ b < w.heap.size ∧ (∃ u, w.cell? ⟨b, off, none⟩ = some u) ∧ ∀ i r j u, rows[i]? = some r → r[j]? = some u → w.cell? ⟨b, off + (i * sz + j), none⟩ = some u)
    (hok : ∀ r, r ∈ rows → ∀ u, u ∈ r → (encV w u).isSome = true) :
    (encV w (.slice A rows.length cap)).isSome = true ∧ Lst (hpW w) (argOf w) sz (enc1 w (.slice A rows.length cap)) (rows.map fun r => r.map (enc1 w)) := by
  unfold enc1
  rcases Nat.eq_zero_or_pos cap with h0 | h0
  · have hr : rows = [] := List.eq_nil_of_length_eq_zero (by omega)
    subst hr
    subst h0
    cases A with
    | none => exact ⟨rfl, none, 0, rfl, fun i row hi => by simp at hi⟩
    | some a => exact ⟨rfl, some ⟨w.heap.size + 1, 0, none⟩, 0, rfl, fun i row hi => by simp at hi⟩
  · obtain ⟨b, off, rfl, hb, ⟨u, hu⟩, hc⟩ := hA h0
    obtain ⟨cs, e, fz, hcs, hcu⟩ := cell_cells hu
    have htop : off < topOf w := by
      have := topOf_lt hcs
      have := (Array.getElem?_eq_some_iff.1 hcu).1
      omega
    have he : encV w (.slice (some ⟨b, off, none⟩) rows.length cap) = some (.slice (some ⟨markOf w b off, off, none⟩) rows.length cap) := by
      unfold encV
      have h1 : ¬ (rows.length = 0 ∧ cap = 0) := by omega
      simp only
      rw [if_neg h1, if_pos ⟨trivial, hb, htop, hh, hcap⟩]
    rw [he]
    refine ⟨rfl, ?_⟩
    rcases Nat.eq_zero_or_pos rows.length with hr0 | hr0
    · have hr : rows = [] := List.eq_nil_of_length_eq_zero hr0
      subst hr
      exact ⟨_, cap, rfl, fun i row hi => by simp at hi⟩
    · exact (lst_world hb hsz hlen hc hok hr0).1
end Lm
end Go
namespace Go.Proofs.YtcmkngajdckndaaGreatDoor
open Go Go.Proofs Go.RowKit Go.Deep Go.ChangeShapes Go.WideShapes
open Go.Lm (vi hpW argOf encV enc1 Lst slice_world HALF)
set_option maxHeartbeats 1000000
set_option maxRecDepth 10000
theorem weightsAll_mem {H : Type} {P : Program} {e : TypeId} {l : List (DataW H)} {d : DataW H} (h : d ∈ l) : ∀ n ∈ d.weights P e, n ∈ DataW.weightsAll P e l := by
  induction l with
  | nil => cases h
  | cons x r ih =>
    intro n hn
    simp only [DataW.weightsAll, List.mem_append]
    rcases List.mem_cons.1 h with rfl | h1
    · exact .inl hn
    · exact .inr (ih h1 n hn)
abbrev Fair {H : Type} (P : Program) (t : TypeId) (d : DataW H) : Prop := ∀ n ∈ d.weights P t, n ≤ reachBytes
theorem cell_none {w : World} {a : Addr} {v : Value} (h : w.cell? a = some v) : a.spot = none ∧ a.block < w.heap.size := by
  unfold World.cell? at h
  split at h
  · rename_i ho
    refine ⟨?_, (Array.getElem?_eq_some_iff.1 ho).1⟩
    split at h
    · cases h
    · rename_i hs; simpa using hs
  · cases h
structure SlW (w : World) (sz : Nat) (A : Option Addr) (cap : Nat) (rows : List (List Value)) : Prop where
  len : rows.length ≤ cap
  few : cap ≤ 140737488351232
  lies : 0 < cap → ∃ b off, A = some ⟨b, off, none⟩ ∧ b < w.heap.size ∧ (∃ u, w.cell? ⟨b, off, none⟩ = some u) ∧ ∀ i r j u, rows[i]? = some r → r[j]? = some u → w.cell? ⟨b, off + (i * sz + j), none⟩ = some u
section
variable {H : Type} {enc : TypeId × Value → H} {P : Program} {w : World}
theorem open_rows {α : Type} [Inhabited α] {t e : TypeId} (code : α → List Value) (Q : α → Prop) {sz : Nat} (ht : P.underlying t = some (.slice e)) (hsz : P.cellsOf e = sz) (h0 : 0 < sz) (hb1 : 1 ≤ P.bytesOf e)
    (dec : ∀ (n : Nat) (cs : List Value) (y : DataW H × List MemPlace), DataW.trod enc P w 0 (fun _ => true) true n e cs = some y → Fair P e y.1 → ∃ x : α, cs = code x ∧ (code x).length = sz ∧ Q x)
    {fuel : Nat} {cs : List Value} {x : DataW H × List MemPlace} (h : DataW.trod enc P w 0 (fun _ => true) true fuel t cs = some x) (hw : Fair P t x.1) :
    ∃ (A : Option Addr) (cap : Nat) (l : List α), cs = [.slice A l.length cap] ∧ SlW w sz A cap (l.map code) ∧ (∀ x ∈ l, (code x).length = sz) ∧ ∀ x ∈ l, Q x := by
  rcases open_slice ht h with ⟨rfl, rfl⟩ | ⟨a, len, cap, m, n, D, Pl, rfl, _, hl, hm, hmm, rfl, hxx⟩
  · exact ⟨none, 0, [], rfl, ⟨by simp, by omega, fun h => by omega⟩, fun x hx => (by cases hx), fun x hx => by cases hx⟩
  · simp only [if_true] at hmm
    subst hmm
    have hwt : (len + (m - len)) * P.bytesOf e ≤ reachBytes := by
      refine hw _ ?_
      simp [DataW.weights, ht]
    have hcap : m ≤ 140737488351232 := by
      have h1 : m * 1 ≤ m * P.bytesOf e := Nat.mul_le_mul_left _ hb1
      rw [show len + (m - len) = m by omega] at hwt
      unfold reachBytes at hwt
      omega
    have hfair : ∀ i, i < len → Fair P e (D i) := by
      intro i hi k hk
      refine hw k ?_
      simp only [DataW.weights, ht, List.mem_cons, List.mem_append]
      exact .inr (.inl (weightsAll_mem (List.mem_map.2 ⟨i, List.mem_range.2 hi, rfl⟩) k hk))
    obtain ⟨f, hf⟩ := choose_lt (n := len) (p := fun i (x : α) => w.cells? 0 (a.add (i * P.cellsOf e)) (P.cellsOf e) = some (code x) ∧ (code x).length = sz ∧ Q x) (fun i hi => by
      obtain ⟨cs', h1, h2⟩ := hxx i (by omega)
      obtain ⟨x, rfl, hq0, hq⟩ := dec n cs' _ h2 (hfair i hi)
      exact ⟨x, h1, hq0, hq⟩)
    have key : 0 < m → ∃ b off, some a = some ⟨b, off, none⟩ ∧ b < w.heap.size ∧ (∃ u, w.cell? ⟨b, off, none⟩ = some u) ∧ ∀ i r j u, (((List.range len).map f).map code)[i]? = some r → r[j]? = some u → w.cell? ⟨b, off + (i * sz + j), none⟩ = some u := fun hpos => by
      obtain ⟨cs0, hc0, _⟩ := hxx 0 hpos
      obtain ⟨_, hcl, hcc⟩ := World.cells?_some hc0
      have hz := hcc 0 (by omega)
      rw [Nat.zero_mul] at hz
      have hz' : w.cell? a = cs0[0]? := by simpa [Addr.add] using hz
      rw [List.getElem?_eq_getElem (by omega)] at hz'
      obtain ⟨hs, hb⟩ := cell_none hz'
      obtain ⟨b, off, spot⟩ := a
      simp only at hs hb
      subst hs
      refine ⟨b, off, rfl, hb, ⟨_, hz'⟩, fun i r j u hr hu => ?_⟩
      rw [List.getElem?_map, List.getElem?_map] at hr
      by_cases hi : i < len
      · simp only [List.getElem?_range hi, Option.map_some, Option.some.injEq] at hr
        subst hr
        obtain ⟨_, _, hcj⟩ := World.cells?_some (hf i hi).1
        have hj : j < sz := by
          have := (List.getElem?_eq_some_iff.1 hu).1
          rw [(hf i hi).2.1] at this; exact this
        have := hcj j (by omega)
        rw [add_add, hu, hsz] at this
        rw [← this]
        congr 1
        unfold Addr.add
        split
        · simp_all
        · simp
      · rw [List.getElem?_eq_none (by simpa using hi)] at hr
        cases hr
    refine ⟨some a, m, (List.range len).map f, by simp, ⟨by simpa using hl, hcap, key⟩, fun x hx => ?_, fun x hx => ?_⟩
    · obtain ⟨i, hi, rfl⟩ := List.mem_map.1 hx
      exact (hf i (List.mem_range.1 hi)).2.1
    · obtain ⟨i, hi, rfl⟩ := List.mem_map.1 hx
      exact (hf i (List.mem_range.1 hi)).2.2
end
section
variable {H : Type} {enc : TypeId × Value → H} {w : World}
abbrev Rd (P : Program) (enc : TypeId × Value → H) (w : World) (n : Nat) (t : TypeId) (cs : List Value) : Option (DataW H × List MemPlace) := DataW.trod enc P w 0 (fun _ => true) true n t cs
theorem read_fields {t : TypeId} {L : List (TypeId × Nat)} (hu : Tryz.prog.underlying t = some (.struct (Tryz.prog.fieldsOf t))) (hL : ((Tryz.prog.fieldsOf t).toList.map fun f => (f.type, f.offset)) = L)
    {n : Nat} {cs : List Value} {y : DataW H × List MemPlace} (h : Rd Tryz.prog enc w n t cs = some y) (hy : Fair Tryz.prog t y.1) :
    cs.length = Tryz.prog.cellsOf t ∧ ∃ m, ∀ (i : Nat) (ty : TypeId) (off : Nat), L[i]? = some (ty, off) → ∃ z, Rd Tryz.prog enc w m ty ((cs.drop off).take (Tryz.prog.cellsOf ty)) = some z ∧ Fair Tryz.prog ty z.1 := by
  obtain ⟨xs, m, _, rfl, hl, hlen, hf⟩ := DataW.trod_struct hu h
  refine ⟨hl, m, fun i ty off hi => ?_⟩
  rw [← hL, List.getElem?_map] at hi
  cases hfi : (Tryz.prog.fieldsOf t).toList[i]? with
  | none => rw [hfi] at hi; cases hi
  | some f =>
    rw [hfi] at hi
    simp only [Option.map_some, Option.some.injEq, Prod.mk.injEq] at hi
    obtain ⟨rfl, rfl⟩ := hi
    have h1 := hf i f (by simpa using hfi)
    have hilt : i < xs.length := by
      have := (List.getElem?_eq_some_iff.1 hfi).1
      rw [hlen]; simpa using this
    rw [List.getElem?_eq_getElem hilt] at h1
    refine ⟨_, h1, fun k hk => hy k ?_⟩
    simp only [DataW.weights, hu]
    exact DataW.weights_mem_each (j := i) (by rw [List.getElem?_map, hfi]; rfl) (by rw [List.getElem?_map, List.getElem?_eq_getElem hilt]; rfl) k hk
theorem read_int {n : Nat} {cs : List Value} {y : DataW H × List MemPlace} (h : Rd Tryz.prog enc w n 3 cs = some y) : ∃ k, cs = [vi k] := by
  obtain ⟨k, h1, _⟩ := DataW.trod_int Tryz.underlying3 h
  exact ⟨k, h1⟩
theorem list2 {α : Type} {l : List α} (h : l.length = 2) : ∃ a b, l = [a, b] := by
  match l, h with
  | [a, b], _ => exact ⟨a, b, rfl⟩
theorem list4 {α : Type} {l : List α} (h : l.length = 4) : ∃ a b c d, l = [a, b, c, d] := by
  match l, h with
  | [a, b, c, d], _ => exact ⟨a, b, c, d, rfl⟩
theorem list7 {α : Type} {l : List α} (h : l.length = 7) : ∃ a b c d e f g, l = [a, b, c, d, e, f, g] := by
  match l, h with
  | [a, b, c, d, e, f, g], _ => exact ⟨a, b, c, d, e, f, g, rfl⟩
theorem up : Tryz.prog.underlying 89 = some (.struct (Tryz.prog.fieldsOf 89)) := by kernel_rfl
theorem lp : ((Tryz.prog.fieldsOf 89).toList.map fun f => (f.type, f.offset)) = [(3, 0), (3, 1), (3, 2), (4, 3)] := by kernel_rfl
theorem uk : Tryz.prog.underlying 71 = some (.struct (Tryz.prog.fieldsOf 71)) := by kernel_rfl
theorem lk : ((Tryz.prog.fieldsOf 71).toList.map fun f => (f.type, f.offset)) = [(3, 0), (3, 1), (24, 2), (3, 3)] := by kernel_rfl
theorem ub : Tryz.prog.underlying 26 = some (.struct (Tryz.prog.fieldsOf 26)) := by kernel_rfl
theorem lb : ((Tryz.prog.fieldsOf 26).toList.map fun f => (f.type, f.offset)) = [(22, 0), (23, 1), (3, 2), (3, 3), (3, 4), (3, 5), (24, 6)] := by kernel_rfl
theorem k3 : Tryz.prog.cellsOf 3 = 1 := by kernel_rfl
theorem k4c : Tryz.prog.cellsOf 4 = 1 := by kernel_rfl
theorem k22c : Tryz.prog.cellsOf 22 = 1 := by kernel_rfl
theorem k23c : Tryz.prog.cellsOf 23 = 1 := by kernel_rfl
theorem k24c : Tryz.prog.cellsOf 24 = 1 := by kernel_rfl
theorem k26c : Tryz.prog.cellsOf 26 = 7 := by kernel_rfl
theorem k71c : Tryz.prog.cellsOf 71 = 4 := by kernel_rfl
theorem k89c : Tryz.prog.cellsOf 89 = 4 := by kernel_rfl
theorem b3 : 1 ≤ Tryz.prog.bytesOf 3 := by decide +kernel
theorem b71 : 1 ≤ Tryz.prog.bytesOf 71 := by decide +kernel
theorem b89 : 1 ≤ Tryz.prog.bytesOf 89 := by decide +kernel
instance : Inhabited Pc := ⟨⟨0, 0, 0, false⟩⟩
structure KdW where
  room : Int
  most : Int
  A : Option Addr
  cap : Nat
  zs : List Int
  step : Int
instance : Inhabited KdW := ⟨⟨0, 0, none, 0, [], 0⟩⟩
def intC (n : Int) : List Value := [vi n]
def KdW.code (x : KdW) : List Value := [vi x.room, vi x.most, .slice x.A x.zs.length x.cap, vi x.step]
def KdW.Lies (w : World) (x : KdW) : Prop := SlW w 1 x.A x.cap (x.zs.map intC)
theorem read_piece (n : Nat) (cs : List Value) (y : DataW H × List MemPlace) (h : Rd Tryz.prog enc w n 89 cs = some y) (hy : Fair Tryz.prog 89 y.1) : ∃ x : Pc, cs = x.row ∧ x.row.length = 4 ∧ True := by
  obtain ⟨hl, m, hm⟩ := read_fields up lp h hy
  obtain ⟨c0, c1, c2, c3, rfl⟩ := list4 (hl.trans k89c)
  obtain ⟨z0, h0, _⟩ := hm 0 _ _ rfl
  obtain ⟨z1, h1, _⟩ := hm 1 _ _ rfl
  obtain ⟨z2, h2, _⟩ := hm 2 _ _ rfl
  obtain ⟨z3, h3, _⟩ := hm 3 _ _ rfl
  rw [k3] at h0 h1 h2
  rw [k4c] at h3
  obtain ⟨a, e0⟩ := read_int h0
  obtain ⟨b, e1⟩ := read_int h1
  obtain ⟨c, e2⟩ := read_int h2
  obtain ⟨d, e3, _⟩ := DataW.trod_bool Tryz.underlying4 h3
  simp at e0 e1 e2 e3
  exact ⟨⟨a, b, c, d⟩, by rw [e0, e1, e2, e3]; rfl, rfl, trivial⟩
theorem read_ints {n : Nat} {cs : List Value} {y : DataW H × List MemPlace} (h : Rd Tryz.prog enc w n 24 cs = some y) (hy : Fair Tryz.prog 24 y.1) : ∃ (A : Option Addr) (cap : Nat) (l : List Int), cs = [.slice A l.length cap] ∧ SlW w 1 A cap (l.map intC) := by
  obtain ⟨A, cap, l, h1, h2, _⟩ := open_rows (α := Int) intC (fun _ => True) Tryz.underlying24 k3 (by omega) b3 (fun n cs y hn _ => by
    obtain ⟨k, e⟩ := read_int hn
    exact ⟨k, e, rfl, trivial⟩) h hy
  exact ⟨A, cap, l, h1, h2⟩
theorem read_kind (n : Nat) (cs : List Value) (y : DataW H × List MemPlace) (h : Rd Tryz.prog enc w n 71 cs = some y) (hy : Fair Tryz.prog 71 y.1) : ∃ x : KdW, cs = x.code ∧ x.code.length = 4 ∧ x.Lies w := by
  obtain ⟨hl, m, hm⟩ := read_fields uk lk h hy
  obtain ⟨c0, c1, c2, c3, rfl⟩ := list4 (hl.trans k71c)
  obtain ⟨z0, h0, _⟩ := hm 0 _ _ rfl
  obtain ⟨z1, h1, _⟩ := hm 1 _ _ rfl
  obtain ⟨z2, h2, y2⟩ := hm 2 _ _ rfl
  obtain ⟨z3, h3, _⟩ := hm 3 _ _ rfl
  rw [k3] at h0 h1 h3
  rw [k24c] at h2
  obtain ⟨a, e0⟩ := read_int h0
  obtain ⟨b, e1⟩ := read_int h1
  obtain ⟨A, cap, l, e2, q⟩ := read_ints h2 y2
  obtain ⟨d, e3⟩ := read_int h3
  simp at e0 e1 e2 e3
  exact ⟨⟨a, b, A, cap, l, d⟩, by rw [e0, e1, e2, e3]; rfl, rfl, q⟩
theorem read_book {v : Value} {d : DataW H} {ps : List MemPlace} {base : Nat} (hv : Value.okWide Tryz.prog w .any base 26 v) (h : DataW.Trod enc Tryz.prog w 0 (fun _ => true) true 26 v d ps) (hd : Fair Tryz.prog 26 d) :
    ∃ (A : Option Addr) (ca : Nat) (P : List Pc) (B : Option Addr) (cb : Nat) (K : List KdW) (C : Option Addr) (cc : Nat) (S : List Int) (g f u e : Int),
      v = .agg #[.slice A P.length ca, .slice B K.length cb, vi g, vi f, vi u, vi e, .slice C S.length cc] ∧ SlW w 4 A ca (P.map Pc.row) ∧ SlW w 4 B cb (K.map KdW.code) ∧ (∀ x ∈ K, x.Lies w) ∧ SlW w 1 C cc (S.map intC) := by
  unfold Value.okWide at hv
  rw [ub] at hv
  obtain ⟨cs, rfl, hsz, _⟩ := hv
  obtain ⟨n, h⟩ := h
  obtain ⟨hl, m, hm⟩ := read_fields ub lb h hd
  obtain ⟨c0, c1, c2, c3, c4, c5, c6, hcs⟩ := list7 (hl.trans k26c)
  have hcs' : cs.toList = [c0, c1, c2, c3, c4, c5, c6] := hcs
  have ea : cs = #[c0, c1, c2, c3, c4, c5, c6] := by rw [← Array.toArray_toList (xs := cs), hcs']
  subst ea
  obtain ⟨z0, h0, y0⟩ := hm 0 _ _ rfl
  obtain ⟨z1, h1, y1⟩ := hm 1 _ _ rfl
  obtain ⟨z2, h2, _⟩ := hm 2 _ _ rfl
  obtain ⟨z3, h3, _⟩ := hm 3 _ _ rfl
  obtain ⟨z4, h4, _⟩ := hm 4 _ _ rfl
  obtain ⟨z5, h5, _⟩ := hm 5 _ _ rfl
  obtain ⟨z6, h6, y6⟩ := hm 6 _ _ rfl
  rw [k3] at h2 h3 h4 h5
  rw [k22c] at h0
  rw [k23c] at h1
  rw [k24c] at h6
  obtain ⟨A, ca, P, e0, q0, _⟩ := open_rows (α := Pc) Pc.row (fun _ => True) Tryz.underlying22 k89c (by omega) b89 read_piece h0 y0
  obtain ⟨B, cb, K, e1, q1, _, q1'⟩ := open_rows (α := KdW) KdW.code (KdW.Lies w) Tryz.underlying23 k71c (by omega) b71 read_kind h1 y1
  obtain ⟨g, e2⟩ := read_int h2
  obtain ⟨f, e3⟩ := read_int h3
  obtain ⟨u, e4⟩ := read_int h4
  obtain ⟨e, e5⟩ := read_int h5
  obtain ⟨C, cc, S, e6, q6⟩ := read_ints h6 y6
  simp [Value.cells] at e0 e1 e2 e3 e4 e5 e6
  exact ⟨A, ca, P, B, cb, K, C, cc, S, g, f, u, e, by rw [e0, e1, e2, e3, e4, e5, e6], q0, q1, q1', q6⟩
end
open Go Go.RowKit Go.Deep Go.ChangeShapes Go.WideShapes Go.ChangeAt
open Go.Lm (vi)
set_option maxHeartbeats 1000000
theorem own_knob : ownKnob Tryz.prog.godebug = none := by kernel_rfl
theorem kids : Kids Tryz.prog (· < Tryz.prog.types.size) := kids_rows (by kernel_rfl) (by kernel_rfl)
theorem full : ∀ t e, t < Tryz.prog.types.size → Tryz.prog.underlying t = some (.slice e) → 0 < Tryz.prog.cellsOf e := slices_full_of Tryz.prog (by kernel_rfl)
section
variable {H : Type} {enc : TypeId × Value → H}
theorem carry_all {P : Program} {w w' : World} {b : Nat} {sp : Nat → Bool} {hd : Bool} : ∀ {ts : List TypeId} {vs : List Value} {ds : List (DataW H)} {ps : List MemPlace}, DataW.TrodAll enc P w b sp hd ts vs ds ps → (∀ p ∈ ps, w.sameAt w' p) → DataW.TrodAll enc P w' b sp hd ts vs ds ps
  | [], [], [], _, h, _ => h
  | _ :: _, _ :: _, _ :: _, _, ⟨p, q, ⟨n, h1⟩, h2, e⟩, hs =>
    ⟨p, q, ⟨n, DataW.trod_carry n _ _ _ h1 fun x hx => hs x (by rw [e]; exact List.mem_append_left _ hx)⟩, carry_all h2 fun x hx => hs x (by rw [e]; exact List.mem_append_right _ hx), e⟩
theorem post_true {s : ChangeSpec} {fn : Func} {W W' : World} {args : Array Value} {ds gs : List (DataW H)} {before : List MemPlace}
    (hW : DataW.Whole enc Tryz.prog fn.params.toList s.vars false W args.toList ds gs before) (hv : s.vars = []) (hs : s.fn H ds = { results := [.lit (.bool true)], args := ds })
    (ht : fn.resultTypes = #[4]) (hp : ∀ t ∈ fn.params.toList, t < Tryz.prog.types.size) (hb : Below W.heap.size W W') :
    s.post enc Tryz.prog fn false true false false W args (.bool true) W' := by
  have hW0 := hW
  obtain ⟨p, q, hA, hV, rfl, hfz, hnd⟩ := hW
  rw [hv] at hV
  obtain ⟨rfl, rfl⟩ := trodVars_none hV
  have hlt : ∀ x ∈ p, x.block < W.heap.size := fun x hx => hW0.lt x (by simpa using hx)
  refine ⟨ds, [], p ++ [], [], p, [], hW0, ?_, ?_, ?_, ?_, fun h => by cases h⟩
  · rw [ht, List.append_nil, hs]
    exact trodAll_cons_mk (shut_bool Tryz.underlying4 true) trodAll_mk0
  · rw [List.append_nil, hs]
    exact DataW.TrodAll.respare kids full hp (carry_all hA fun x hx => hb.same (hlt x hx)) fun x hx => by simpa using hlt x hx
  · rw [hv, List.append_nil, hs]
    rfl
  · exact World.keptBut_mono (fun _ h => h.elim) (hb.frame fun _ => False)
end
section
variable {H : Type} {enc : TypeId × Value → H} {w : World} {sp : Nat → Bool} {hd : Bool} {base : Nat}
theorem ks : Tryz.prog.cellsOf 104 = 2 := by kernel_rfl
theorem us : Tryz.prog.underlying 104 = some (.struct (Tryz.prog.fieldsOf 104)) := by kernel_rfl
theorem ls : ((Tryz.prog.fieldsOf 104).toList.map fun f => (f.type, f.offset)) = [(3, 0), (3, 1)] := by kernel_rfl
theorem told_int {n : Nat} {cs : List Value} {y : DataW H × List MemPlace} (h : DataW.trod enc Tryz.prog w base sp hd n 3 cs = some y) : ∃ k, cs = [vi k] ∧ y.1 = .lit (.int .i64 k) := by
  obtain ⟨k, h1, h2, _⟩ := DataW.trod_int Tryz.underlying3 h
  exact ⟨k, h1, by rw [h2]⟩
theorem told_span {n : Nat} {cs : List Value} {y : DataW H × List MemPlace} (h : DataW.trod enc Tryz.prog w base sp hd n 104 cs = some y) : ∃ a b, cs = [vi a, vi b] ∧ y.1 = .agg [.lit (.int .i64 a), .lit (.int .i64 b)] := by
  obtain ⟨xs, m, _, rfl, hl, hlen, hf⟩ := DataW.trod_struct us h
  obtain ⟨c0, c1, rfl⟩ := list2 (hl.trans ks)
  have hsz : (Tryz.prog.fieldsOf 104).size = 2 := by kernel_rfl
  rw [hsz] at hlen
  obtain ⟨x0, x1, rfl⟩ := list2 hlen
  have key : ∀ (i ty off : Nat), ((Tryz.prog.fieldsOf 104).toList.map fun f => (f.type, f.offset))[i]? = some (ty, off) → DataW.trod enc Tryz.prog w base sp hd m ty (([c0, c1].drop off).take (Tryz.prog.cellsOf ty)) = [x0, x1][i]? := by
    intro i ty off hi
    rw [List.getElem?_map] at hi
    cases hfi : (Tryz.prog.fieldsOf 104).toList[i]? with
    | none => rw [hfi] at hi; cases hi
    | some f =>
      rw [hfi] at hi
      simp only [Option.map_some, Option.some.injEq, Prod.mk.injEq] at hi
      obtain ⟨rfl, rfl⟩ := hi
      exact hf i f (by simpa using hfi)
  have h0 := key 0 3 0 (by rw [ls]; rfl)
  have h1 := key 1 3 1 (by rw [ls]; rfl)
  rw [k3] at h0 h1
  obtain ⟨a, e0, d0⟩ := told_int h0
  obtain ⟨b, e1, d1⟩ := told_int h1
  simp at e0 e1
  exact ⟨a, b, by rw [e0, e1], by simp [d0, d1]⟩
end
def lo0 (k : Nat) : Int := ([1, 1, 1, 0, 1, 0, 1, 0, 1, 1, 0] : List Int).getD k 0
def hi0 (k : Nat) : Int := ([7, 500, 5000, 10000, 4, 4, 1000, 1000, 10000, 5, 20000] : List Int).getD k 0
theorem g0N : Tryz.prog.globalNamed "wishbook/parcel.limits" = some 0 := by kernel_rfl
theorem g0T : (Tryz.prog.globals[0]?).map (·.type) = some 105 := by kernel_rfl
theorem g0U : Tryz.prog.underlying 105 = some (.array 11 104) := by kernel_rfl
theorem lim0 {W : World} {ps : List MemPlace} {cs : Array Value} {fuel : Nat} (hvar : W.var? Tryz.prog "wishbook/parcel.limits" = some cs) (hd : DataW.trod (fun _ => ()) Tryz.prog W 0 (fun _ => true) false fuel 105 cs.toList = some (Rows.laid_wishbook_parcel_limits, ps)) :
    ∀ k : Nat, k < 11 → W.cell? ⟨0, k * 2, none⟩ = some (vi (lo0 k)) ∧ W.cell? ⟨0, k * 2 + 1, none⟩ = some (vi (hi0 k)) := by
  obtain ⟨xs, m, _, hx, hl, hlen, hf⟩ := DataW.trod_array g0U hd
  have hcell := World.var?_cell g0N hvar
  have hxs : xs.map (·.1) = [.agg [.lit (.int .i64 1), .lit (.int .i64 7)], .agg [.lit (.int .i64 1), .lit (.int .i64 500)], .agg [.lit (.int .i64 1), .lit (.int .i64 5000)], .agg [.lit (.int .i64 0), .lit (.int .i64 10000)], .agg [.lit (.int .i64 1), .lit (.int .i64 4)], .agg [.lit (.int .i64 0), .lit (.int .i64 4)], .agg [.lit (.int .i64 1), .lit (.int .i64 1000)], .agg [.lit (.int .i64 0), .lit (.int .i64 1000)], .agg [.lit (.int .i64 1), .lit (.int .i64 10000)], .agg [.lit (.int .i64 1), .lit (.int .i64 5)], .agg [.lit (.int .i64 0), .lit (.int .i64 20000)]] := by
    have := congrArg Prod.fst hx
    simpa [Rows.laid_wishbook_parcel_limits] using this.symm
  have key : ∀ (k : Nat) (a b : Int), k < 11 → (xs.map (·.1))[k]? = some (.agg [.lit (.int .i64 a), .lit (.int .i64 b)]) → W.cell? ⟨0, k * 2, none⟩ = some (vi a) ∧ W.cell? ⟨0, k * 2 + 1, none⟩ = some (vi b) := by
    intro k a b hk hkx
    have h1 := hf k hk
    rw [ks] at h1
    rw [List.getElem?_map] at hkx
    cases hxk : xs[k]? with
    | none => rw [hxk] at hkx; cases hkx
    | some z =>
      rw [hxk] at h1 hkx
      obtain ⟨a', b', e, hz⟩ := told_span h1
      simp only [Option.map_some, Option.some.injEq] at hkx
      rw [hz] at hkx
      simp only [DataW.agg.injEq, List.cons.injEq, DataW.lit.injEq, Lit.int.injEq, true_and, and_true] at hkx
      obtain ⟨rfl, rfl⟩ := hkx
      have e0 := congrArg (fun l : List Value => l[0]?) e
      have e1 := congrArg (fun l : List Value => l[1]?) e
      simp only [List.getElem?_take, List.getElem?_drop, List.getElem?_cons_zero, List.getElem?_cons_succ] at e0 e1
      refine ⟨(hcell _).trans ?_, (hcell _).trans ?_⟩
      · simpa using e0
      · simpa using e1
  intro k hk
  have : k = 0 ∨ k = 1 ∨ k = 2 ∨ k = 3 ∨ k = 4 ∨ k = 5 ∨ k = 6 ∨ k = 7 ∨ k = 8 ∨ k = 9 ∨ k = 10 := by omega
  rcases this with rfl | rfl | rfl | rfl | rfl | rfl | rfl | rfl | rfl | rfl | rfl
  all_goals exact key _ _ _ (by omega) (by rw [hxs]; rfl)
theorem block_of {w : World} {a : Addr} {v : Value} (h : w.cell? a = some v) : ∃ cs e fz, w.heap[a.block]? = some (.cells cs e fz) := by
  unfold World.cell? at h
  split at h
  · rename_i cs e fz hq; exact ⟨cs, e, fz, hq⟩
  · cases h
structure Lim (w : World) : Prop where
  pos : 1 ≤ w.heap.size
  stop : w.cell? ⟨0, 22, none⟩ = none
  l0 : ∀ k : Nat, k < 11 → w.cell? ⟨0, k * 2, none⟩ = some (vi (lo0 k)) ∧ w.cell? ⟨0, k * 2 + 1, none⟩ = some (vi (hi0 k))
theorem lim_of {W : World} (h : laidMet Tryz.prog [("wishbook/parcel.limits", Rows.laid_wishbook_parcel_limits)] W) : Lim W := by
  obtain ⟨ps, ⟨g0, t0, cs0, fuel0, p0, q0, hg0, ht0, hvar0, hd0, hr0, _⟩, _⟩ := h
  obtain rfl := Option.some.inj (g0N.symm.trans hg0)
  obtain rfl := Option.some.inj (g0T.symm.trans ht0)
  have L0 := lim0 hvar0 hd0
  have := (cell_none (L0 0 (by omega)).1).2
  simp only at this
  have hstop : W.cell? ⟨0, 22, none⟩ = none := by
    obtain ⟨xs, m, _, hx, hl, hlen, hf⟩ := DataW.trod_array g0U hd0
    have hcell := World.var?_cell g0N hvar0 22
    have hk : Tryz.prog.cellsOf 105 = 22 := by kernel_rfl
    rw [hcell]
    have hsz : cs0.size = 22 := by simpa [hk] using hl
    exact Array.getElem?_eq_none (by omega)
  exact ⟨by omega, hstop, L0⟩
noncomputable def laidWorld (os : Os) : World :=
  { World.holding Tryz.prog os ⟨#[], #[], []⟩ with heap := ((World.holding Tryz.prog os ⟨#[], #[], []⟩).heap.modify 0 (fun
      | .cells _ t frozen => .cells #[vi 1, vi 7, vi 1, vi 500, vi 1, vi 5000, vi 0, vi 10000, vi 1, vi 4, vi 0, vi 4, vi 1, vi 1000, vi 0, vi 1000, vi 1, vi 10000, vi 1, vi 5, vi 0, vi 20000] t frozen
      | o => o)) }
end Go.Proofs.YtcmkngajdckndaaGreatDoor
