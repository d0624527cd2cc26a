/- What produces books: its contract. -/
import Derived.RangeFuncNested
import Derived.RangeFuncBound
import Derived.RangeFuncCalls
import Derived.RangeFuncLeaves
import Derived.RangeFuncBox
import Derived.RangeFuncFrom
import Derived.Shelf.Abstract
import Derived.Shelf.RegionOpen
import Derived.WalkKit
import Derived.OwnWalkIn
import Derived.TacticsInMore
import Derived.LoopNIn
import Derived.LoopIn
import Derived.Maps.AppendAt
import Derived.Test.YtpcajmkmmkmekaaGreatDoorGe
import Derived.Test.YtpcajmkmmkmekaaGreatDoorGa
set_option linter.unusedVariables false
set_option linter.unusedSimpArgs false
namespace Go.Proofs.YtpcajmkmmkmekaaGreatDoor
open Go Go.RowKit Go.Shelf
attribute [local go_sem] Oper.semAt_some
/-- the books of which something is so, among the first k, with their numbers -/
def bk (l : List Issue) (q : Issue → Bool) (k : Nat) : List (Nat × Issue) :=
  (List.range k).filterMap fun i => match l[i]? with | some x => if q x then some (i, x) else none | none => none
theorem bk_zero (l : List Issue) (q : Issue → Bool) : bk l q 0 = [] := by simp [bk]
theorem bk_yes {l : List Issue} {q : Issue → Bool} {k : Nat} {x : Issue} (h : l[k]? = some x) (hq : q x = true) : bk l q (k + 1) = bk l q k ++ [(k, x)] := by
  simp [bk, List.range_succ, h, hq]
theorem bk_no {l : List Issue} {q : Issue → Bool} {k : Nat} {x : Issue} (h : l[k]? = some x) (hq : q x = false) : bk l q (k + 1) = bk l q k := by
  simp [bk, List.range_succ, h, hq]
theorem bk_len (l : List Issue) (q : Issue → Bool) (k : Nat) : (bk l q k).length ≤ k := by
  unfold bk
  refine Nat.le_trans (List.length_filterMap_le _ _) (by simp)
abbrev Bk (l : List Issue) (q : Issue → Bool) := { p : Nat × Issue // l[p.1]? = some p.2 ∧ q p.2 = true }
abbrev Bk.enc {l : List Issue} {q : Issue → Bool} (p : Bk l q) : Array Value := #[vi p.1.1, p.1.2.val]
abbrev Bks {l : List Issue} {q : Issue → Bool} (ys : List (Bk l q)) : List (Nat × Issue) := ys.map Subtype.val
theorem grown_of_below {w w' : World} (h : Below w.heap.size w w') : w.grownBy w' none :=
  ⟨h.os, h.tape, h.output, h.size, fun k hk _ => h.block k hk⟩
theorem abides_below {β : Type} {B : Nat} {J : β → World → Prop} (h : AbidesFrom B J) {s : β} {w w' : World} (hs : J s w) (hb : Below w.heap.size w w') : J s w' :=
  h s w w' none hs (grown_of_below hb) (fun r e => by cases e)
/-- whatever lay below n₀ lies as it lay, the block L aside -/
structure Spare (n₀ L : Nat) (w w' : World) : Prop where
  os : w'.os = w.os
  tape : w'.tape = w.tape
  output : w'.output = w.output
  size : w.heap.size ≤ w'.heap.size
  block : ∀ k, k < n₀ → k ≠ L → w'.heap[k]? = w.heap[k]?
theorem Spare.refl (n₀ L : Nat) (w : World) : Spare n₀ L w w := ⟨rfl, rfl, rfl, Nat.le_refl _, fun _ _ _ => rfl⟩
theorem Spare.trans {n₀ L : Nat} {a b c : World} (h : Spare n₀ L a b) (k : Spare n₀ L b c) : Spare n₀ L a c :=
  ⟨k.os.trans h.os, k.tape.trans h.tape, k.output.trans h.output, Nat.le_trans h.size k.size, fun i hi hl => (k.block i hi hl).trans (h.block i hi hl)⟩
theorem Below.spare {n₀ : Nat} {a b : World} (h : Below n₀ a b) (L : Nat) : Spare n₀ L a b := ⟨h.os, h.tape, h.output, h.size, fun k hk _ => h.block k hk⟩
theorem spare_of_below {n₀ B : Nat} {a b : World} (L : Nat) (h : Below B a b) (hn : n₀ ≤ B) : Spare n₀ L a b := ⟨h.os, h.tape, h.output, h.size, fun k hk _ => h.block k (by omega)⟩
theorem Spare.cell {n₀ L : Nat} {a b : World} (h : Spare n₀ L a b) {p : Addr} (hp : p.block < n₀) (hl : p.block ≠ L) : b.cell? p = a.cell? p := by
  simp [World.cell?, h.block _ hp hl]
theorem spareK_b {n₀ L : Nat} {w : World} (hn : n₀ ≤ w.heap.size) (W : World) (l : Nat) (o o' : Obj) (hl : w.heap.size ≤ l) (h : W.heap[l]? = some o) (h1 : o.isCells = false) (h2 : o.isWalk = false) : Spare n₀ L W (W.putObj l o') :=
  spare_of_below L (belowK_b hn W l o o' hl h h1 h2) (Nat.le_refl _)
theorem Spare.below {n₀ L : Nat} {a b : World} (h : Spare n₀ L a b) {B : Nat} (h1 : B ≤ n₀) (h2 : B ≤ L) : Below B a b :=
  ⟨h.os, h.tape, h.output, h.size, fun k hk => h.block k (by omega) (by omega)⟩
abbrev inUseQ (a b : Int) (x : Issue) : Bool := meetB x.lo x.hi a b
abbrev holdsQ (a b : Int) (x : Issue) : Bool := meetB x.lo x.held a b
set_option maxRecDepth 100000 in
set_option maxHeartbeats 2000000 in
theorem books1_inUse (a b : Int) (q : Issue → Bool) (hq : q = inUseQ a b) (n : Nat) (hn : 1 ≤ n) (l bR bS bD n₀ B₀ L : Nat) (A : Option Addr) (cap : Nat) (xs : List Issue) (J Jx : List (Bk xs q) → World → Prop) (W : World)
    (hJ : AbidesFrom W.heap.size J)
    (hY : ∀ pre x W1, J pre W1 → pre.length < xs.length → YieldAt Fence.wide (n - 1) Tryz.prog l x.enc W1 fun e W' =>
      (e = .returned (.bool true) ∧ J (pre ++ [x]) W' ∧ Spare n₀ L W1 W') ∨ (e = .returned (.bool false) ∧ Jx (pre ++ [x]) W'))
    (hn₀ : n₀ ≤ W.heap.size) (hB₀ : B₀ ≤ n₀) (hBL : B₀ ≤ L) (zS : bS < n₀) (zD : bD < n₀) (lS : bS ≠ L) (lD : bD ≠ L)
    (cR : W.cell? ⟨bR, 1, none⟩ = some (.slice A xs.length cap)) (cS : W.cell? ⟨bS, 0, none⟩ = some (.func (.func 99) #[] #[]))
    (cD : W.cell? ⟨bD, 0, none⟩ = some (vi a)) (cE : W.cell? ⟨bD, 1, none⟩ = some (vi b)) (hI : IssuesAt W B₀ A cap xs) (h0 : J [] W) :
    CallsIn Fence.wide n Tryz.prog 88 #[.func (.yield l) #[] #[], .pointer (some ⟨bR, 0, none⟩), .pointer (some ⟨bS, 0, none⟩), .pointer (some ⟨bD, 0, none⟩)] W fun e W' => (∃ v, e = .returned v) ∧
      ((∃ ys, Bks ys = bk xs q xs.length ∧ J ys W') ∨ (∃ pre, (∃ k, k ≤ xs.length ∧ Bks pre = bk xs q k) ∧ Jx pre W')) := by
  have hcap := hI.cap
  have hlen := hI.len
  have hcap2 : (xs.length : Int) ≤ 4398046511104 := by have := hI.few; omega
  refine callsIn_of_wp Tryz.func88 rfl trivial ?_ rfl
  simp only [Tryz.ntmps88, List.size_toArray, List.length_cons, List.length_nil, Nat.reduceAdd, Nat.reduceSub, Array.replicate_succ, Array.replicate_zero, List.push_toArray, List.append_toArray, List.nil_append, List.cons_append]
  gi_wp2
  gi_loopw [12] (fun i wr => ∃ (k : Nat) (ys : List (Bk xs q)), k ≤ xs.length ∧ i = .int .i64 k ∧ Bks ys = bk xs q k ∧ J ys wr ∧ Spare n₀ L W wr ∧ W.heap.size ≤ wr.heap.size)
    (fun i _ => xs.length - (intOf i).toNat)
  case atStart => exact ⟨0, [], Nat.zero_le _, rfl, by simp [bk_zero], h0, Spare.refl _ _ _, Nat.le_refl _⟩
  case round =>
    obtain ⟨k, ys, hk, rfl, hys, hJs, hnx, hsz⟩ := hrel
    by_cases hlt : k < xs.length
    · obtain ⟨x, hx⟩ : ∃ x, xs[k]? = some x := ⟨_, List.getElem?_eq_getElem hlt⟩
      obtain ⟨bb, off, hA, hb, c0, c1, c2, c3⟩ := row4 (hI.below (hnx.below hB₀ hBL)).row hx rfl
      subst hA
      have dS := (hnx.cell (p := ⟨bS, 0, none⟩) zS lS).trans cS
      have dD := (hnx.cell (p := ⟨bD, 0, none⟩) zD lD).trans cD
      have dE := (hnx.cell (p := ⟨bD, 1, none⟩) zD lD).trans cE
      have yS : bS < wr.heap.size := by omega
      have yD : bD < wr.heap.size := by omega
      have hcap3 : (xs.length : Int) ≤ 4398046511104 := by omega
      rcases hqx : q x with _ | _
      · have hqm : meetB x.lo x.hi a b = false := by rw [← hqx, hq]
        gi_wp2_with (refine ⟨trivial, ?_⟩; gi_at_call 99; refine (callsIn_wide.2 (isInUse_any x a b _)).mono ?_; rintro e w1 ⟨rfl, hb1⟩; rw [hqm])
        refine ⟨fun _ h => (by cases h), ?_⟩
        gi_wp2
        go_roundw
        case rel =>
          have hB9 : Below wr.heap.size wr w1 := by (repeat (first | exact Below.refl _ _ | refine Below.setCell ?_ (by first | omega | (simp; omega) | (simp; done)) _ | refine Below.alloc ?_ (by first | omega | (simp; omega) | (simp; done)) _ | refine Below.drew ?_ | refine below_drewN ?_ _ | refine Below.trans ?_ (Below.mono (by assumption) (by first | omega | (simp; omega) | (simp; done)))))
          have hz9 := hB9.size
          exact ⟨k + 1, ys, by omega, by go_num, by rw [bk_no hx hqx]; exact hys, abides_below hJ hJs hB9, hnx.trans (spare_of_below L hB9 (by omega)), by omega⟩
        case measure => simp [intOf]; omega
      · have hqm : meetB x.lo x.hi a b = true := by rw [← hqx, hq]
        gi_wp2
        refine ⟨trivial, ?_⟩
        refine (callsIn_wide.2 (isInUse_any x a b _)).mono ?_
        rintro e w1 ⟨rfl, hb1⟩
        rw [hqm]
        have hB9 : Below wr.heap.size wr w1 := by (repeat (first | exact Below.refl _ _ | refine Below.setCell ?_ (by first | omega | (simp; omega) | (simp; done)) _ | refine Below.alloc ?_ (by first | omega | (simp; omega) | (simp; done)) _ | refine Below.drew ?_ | refine below_drewN ?_ _ | refine Below.trans ?_ (Below.mono (by assumption) (by first | omega | (simp; omega) | (simp; done)))))
        have hz9 := hB9.size
        obtain ⟨fn, tmps, assign, body, hy, hR⟩ := hY ys ⟨(k, x), hx, hqx⟩ w1 (abides_below hJ hJs hB9) (by have h6 := congrArg List.length hys; have h7 := bk_len xs q k; rw [List.length_map] at h6; omega)
        dsimp only [Bk.enc] at hy
        have hcc0 := hb1.cell (p := ⟨wr.heap.size + 1, 0, none⟩) (by simp)
        have hcc1 := hb1.cell (p := ⟨wr.heap.size + 1, 1, none⟩) (by simp)
        have hcc2 := hb1.cell (p := ⟨wr.heap.size + 1, 2, none⟩) (by simp)
        have hcc3 := hb1.cell (p := ⟨wr.heap.size + 1, 3, none⟩) (by simp)
        gi_wp2
        refine hR.mono ?_
        clear hcc0 hcc1 hcc2 hcc3 hb1
        rintro e W3 (⟨rfl, hJ3, hk3⟩ | ⟨rfl, hJx3⟩)
        · have hk9 := hk3.size
          gi_wp2
          go_roundw
          case rel => exact ⟨k + 1, ys ++ [⟨(k, x), hx, hqx⟩], by omega, by go_num, by rw [bk_yes hx hqx, ← hys]; simp, hJ3, (hnx.trans (spare_of_below L hB9 (by omega))).trans hk3, by omega⟩
          case measure => simp [intOf]; omega
        · gi_wp2
          refine bodyPost_ret (results_none rfl _ _ _) rfl ?_
          exact ⟨⟨_, rfl⟩, .inr ⟨_, ⟨k + 1, by omega, by rw [bk_yes hx hqx, ← hys]; simp⟩, hJx3⟩⟩
    · obtain rfl : k = xs.length := by omega
      gi_wp2
      go_end0
      exact ⟨⟨_, rfl⟩, .inl ⟨ys, hys, hJs⟩⟩
set_option maxRecDepth 100000 in
set_option maxHeartbeats 2000000 in
theorem books1_holds (a b : Int) (q : Issue → Bool) (hq : q = holdsQ a b) (n : Nat) (hn : 1 ≤ n) (l bR bS bD n₀ B₀ L : Nat) (A : Option Addr) (cap : Nat) (xs : List Issue) (J Jx : List (Bk xs q) → World → Prop) (W : World)
    (hJ : AbidesFrom W.heap.size J)
    (hY : ∀ pre x W1, J pre W1 → pre.length < xs.length → YieldAt Fence.wide (n - 1) Tryz.prog l x.enc W1 fun e W' =>
      (e = .returned (.bool true) ∧ J (pre ++ [x]) W' ∧ Spare n₀ L W1 W') ∨ (e = .returned (.bool false) ∧ Jx (pre ++ [x]) W'))
    (hn₀ : n₀ ≤ W.heap.size) (hB₀ : B₀ ≤ n₀) (hBL : B₀ ≤ L) (zS : bS < n₀) (zD : bD < n₀) (lS : bS ≠ L) (lD : bD ≠ L)
    (cR : W.cell? ⟨bR, 1, none⟩ = some (.slice A xs.length cap)) (cS : W.cell? ⟨bS, 0, none⟩ = some (.func (.func 82) #[] #[]))
    (cD : W.cell? ⟨bD, 0, none⟩ = some (vi a)) (cE : W.cell? ⟨bD, 1, none⟩ = some (vi b)) (hI : IssuesAt W B₀ A cap xs) (h0 : J [] W) :
    CallsIn Fence.wide n Tryz.prog 88 #[.func (.yield l) #[] #[], .pointer (some ⟨bR, 0, none⟩), .pointer (some ⟨bS, 0, none⟩), .pointer (some ⟨bD, 0, none⟩)] W fun e W' => (∃ v, e = .returned v) ∧
      ((∃ ys, Bks ys = bk xs q xs.length ∧ J ys W') ∨ (∃ pre, (∃ k, k ≤ xs.length ∧ Bks pre = bk xs q k) ∧ Jx pre W')) := by
  have hcap := hI.cap
  have hlen := hI.len
  have hcap2 : (xs.length : Int) ≤ 4398046511104 := by have := hI.few; omega
  refine callsIn_of_wp Tryz.func88 rfl trivial ?_ rfl
  simp only [Tryz.ntmps88, List.size_toArray, List.length_cons, List.length_nil, Nat.reduceAdd, Nat.reduceSub, Array.replicate_succ, Array.replicate_zero, List.push_toArray, List.append_toArray, List.nil_append, List.cons_append]
  gi_wp2
  gi_loopw [12] (fun i wr => ∃ (k : Nat) (ys : List (Bk xs q)), k ≤ xs.length ∧ i = .int .i64 k ∧ Bks ys = bk xs q k ∧ J ys wr ∧ Spare n₀ L W wr ∧ W.heap.size ≤ wr.heap.size)
    (fun i _ => xs.length - (intOf i).toNat)
  case atStart => exact ⟨0, [], Nat.zero_le _, rfl, by simp [bk_zero], h0, Spare.refl _ _ _, Nat.le_refl _⟩
  case round =>
    obtain ⟨k, ys, hk, rfl, hys, hJs, hnx, hsz⟩ := hrel
    by_cases hlt : k < xs.length
    · obtain ⟨x, hx⟩ : ∃ x, xs[k]? = some x := ⟨_, List.getElem?_eq_getElem hlt⟩
      obtain ⟨bb, off, hA, hb, c0, c1, c2, c3⟩ := row4 (hI.below (hnx.below hB₀ hBL)).row hx rfl
      subst hA
      have dS := (hnx.cell (p := ⟨bS, 0, none⟩) zS lS).trans cS
      have dD := (hnx.cell (p := ⟨bD, 0, none⟩) zD lD).trans cD
      have dE := (hnx.cell (p := ⟨bD, 1, none⟩) zD lD).trans cE
      have yS : bS < wr.heap.size := by omega
      have yD : bD < wr.heap.size := by omega
      have hcap3 : (xs.length : Int) ≤ 4398046511104 := by omega
      rcases hqx : q x with _ | _
      · have hqm : meetB x.lo x.held a b = false := by rw [← hqx, hq]
        gi_wp2_with (refine ⟨trivial, ?_⟩; gi_at_call 82; refine (callsIn_wide.2 (holdsPrices_any x a b _)).mono ?_; rintro e w1 ⟨rfl, hb1⟩; rw [hqm])
        refine ⟨fun _ h => (by cases h), ?_⟩
        gi_wp2
        go_roundw
        case rel =>
          have hB9 : Below wr.heap.size wr w1 := by (repeat (first | exact Below.refl _ _ | refine Below.setCell ?_ (by first | omega | (simp; omega) | (simp; done)) _ | refine Below.alloc ?_ (by first | omega | (simp; omega) | (simp; done)) _ | refine Below.drew ?_ | refine below_drewN ?_ _ | refine Below.trans ?_ (Below.mono (by assumption) (by first | omega | (simp; omega) | (simp; done)))))
          have hz9 := hB9.size
          exact ⟨k + 1, ys, by omega, by go_num, by rw [bk_no hx hqx]; exact hys, abides_below hJ hJs hB9, hnx.trans (spare_of_below L hB9 (by omega)), by omega⟩
        case measure => simp [intOf]; omega
      · have hqm : meetB x.lo x.held a b = true := by rw [← hqx, hq]
        gi_wp2
        refine ⟨trivial, ?_⟩
        refine (callsIn_wide.2 (holdsPrices_any x a b _)).mono ?_
        rintro e w1 ⟨rfl, hb1⟩
        rw [hqm]
        have hB9 : Below wr.heap.size wr w1 := by (repeat (first | exact Below.refl _ _ | refine Below.setCell ?_ (by first | omega | (simp; omega) | (simp; done)) _ | refine Below.alloc ?_ (by first | omega | (simp; omega) | (simp; done)) _ | refine Below.drew ?_ | refine below_drewN ?_ _ | refine Below.trans ?_ (Below.mono (by assumption) (by first | omega | (simp; omega) | (simp; done)))))
        have hz9 := hB9.size
        obtain ⟨fn, tmps, assign, body, hy, hR⟩ := hY ys ⟨(k, x), hx, hqx⟩ w1 (abides_below hJ hJs hB9) (by have h6 := congrArg List.length hys; have h7 := bk_len xs q k; rw [List.length_map] at h6; omega)
        dsimp only [Bk.enc] at hy
        have hcc0 := hb1.cell (p := ⟨wr.heap.size + 1, 0, none⟩) (by simp)
        have hcc1 := hb1.cell (p := ⟨wr.heap.size + 1, 1, none⟩) (by simp)
        have hcc2 := hb1.cell (p := ⟨wr.heap.size + 1, 2, none⟩) (by simp)
        have hcc3 := hb1.cell (p := ⟨wr.heap.size + 1, 3, none⟩) (by simp)
        gi_wp2
        refine hR.mono ?_
        clear hcc0 hcc1 hcc2 hcc3 hb1
        rintro e W3 (⟨rfl, hJ3, hk3⟩ | ⟨rfl, hJx3⟩)
        · have hk9 := hk3.size
          gi_wp2
          go_roundw
          case rel => exact ⟨k + 1, ys ++ [⟨(k, x), hx, hqx⟩], by omega, by go_num, by rw [bk_yes hx hqx, ← hys]; simp, hJ3, (hnx.trans (spare_of_below L hB9 (by omega))).trans hk3, by omega⟩
          case measure => simp [intOf]; omega
        · gi_wp2
          refine bodyPost_ret (results_none rfl _ _ _) rfl ?_
          exact ⟨⟨_, rfl⟩, .inr ⟨_, ⟨k + 1, by omega, by rw [bk_yes hx hqx, ← hys]; simp⟩, hJx3⟩⟩
    · obtain rfl : k = xs.length := by omega
      gi_wp2
      go_end0
      exact ⟨⟨_, rfl⟩, .inl ⟨ys, hys, hJs⟩⟩
end Go.Proofs.YtpcajmkmmkmekaaGreatDoor

/- books, and what walks over it. -/
namespace Go.Proofs.YtpcajmkmmkmekaaGreatDoor
open Go Go.RowKit Go.Shelf
set_option maxHeartbeats 1000000
/-- the value that books produces, and what it holds -/
structure BooksAt (w : World) (g bR bS bD : Nat) (A : Option Addr) (n cap : Nat) (a b : Int) : Prop where
  cR : w.cell? ⟨bR, 1, none⟩ = some (.slice A n cap)
  cS : w.cell? ⟨bS, 0, none⟩ = some (.func (.func g) #[] #[])
  cD : w.cell? ⟨bD, 0, none⟩ = some (vi a)
  cE : w.cell? ⟨bD, 1, none⟩ = some (vi b)
  zR : bR < w.heap.size
  zS : bS < w.heap.size
  zD : bD < w.heap.size
abbrev booksV (bR bS bD : Nat) : Value := .func (.func 88) #[] #[.pointer (some ⟨bR, 0, none⟩), .pointer (some ⟨bS, 0, none⟩), .pointer (some ⟨bD, 0, none⟩)]
theorem pick_so (f g : Value) (w : World) : (Instr.index 140 (.agg #[f, g]) (vi 0)).run Tryz.prog w = .ok f w ∧ (Instr.index 140 (.agg #[f, g]) (vi 1)).run Tryz.prog w = .ok g w := by
  refine ⟨by kernel_rfl, by kernel_rfl⟩
theorem tellings_any (w : World) :
    Calls Tryz.prog 87 #[] w fun e w' => e = .returned (.agg #[.func (.func 99) #[] #[], .func (.func 82) #[] #[]]) ∧ Below w.heap.size w w' := by
  go_enter Tryz.func87, Tryz.ntmps87
  go_wp2
  go_returns
  refine ⟨rfl, ?_⟩
  (repeat (first | exact Below.refl _ _ | refine Below.setCell ?_ (by first | omega | (simp; omega) | (simp; done)) _ | refine Below.alloc ?_ (by first | omega | (simp; omega) | (simp; done)) _ | refine Below.drew ?_ | refine below_drewN ?_ _ | refine Below.trans ?_ (Below.mono (by assumption) (by first | omega | (simp; omega) | (simp; done)))))
set_option maxRecDepth 100000 in
theorem books_inUse (r : Rack) (a b : Int) (w : World) :
    Calls Tryz.prog 70 #[r.val, vi 0, .agg #[vi a, vi b]] w fun e w' => ∃ bR bS bD, e = .returned (booksV bR bS bD) ∧ (w.heap.size ≤ bR ∧ w.heap.size ≤ bS ∧ w.heap.size ≤ bD) ∧ BooksAt w' 99 bR bS bD r.ad r.issues.length r.cap a b ∧ Below w.heap.size w w' := by
  have hpk := pick_so (.func (.func 99) #[] #[]) (.func (.func 82) #[] #[])
  go_enter Tryz.func70, Tryz.ntmps70
  go_wp2_with (go_at_call 87; refine (tellings_any _).mono ?_; rintro e w1 ⟨rfl, hb1⟩; obtain ⟨⟨hc1, hf1, hs1⟩, hz1⟩ := after hb1; (try simp only [World.size_alloc, World.size_setCell, World.size_drew] at hz1); have hq1 : w.heap.size < w1.heap.size := (by omega); have hq2 : w.heap.size + 1 < w1.heap.size := (by omega))
  go_ret
  refine ⟨_, _, _, rfl, ⟨Nat.le_refl _, by omega, by omega⟩, ⟨by simp [go_sem, *], by simp [go_sem, *], by simp [go_sem, *], by simp [go_sem, *], by simp; omega, by simp, by simp; omega⟩, ?_⟩
  (repeat (first | exact Below.refl _ _ | refine Below.setCell ?_ (by first | omega | (simp; omega) | (simp; done)) _ | refine Below.alloc ?_ (by first | omega | (simp; omega) | (simp; done)) _ | refine Below.drew ?_ | refine below_drewN ?_ _ | refine Below.trans ?_ (Below.mono (by assumption) (by first | omega | (simp; omega) | (simp; done)))))
set_option maxRecDepth 100000 in
theorem books_holds (r : Rack) (a b : Int) (w : World) :
    Calls Tryz.prog 70 #[r.val, vi 1, .agg #[vi a, vi b]] w fun e w' => ∃ bR bS bD, e = .returned (booksV bR bS bD) ∧ (w.heap.size ≤ bR ∧ w.heap.size ≤ bS ∧ w.heap.size ≤ bD) ∧ BooksAt w' 82 bR bS bD r.ad r.issues.length r.cap a b ∧ Below w.heap.size w w' := by
  have hpk := pick_so (.func (.func 99) #[] #[]) (.func (.func 82) #[] #[])
  go_enter Tryz.func70, Tryz.ntmps70
  go_wp2_with (go_at_call 87; refine (tellings_any _).mono ?_; rintro e w1 ⟨rfl, hb1⟩; obtain ⟨⟨hc1, hf1, hs1⟩, hz1⟩ := after hb1; (try simp only [World.size_alloc, World.size_setCell, World.size_drew] at hz1); have hq1 : w.heap.size < w1.heap.size := (by omega); have hq2 : w.heap.size + 1 < w1.heap.size := (by omega))
  go_ret
  refine ⟨_, _, _, rfl, ⟨Nat.le_refl _, by omega, by omega⟩, ⟨by simp [go_sem, *], by simp [go_sem, *], by simp [go_sem, *], by simp [go_sem, *], by simp; omega, by simp, by simp; omega⟩, ?_⟩
  (repeat (first | exact Below.refl _ _ | refine Below.setCell ?_ (by first | omega | (simp; omega) | (simp; done)) _ | refine Below.alloc ?_ (by first | omega | (simp; omega) | (simp; done)) _ | refine Below.drew ?_ | refine below_drewN ?_ _ | refine Below.trans ?_ (Below.mono (by assumption) (by first | omega | (simp; omega) | (simp; done)))))
end Go.Proofs.YtpcajmkmmkmekaaGreatDoor

/- What books produces; means. -/
namespace Go.Proofs.YtpcajmkmmkmekaaGreatDoor
open Go Go.RowKit Go.Shelf
set_option maxHeartbeats 1000000
attribute [local go_sem] Oper.semAt_some
theorem ownFrom_spare {β : Type} {n₀ B L : Nat} {w₀ : World} (hn : n₀ ≤ w₀.heap.size) (hB : n₀ ≤ B) : OwnFrom B (fun (_ : β) W => Spare n₀ L w₀ W) := by
  intro s X Y row hs hg hr
  refine hs.trans ⟨hg.os, hg.tape, hg.output, hg.size, fun k hk _ => ?_⟩
  exact hg.block k (by have := hs.size; omega) fun e => by have := (hr k e.symm).1; omega
theorem appended_spare {W w1 : World} {n₀ B : Nat} {t e : TypeId} {size : Nat} {v v' : Value} {k m : Nat} {xs ys : List Value} {tmp : Obj}
    (hv : Boxed W B t v) (hte : t ≠ e) (hrow : W.ownsRow n₀ e size v k xs) (hn₀ : n₀ ≤ W.heap.size)
    (hown' : w1.ownsRow n₀ e size v' m ys) (hgrow : (W.alloc tmp).grownBy w1 v.ownBlock) :
    Boxed w1 B t v ∧ Boxed (w1.setCell ⟨B, 0, none⟩ v') B t v' ∧ (w1.setCell ⟨B, 0, none⟩ v').ownsRow n₀ e size v' m ys ∧ KeepsOthers W (w1.setCell ⟨B, 0, none⟩ v') ∧ Spare n₀ B W (w1.setCell ⟨B, 0, none⟩ v') := by
  obtain ⟨h1, h2, _, h4, h5⟩ := hv.appended hte (own_base hrow (Nat.zero_le _)) (Nat.zero_le _) (Nat.zero_le _) (own_base hown' (Nat.zero_le _)) hgrow
  refine ⟨h1, h2, hown'.kept (grownBy_setCell' w1 B v') (.inr (h1.not_row hte hown').symm), h4, h5.os, h5.tape, h5.output, h5.size, fun i hi hb => ?_⟩
  have g1 := (grownBy_setCell' w1 B v').block i (by have := hgrow.size; simp at this; omega) (by simpa using hb)
  have g2 := hgrow.block i (by simp; omega) (fun e => by have := (hrow.lt i e.symm).1; omega)
  rw [g1, g2]
  exact Below.heap_alloc _ _ _ (by omega)
theorem books_stops_inUse (n : Nat) (hn : 1 ≤ n) (a b : Int) (bR bS bD B₀ L : Nat) (A : Option Addr) (cap : Nat) (xs : List Issue) (w : World) (h : BooksAt w 99 bR bS bD A xs.length cap a b)
    (hB₀ : B₀ ≤ w.heap.size) (hBL : B₀ ≤ L) (lS : bS ≠ L) (lD : bD ≠ L) (hI : IssuesAt w B₀ A cap xs) :
    SeqStopsK Fence.wide n Tryz.prog 88 #[.pointer (some ⟨bR, 0, none⟩), .pointer (some ⟨bS, 0, none⟩), .pointer (some ⟨bD, 0, none⟩)] (Bk.enc (l := xs) (q := inUseQ a b)) (Spare w.heap.size L)
      (fun ys => Bks ys = bk xs (inUseQ a b) xs.length) (fun pre => ∃ k, k ≤ xs.length ∧ Bks pre = bk xs (inUseQ a b) k) xs.length w := fun l J Jx W hW hJ hJx hY h0 => by
  exact books1_inUse a b _ rfl n hn l bR bS bD w.heap.size B₀ L A cap xs J Jx W hJ hY hW.size hB₀ hBL h.zS h.zD lS lD ((hW.cell (p := ⟨bR, 1, none⟩) h.zR).trans h.cR) ((hW.cell (p := ⟨bS, 0, none⟩) h.zS).trans h.cS)
    ((hW.cell (p := ⟨bD, 0, none⟩) h.zD).trans h.cD) ((hW.cell (p := ⟨bD, 1, none⟩) h.zD).trans h.cE) (hI.below (hW.mono hB₀)) h0
theorem books_stops_holds (n : Nat) (hn : 1 ≤ n) (a b : Int) (bR bS bD B₀ L : Nat) (A : Option Addr) (cap : Nat) (xs : List Issue) (w : World) (h : BooksAt w 82 bR bS bD A xs.length cap a b)
    (hB₀ : B₀ ≤ w.heap.size) (hBL : B₀ ≤ L) (lS : bS ≠ L) (lD : bD ≠ L) (hI : IssuesAt w B₀ A cap xs) :
    SeqStopsK Fence.wide n Tryz.prog 88 #[.pointer (some ⟨bR, 0, none⟩), .pointer (some ⟨bS, 0, none⟩), .pointer (some ⟨bD, 0, none⟩)] (Bk.enc (l := xs) (q := holdsQ a b)) (Spare w.heap.size L)
      (fun ys => Bks ys = bk xs (holdsQ a b) xs.length) (fun pre => ∃ k, k ≤ xs.length ∧ Bks pre = bk xs (holdsQ a b) k) xs.length w := fun l J Jx W hW hJ hJx hY h0 => by
  exact books1_holds a b _ rfl n hn l bR bS bD w.heap.size B₀ L A cap xs J Jx W hJ hY hW.size hB₀ hBL h.zS h.zD lS lD ((hW.cell (p := ⟨bR, 1, none⟩) h.zR).trans h.cR) ((hW.cell (p := ⟨bS, 0, none⟩) h.zS).trans h.cS)
    ((hW.cell (p := ⟨bD, 0, none⟩) h.zD).trans h.cD) ((hW.cell (p := ⟨bD, 1, none⟩) h.zD).trans h.cE) (hI.below (hW.mono hB₀)) h0
def meantC (p : Int × Int) : List Value := [vi p.1, vi p.2]
def meantL (n : Int) (bs : List (Nat × Issue)) : List (Int × Int) := bs.filterMap fun p => (numGood p.2 n).map fun g => ((p.1 : Int), g)
theorem goodsF_at {l : List Issue} {i : Nat} {x : Issue} (h : l[i]? = some x) (n : Int) : goodsF l i n = numGood x n := by
  have := (List.getElem?_eq_some_iff.1 h).1
  unfold goodsF
  rw [if_pos (by omega)]
  simp [h]
theorem meant_no {n : Int} {bs : List (Nat × Issue)} {i : Nat} {x : Issue} (h : numGood x n = none) : meantL n (bs ++ [(i, x)]) = meantL n bs := by simp [meantL, h]
theorem meant_yes {n g : Int} {bs : List (Nat × Issue)} {i : Nat} {x : Issue} (h : numGood x n = some g) : meantL n (bs ++ [(i, x)]) = meantL n bs ++ [((i : Int), g)] := by simp [meantL, h]
theorem meant_len (n : Int) (bs : List (Nat × Issue)) : (meantL n bs).length ≤ bs.length := List.length_filterMap_le _ _
theorem cells_new (w : World) (xs : List Value) (t : TypeId) : ∀ j u, xs[j]? = some u → (w.alloc (.cells xs.toArray t)).cell? ((⟨w.heap.size, 0, none⟩ : Addr).add j) = some u := by
  intro j u hj
  have := World.alloc_heap_new w (.cells xs.toArray t)
  have e : (⟨w.heap.size, 0, none⟩ : Addr).add j = ⟨w.heap.size, j, none⟩ := by
    simp only [Addr.add]
    split <;> simp_all
  rw [e]
  unfold World.cell?
  dsimp only
  rw [this]
  simp [hj]
theorem info_meant : (Tryz.prog.info? 70).map (fun i => (i.zero, i.size, i.bytes)) = some (some (.agg #[vi 0, vi 0]), 2, 16) := by kernel_rfl
set_option maxRecDepth 100000 in
theorem means_any (r : Rack) (a b number : Int) (w : World) (hv : validB r = true) (h : RackAt w w.heap.size r) :
    Calls Tryz.prog 29 #[r.val, .agg #[vi a, vi b], vi number] w fun e w' => ∃ v, e = .returned v ∧ RowsOut 2 ((meantL number (bk r.issues (inUseQ a b) r.issues.length)).map meantC) w v w' := by
  obtain ⟨i0, hi, hy0, hy1, hy2⟩ := info_parts info_meant
  refine (callsIn_wide (n := 6)).1 ?_
  refine callsIn_of_wp_marks Tryz.func29 rfl trivial ?_ rfl
  simp only [Tryz.ntmps29, List.size_toArray, List.length_cons, List.length_nil, Nat.reduceAdd, Nat.reduceSub, Array.replicate_succ, Array.replicate_zero, List.push_toArray, List.append_toArray, List.nil_append, List.cons_append]
  gi_wp2_with fail
  refine ⟨trivial, ?_⟩
  refine (callsIn_wide.2 (goods_any r _ hv (RackAt.to h (by (repeat (first | exact Below.refl _ _ | refine Below.setCell ?_ (by first | omega | (simp; omega) | (simp; done)) _ | refine Below.alloc ?_ (by first | omega | (simp; omega) | (simp; done)) _ | refine Below.drew ?_ | refine below_drewN ?_ _ | refine Below.trans ?_ (Below.mono (by assumption) (by first | omega | (simp; omega) | (simp; done))))))))).mono ?_
  rintro e w1 ⟨bm, rfl, hbm, hP, hb1⟩
  obtain ⟨⟨hc1, hf1, hs1⟩, hz1⟩ := after hb1
  (try simp only [World.size_alloc, World.size_setCell, World.size_drew] at hz1)
  have hq1 : w.heap.size < w1.heap.size := by omega
  have hq2 : w.heap.size + 1 < w1.heap.size := by omega
  have hq3 : w.heap.size + 1 + 1 < w1.heap.size := by omega
  have hB1 : Below w.heap.size w w1 := by (repeat (first | exact Below.refl _ _ | refine Below.setCell ?_ (by first | omega | (simp; omega) | (simp; done)) _ | refine Below.alloc ?_ (by first | omega | (simp; omega) | (simp; done)) _ | refine Below.drew ?_ | refine below_drewN ?_ _ | refine Below.trans ?_ (Below.mono (by assumption) (by first | omega | (simp; omega) | (simp; done)))))
  gi_wp2_with fail
  refine ⟨trivial, ?_⟩
  refine (callsIn_wide.2 (books_inUse r a b _)).mono ?_
  rintro e w2 ⟨bR, bS, bD, rfl, ⟨y1, y2, y3⟩, hBk, hb2⟩
  gi_wp2_with fail
  have hz2 := hb2.size
  simp only [World.size_alloc] at hz2 y1 y2 y3 hbm
  have bL : Boxed w2 (w1.heap.size + 1) 28 (.slice none 0 0) := by
    refine (hb2.block (w1.heap.size + 1) (by simp)).trans ?_
    have := Boxed.new (w1.alloc (.cells #[.map (some bm)] 76)) 28 (.slice none 0 0)
    rwa [World.size_alloc] at this
  have cN : w2.cell? ⟨w.heap.size + 1 + 1, 0, none⟩ = some (vi number) := by
    rw [hb2.cell (p := ⟨w.heap.size + 1 + 1, 0, none⟩) (by simp; omega)]
    simp [go_sem, hc1, hq1, hq2, hq3, Nat.ne_of_lt hq3]
  have cG : w2.cell? ⟨w1.heap.size, 0, none⟩ = some (.map (some bm)) := by
    rw [hb2.cell (p := ⟨w1.heap.size, 0, none⟩) (by simp; omega)]
    simp [go_sem]
  have hbm1 : bm < w1.heap.size := hP.lt
  have hP2 : PlaceMap w2 bm (goodsF r.issues) := hP.below ((((Below.refl _ w1).alloc (Nat.le_refl _) _).alloc (by simp) _).trans (hb2.mono (by simp; omega))) hbm1
  have hB2 : Below w.heap.size w w2 := ((hB1.alloc (by omega) _).alloc (by simp; omega) _).trans (hb2.mono (by simp; omega))
  clear hc1 hf1 hs1 hb1 hb2 hP
  refine wpIn_rangeFunc_ownG rfl (by omega) (gf := 88) (lb := #[.pointer (some ⟨bR, 0, none⟩), .pointer (some ⟨bS, 0, none⟩), .pointer (some ⟨bD, 0, none⟩)]) rfl trivial (enters_of Tryz.func88 (by kernel_rfl) rfl)
    (books_stops_inUse _ (by omega) a b bR bS bD w.heap.size (w1.heap.size + 1) r.ad r.cap r.issues w2 hBk (by omega) (by omega) (by omega) (by omega) (h.below hB2)) (fun h k => Spare.trans h k) (spareK_b (Nat.le_refl _)) (Below.refl _ _) (fun _ => rfl)
    (fun pre W => (∃ v, Boxed W (w1.heap.size + 1) 28 v ∧ W.ownsRow w2.heap.size 70 2 v (meantL number (Bks pre)).length ((meantL number (Bks pre)).map meantC).flatten ∧ True) ∧ Spare w2.heap.size (w1.heap.size + 1) w2 W)
    (fun _ _ _ => False)
    (OwnFrom.and (Own.from (holdsRow_own w2.heap.size (w1.heap.size + 1) 28 70 2 (fun pre => (meantL number (Bks pre)).length) (fun pre => ((meantL number (Bks pre)).map meantC).flatten) (fun _ _ => True)) _) (ownFrom_spare (Nat.le_refl _) (Nat.le_refl _)))
    (fun _ _ _ _ _ hs _ _ => hs)
    ⟨⟨_, bL, World.ownsRow_nil _ _ _ _, trivial⟩, Spare.refl _ _ _⟩
    (fun x => { tmps := #[r.val, .agg #[vi a, vi b], vi number, .pointer (some ⟨w.heap.size, 0, none⟩), .pointer (some ⟨w.heap.size + 1, 0, none⟩), .pointer (some ⟨w.heap.size + 1 + 1, 0, none⟩), .slice none 0 0, .pointer (some ⟨w1.heap.size, 0, none⟩), .pointer (some ⟨w1.heap.size + 1, 0, none⟩), vi x.1.1, undef, undef, r.val, .map (some bm), r.val, .agg #[vi a, vi b], booksV bR bS bD, vi x.1.1, x.1.2.val, undef, undef, undef, undef, undef, undef, undef, undef, undef, undef, undef, undef, undef, undef, undef, undef, undef, undef, undef, undef, undef], defers := [] }) ?assign ?body ?done ?stop
  case assign =>
    intro l x W K hK
    gi_wp2
    exact hK
  case body =>
    rintro l pre ⟨⟨i, x⟩, hx, hqx⟩ W ⟨⟨v, hv, hrow, _⟩, hS⟩ hlt
    have dL := hv.cell
    have dN := (hS.cell (p := ⟨w.heap.size + 1 + 1, 0, none⟩) (by simp; omega) (by simp; omega)).trans cN
    have dG := (hS.cell (p := ⟨w1.heap.size, 0, none⟩) (by simp; omega) (by simp)).trans cG
    have hP3 : PlaceMap W bm (goodsF r.issues) := hP2.keep (hS.block bm (by omega) (by omega))
    have hlk := look_place hP3 i number true
    rw [goodsF_at hx] at hlk
    have hcap := IssuesAt.cap h
    have hfew := IssuesAt.few h
    have hlen := IssuesAt.len h
    have hml : (meantL number (Bks pre)).length ≤ pre.length := by have := meant_len number (Bks pre); rwa [List.length_map] at this
    have hs9 := hS.size
    rcases hg : numGood x number with _ | g
    · have hno : meantL number (Bks (pre ++ [⟨(i, x), hx, hqx⟩])) = meantL number (Bks pre) := by rw [Bks, List.map_append]; exact meant_no hg
      have Hno := Lib.hid hno
      simp only [hg, Option.getD_none, Option.isSome_none, if_true] at hlk
      clear hno
      gi_wp2
      refine ⟨KeepsFrom.refl _ _, Spare.refl _ _ _, ?_⟩
      show (∃ v, Boxed W (w1.heap.size + 1) 28 v ∧ W.ownsRow w2.heap.size 70 2 v (meantL number (Bks (pre ++ [⟨(i, x), hx, hqx⟩]))).length ((meantL number (Bks (pre ++ [⟨(i, x), hx, hqx⟩]))).map meantC).flatten ∧ True) ∧ Spare w2.heap.size (w1.heap.size + 1) w2 W
      rw [Hno.out]
      exact ⟨⟨v, hv, hrow, trivial⟩, hS⟩
    · have hyes : meantL number (Bks (pre ++ [⟨(i, x), hx, hqx⟩])) = meantL number (Bks pre) ++ [((i : Int), g)] := by rw [Bks, List.map_append]; exact meant_yes hg
      have Hyes := Lib.hid hyes
      simp only [hg, Option.getD_some, Option.isSome_some, if_true] at hlk
      clear hyes
      have hp : pre.length < r.issues.length := hlt
      gi_wp2_with (gi_at_builtin; go_loud (refine wpListIn_append_own _ rfl _ _ 28 rfl w2.heap.size 70 i0 (.agg #[vi 0, vi 0]) 2 16 Tryz.underlying28 hi hy0 hy1 hy2 rfl (by decide) _ _ _ rfl (hrow.alloc _) ⟨W.heap.size, 0, none⟩ 1 1 [vi i, vi g] rfl rfl (cells_new W [vi i, vi g] _) (by simp [Value.oneCell']) (by unfold maxLen; omega) (by first | omega | (simp; omega) | (simp; done)) (by first | omega | (simp; omega) | (simp; done)) ?_; intro v' w3 hown' hgrow _; obtain ⟨g', cap', rfl⟩ := ownsRow_succ hown'; obtain ⟨hv1, hv2, hr2, hk2, hb2⟩ := appended_spare hv (by decide) hrow (by omega) hown' hgrow; have hc3 := hv1.cell; have hf3 := hv1.frozen))
      refine ⟨hk2.from _, hb2, ?_⟩
      show (∃ v, Boxed _ (w1.heap.size + 1) 28 v ∧ World.ownsRow _ w2.heap.size 70 2 v (meantL number (Bks (pre ++ [⟨(i, x), hx, hqx⟩]))).length ((meantL number (Bks (pre ++ [⟨(i, x), hx, hqx⟩]))).map meantC).flatten ∧ True) ∧ Spare w2.heap.size (w1.heap.size + 1) w2 _
      rw [Hyes.out]
      refine ⟨⟨_, hv2, ?_, trivial⟩, hS.trans hb2⟩
      simpa [meantC] using hr2
  case done =>
    rintro D ys W hD hys ⟨⟨v, hv, hrow, _⟩, hS⟩ hK
    have hc := hv.cell
    have hs9 := hS.size
    have hcap := IssuesAt.cap h
    have hfew := IssuesAt.few h
    have hlen := IssuesAt.len h
    have hml : (meantL number (Bks ys)).length ≤ (r.issues.length) := by have := meant_len number (Bks ys); have h7 := bk_len r.issues (inUseQ a b) r.issues.length; rw [hys] at this ⊢; omega
    have hfin : Below w.heap.size w (W.putObj D (.deferred none)) := (hB2.trans (hS.below (by omega) (by omega))).trans (belowK_b (w := w) (Nat.le_refl _) W D _ _ (by omega) hK rfl rfl)
    have hrow' := ownsRow_putObj hrow (.deferred none) hK rfl
    have HYS := Lib.hid hys
    clear hys
    rcases hrow.2 with ⟨rfl, h0⟩ | ⟨g, c, cur, rfl, hg, hh, hnc, hcm, _⟩
    · have h00 : meantL number (Bks ys) = [] := List.eq_nil_of_length_eq_zero h0
      gi_wp2
      refine ⟨by simp, .inl ⟨_, _, rfl, run_takeDeferred hK, ?_⟩⟩
      rw [← HYS.out]
      refine ⟨_, results_tmp rfl _ _ _, _, rfl, ⟨none, 0, by rw [h00]; rfl, by rw [h00]; exact Nat.le_refl _, by omega, ?_⟩, hfin⟩
      rw [h00]
      exact ⟨fun hl => absurd hl (by simp), fun hl => absurd hl (by simp)⟩
    · have hcm' : ((meantL number (Bks ys)).length : Int) ≤ c := by omega
      gi_wp2
      refine ⟨by simp, .inl ⟨_, _, rfl, run_takeDeferred hK, ?_⟩⟩
      rw [← HYS.out]
      refine ⟨_, results_tmp rfl _ _ _, _, rfl, ⟨some ⟨g, 0, none⟩, (meantL number (Bks ys)).length, by simp, by simp, by omega, ?_⟩, hfin⟩
      exact ⟨row_of_own (by intro r hr; obtain ⟨p, _, rfl⟩ := List.mem_map.1 hr; rfl) hrow', fun _ => ⟨g, 0, rfl, by have := hB2.size; omega⟩⟩
  case stop =>
    rintro D c pre W _ _ h _
    exact h.elim
end Go.Proofs.YtpcajmkmmkmekaaGreatDoor

/- Contracts of Means. -/
namespace Go.Proofs.YtpcajmkmmkmekaaGreatDoor
open Go Go.RowKit
set_option maxHeartbeats 1000000
def meansAsk (a b n : Int) : Bool := limS 3 a b && limB 4 n
def meansErr (r : Rack) (a b n : Int) : Int := if validB r then if meansAsk a b n then 0 else 11 else 10
def meansL (r : Rack) (a b n : Int) : List (Int × Int) := if validB r && meansAsk a b n then meantL n (bk r.issues (inUseQ a b) r.issues.length) else []
theorem means_ (r : Rack) (a b n : Int) (w : World) (hl : Lim w) (hr : RackAt w w.heap.size r) :
    Calls Tryz.prog 6 #[r.val, .agg #[vi a, vi b], vi n] w fun e w' => ∃ v, e = .returned (.tuple #[v, vi (meansErr r a b n)]) ∧ RowsOut 2 ((meansL r a b n).map meantC) w v w' := by
  rcases hv : validB r with _ | _
  · have E : Hid (meansErr r a b n = 10 ∧ meansL r a b n = []) := by simp [meansErr, meansL, hv, Hid]
    go_enter Tryz.func6, Tryz.ntmps6
    go_wp2_with (go_at_call 9; refine (check_bad r _ (by repeat (first | assumption | refine Lim.alloc ?_ _ | refine Lim.setCell ?_ (by first | (simp; done) | (simp; omega) | omega) _ | refine Lim.drew ?_)) (hr.to (by (repeat (first | exact Below.refl _ _ | refine Below.setCell ?_ (by first | omega | (simp; omega) | (simp; done)) _ | refine Below.alloc ?_ (by first | omega | (simp; omega) | (simp; done)) _ | refine Below.drew ?_ | refine below_drewN ?_ _ | refine Below.trans ?_ (Below.mono (by assumption) (by first | omega | (simp; omega) | (simp; done))))))) hv).mono ?_; rintro e w1 ⟨rfl, hb1⟩; obtain ⟨⟨hc1, hf1, hs1⟩, hz1⟩ := after hb1; (try simp only [World.size_alloc, World.size_setCell, World.size_drew] at hz1))
    go_ret2
    refine ⟨_, by rw [E.out.1]; rfl, ?_⟩
    rw [E.out.2]
    refine RowsOut.nil ?_
    (repeat (first | exact Below.refl _ _ | refine Below.setCell ?_ (by first | omega | (simp; omega) | (simp; done)) _ | refine Below.alloc ?_ (by first | omega | (simp; omega) | (simp; done)) _ | refine Below.drew ?_ | refine below_drewN ?_ _ | refine Below.trans ?_ (Below.mono (by assumption) (by first | omega | (simp; omega) | (simp; done)))))
  rcases h1 : limS 3 a b with _ | _
  · have E : Hid (meansErr r a b n = 11 ∧ meansL r a b n = []) := by simp [meansErr, meansL, meansAsk, hv, h1, Hid]
    go_enter Tryz.func6, Tryz.ntmps6
    go_wp2_with (first | (go_at_call 9; refine (check_ok r _ (by repeat (first | assumption | refine Lim.alloc ?_ _ | refine Lim.setCell ?_ (by first | (simp; done) | (simp; omega) | omega) _ | refine Lim.drew ?_)) (hr.to (by (repeat (first | exact Below.refl _ _ | refine Below.setCell ?_ (by first | omega | (simp; omega) | (simp; done)) _ | refine Below.alloc ?_ (by first | omega | (simp; omega) | (simp; done)) _ | refine Below.drew ?_ | refine below_drewN ?_ _ | refine Below.trans ?_ (Below.mono (by assumption) (by first | omega | (simp; omega) | (simp; done))))))) hv).mono ?_; rintro e w1 ⟨rfl, hb1⟩; obtain ⟨⟨hc1, hf1, hs1⟩, hz1⟩ := after hb1; (try simp only [World.size_alloc, World.size_setCell, World.size_drew] at hz1); have hl1 : Lim w1 := Lim.next (by repeat (first | assumption | refine Lim.alloc ?_ _ | refine Lim.setCell ?_ (by first | (simp; done) | (simp; omega) | omega) _ | refine Lim.drew ?_)) hb1; have hq1 : w.heap.size < w1.heap.size := (by omega); have hq2 : w.heap.size + 1 < w1.heap.size := (by omega)) | (go_at_call 27; refine (spanWithin_any _ _ _ _ (by omega) (by omega) (by repeat (first | assumption | refine Lim.alloc ?_ _ | refine Lim.setCell ?_ (by first | (simp; done) | (simp; omega) | omega) _ | refine Lim.drew ?_))).mono ?_; rintro e w1 ⟨rfl, hb1⟩; obtain ⟨⟨hc1, hf1, hs1⟩, hz1⟩ := after hb1; (try simp only [World.size_alloc, World.size_setCell, World.size_drew] at hz1); have hl1 : Lim w1 := Lim.next (by repeat (first | assumption | refine Lim.alloc ?_ _ | refine Lim.setCell ?_ (by first | (simp; done) | (simp; omega) | omega) _ | refine Lim.drew ?_)) hb1; have hq1 : w.heap.size < w1.heap.size := (by omega); have hq2 : w.heap.size + 1 < w1.heap.size := (by omega)) | (go_at_call 28; refine (within_any _ _ _ (by omega) (by omega) (by repeat (first | assumption | refine Lim.alloc ?_ _ | refine Lim.setCell ?_ (by first | (simp; done) | (simp; omega) | omega) _ | refine Lim.drew ?_))).mono ?_; rintro e w1 ⟨rfl, hb1⟩; obtain ⟨⟨hc1, hf1, hs1⟩, hz1⟩ := after hb1; (try simp only [World.size_alloc, World.size_setCell, World.size_drew] at hz1); have hl1 : Lim w1 := Lim.next (by repeat (first | assumption | refine Lim.alloc ?_ _ | refine Lim.setCell ?_ (by first | (simp; done) | (simp; omega) | omega) _ | refine Lim.drew ?_)) hb1; have hq1 : w.heap.size < w1.heap.size := (by omega); have hq2 : w.heap.size + 1 < w1.heap.size := (by omega)))
    go_ret2
    refine ⟨_, by rw [E.out.1]; rfl, ?_⟩
    rw [E.out.2]
    refine RowsOut.nil ?_
    (repeat (first | exact Below.refl _ _ | refine Below.setCell ?_ (by first | omega | (simp; omega) | (simp; done)) _ | refine Below.alloc ?_ (by first | omega | (simp; omega) | (simp; done)) _ | refine Below.drew ?_ | refine below_drewN ?_ _ | refine Below.trans ?_ (Below.mono (by assumption) (by first | omega | (simp; omega) | (simp; done)))))
  rcases h2 : limB 4 n with _ | _
  · have E : Hid (meansErr r a b n = 11 ∧ meansL r a b n = []) := by simp [meansErr, meansL, meansAsk, hv, h1, h2, Hid]
    go_enter Tryz.func6, Tryz.ntmps6
    go_wp2_with (first | (go_at_call 9; refine (check_ok r _ (by repeat (first | assumption | refine Lim.alloc ?_ _ | refine Lim.setCell ?_ (by first | (simp; done) | (simp; omega) | omega) _ | refine Lim.drew ?_)) (hr.to (by (repeat (first | exact Below.refl _ _ | refine Below.setCell ?_ (by first | omega | (simp; omega) | (simp; done)) _ | refine Below.alloc ?_ (by first | omega | (simp; omega) | (simp; done)) _ | refine Below.drew ?_ | refine below_drewN ?_ _ | refine Below.trans ?_ (Below.mono (by assumption) (by first | omega | (simp; omega) | (simp; done))))))) hv).mono ?_; rintro e w1 ⟨rfl, hb1⟩; obtain ⟨⟨hc1, hf1, hs1⟩, hz1⟩ := after hb1; (try simp only [World.size_alloc, World.size_setCell, World.size_drew] at hz1); have hl1 : Lim w1 := Lim.next (by repeat (first | assumption | refine Lim.alloc ?_ _ | refine Lim.setCell ?_ (by first | (simp; done) | (simp; omega) | omega) _ | refine Lim.drew ?_)) hb1; have hq1 : w.heap.size < w1.heap.size := (by omega); have hq2 : w.heap.size + 1 < w1.heap.size := (by omega)) | (go_at_call 27; refine (spanWithin_any _ _ _ _ (by omega) (by omega) (by repeat (first | assumption | refine Lim.alloc ?_ _ | refine Lim.setCell ?_ (by first | (simp; done) | (simp; omega) | omega) _ | refine Lim.drew ?_))).mono ?_; rintro e w1 ⟨rfl, hb1⟩; obtain ⟨⟨hc1, hf1, hs1⟩, hz1⟩ := after hb1; (try simp only [World.size_alloc, World.size_setCell, World.size_drew] at hz1); have hl1 : Lim w1 := Lim.next (by repeat (first | assumption | refine Lim.alloc ?_ _ | refine Lim.setCell ?_ (by first | (simp; done) | (simp; omega) | omega) _ | refine Lim.drew ?_)) hb1; have hq1 : w.heap.size < w1.heap.size := (by omega); have hq2 : w.heap.size + 1 < w1.heap.size := (by omega)) | (go_at_call 28; refine (within_any _ _ _ (by omega) (by omega) (by repeat (first | assumption | refine Lim.alloc ?_ _ | refine Lim.setCell ?_ (by first | (simp; done) | (simp; omega) | omega) _ | refine Lim.drew ?_))).mono ?_; rintro e w1 ⟨rfl, hb1⟩; obtain ⟨⟨hc1, hf1, hs1⟩, hz1⟩ := after hb1; (try simp only [World.size_alloc, World.size_setCell, World.size_drew] at hz1); have hl1 : Lim w1 := Lim.next (by repeat (first | assumption | refine Lim.alloc ?_ _ | refine Lim.setCell ?_ (by first | (simp; done) | (simp; omega) | omega) _ | refine Lim.drew ?_)) hb1; have hq1 : w.heap.size < w1.heap.size := (by omega); have hq2 : w.heap.size + 1 < w1.heap.size := (by omega)))
    go_ret2
    refine ⟨_, by rw [E.out.1]; rfl, ?_⟩
    rw [E.out.2]
    refine RowsOut.nil ?_
    (repeat (first | exact Below.refl _ _ | refine Below.setCell ?_ (by first | omega | (simp; omega) | (simp; done)) _ | refine Below.alloc ?_ (by first | omega | (simp; omega) | (simp; done)) _ | refine Below.drew ?_ | refine below_drewN ?_ _ | refine Below.trans ?_ (Below.mono (by assumption) (by first | omega | (simp; omega) | (simp; done)))))
  have E : Hid (meansErr r a b n = 0 ∧ meansL r a b n = meantL n (bk r.issues (inUseQ a b) r.issues.length)) := by simp [meansErr, meansL, meansAsk, hv, h1, h2, Hid]
  go_enter Tryz.func6, Tryz.ntmps6
  go_wp2_with (first | (go_at_call 9; refine (check_ok r _ (by repeat (first | assumption | refine Lim.alloc ?_ _ | refine Lim.setCell ?_ (by first | (simp; done) | (simp; omega) | omega) _ | refine Lim.drew ?_)) (hr.to (by (repeat (first | exact Below.refl _ _ | refine Below.setCell ?_ (by first | omega | (simp; omega) | (simp; done)) _ | refine Below.alloc ?_ (by first | omega | (simp; omega) | (simp; done)) _ | refine Below.drew ?_ | refine below_drewN ?_ _ | refine Below.trans ?_ (Below.mono (by assumption) (by first | omega | (simp; omega) | (simp; done))))))) hv).mono ?_; rintro e w1 ⟨rfl, hb1⟩; obtain ⟨⟨hc1, hf1, hs1⟩, hz1⟩ := after hb1; (try simp only [World.size_alloc, World.size_setCell, World.size_drew] at hz1); have hl1 : Lim w1 := Lim.next (by repeat (first | assumption | refine Lim.alloc ?_ _ | refine Lim.setCell ?_ (by first | (simp; done) | (simp; omega) | omega) _ | refine Lim.drew ?_)) hb1; have hq1 : w.heap.size < w1.heap.size := (by omega); have hq2 : w.heap.size + 1 < w1.heap.size := (by omega)) | (go_at_call 27; refine (spanWithin_any _ _ _ _ (by omega) (by omega) (by repeat (first | assumption | refine Lim.alloc ?_ _ | refine Lim.setCell ?_ (by first | (simp; done) | (simp; omega) | omega) _ | refine Lim.drew ?_))).mono ?_; rintro e w1 ⟨rfl, hb1⟩; obtain ⟨⟨hc1, hf1, hs1⟩, hz1⟩ := after hb1; (try simp only [World.size_alloc, World.size_setCell, World.size_drew] at hz1); have hl1 : Lim w1 := Lim.next (by repeat (first | assumption | refine Lim.alloc ?_ _ | refine Lim.setCell ?_ (by first | (simp; done) | (simp; omega) | omega) _ | refine Lim.drew ?_)) hb1; have hq1 : w.heap.size < w1.heap.size := (by omega); have hq2 : w.heap.size + 1 < w1.heap.size := (by omega)) | (go_at_call 28; refine (within_any _ _ _ (by omega) (by omega) (by repeat (first | assumption | refine Lim.alloc ?_ _ | refine Lim.setCell ?_ (by first | (simp; done) | (simp; omega) | omega) _ | refine Lim.drew ?_))).mono ?_; rintro e w1 ⟨rfl, hb1⟩; obtain ⟨⟨hc1, hf1, hs1⟩, hz1⟩ := after hb1; (try simp only [World.size_alloc, World.size_setCell, World.size_drew] at hz1); have hl1 : Lim w1 := Lim.next (by repeat (first | assumption | refine Lim.alloc ?_ _ | refine Lim.setCell ?_ (by first | (simp; done) | (simp; omega) | omega) _ | refine Lim.drew ?_)) hb1; have hq1 : w.heap.size < w1.heap.size := (by omega); have hq2 : w.heap.size + 1 < w1.heap.size := (by omega); have HBw : Hid (Below w.heap.size w w1) := (by unfold Hid; (repeat (first | exact Below.refl _ _ | refine Below.setCell ?_ (by first | omega | (simp; omega) | (simp; done)) _ | refine Below.alloc ?_ (by first | omega | (simp; omega) | (simp; done)) _ | refine Below.drew ?_ | refine below_drewN ?_ _ | refine Below.trans ?_ (Below.mono (by assumption) (by first | omega | (simp; omega) | (simp; done))))))))
  refine (means_any r a b n _ hv (hr.to HBw.out)).mono ?_
  rintro e w2 ⟨v, rfl, hv2⟩
  go_wp2
  go_ret2
  refine ⟨_, by rw [E.out.1]; rfl, ?_⟩
  rw [E.out.2]
  exact hv2.from HBw.out
end Go.Proofs.YtpcajmkmmkmekaaGreatDoor

