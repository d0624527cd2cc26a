/- The map from a book and a number to a good: what a store and a look-up do. -/
import Derived.Test.YtpcajmkmmkmekaaGreatDoorChecked
import Derived.Test.YtpcajmkmmkmekaaGreatDoorGa
import Derived.WalkSpells
import Derived.Test.YtpcajmkmmkmekaaGreatDoorGd
import Derived.Carry
set_option linter.unusedVariables false
set_option linter.unusedSimpArgs false
namespace Go.Proofs.YtpcajmkmmkmekaaGreatDoor
open Go Go.RowKit
set_option maxHeartbeats 400000
abbrev placeV (i n : Int) : Value := .agg #[vi i, vi n]
structure PE where
  i : Int
  n : Int
  g : Int
  born : Nat
def PE.entry (q : PE) : MapEntry := ⟨placeV q.i q.n, vi q.g, q.born⟩
def PE.is (i n : Int) (q : PE) : Bool := i == q.i && n == q.n
def PlaceMap (w : World) (b : Nat) (f : Int → Int → Option Int) : Prop :=
  ∃ (L : List PE) (clock : Nat), w.heap[b]? = some (.map (L.map PE.entry).toArray clock) ∧ ∀ i n, f i n = (L.find? (PE.is i n)).map PE.g
theorem PlaceMap.keep {w w' : World} {b : Nat} {f : Int → Int → Option Int} (h : PlaceMap w b f) (hb : w'.heap[b]? = w.heap[b]?) : PlaceMap w' b f := by
  obtain ⟨L, c, h1, h2⟩ := h
  exact ⟨L, c, hb.trans h1, h2⟩
theorem PlaceMap.below {w w' : World} {b B : Nat} {f : Int → Int → Option Int} (h : PlaceMap w b f) (hb : Below B w w') (hB : b < B) : PlaceMap w' b f := h.keep (hb.block b hB)
theorem PlaceMap.lt {w : World} {b : Nat} {f : Int → Int → Option Int} (h : PlaceMap w b f) : b < w.heap.size := by
  obtain ⟨es, c, h1, _⟩ := h
  exact (Array.getElem?_eq_some_iff.1 h1).1
theorem PlaceMap.new (w : World) : PlaceMap (w.alloc (.map #[] 0)) w.heap.size fun _ _ => none := by
  refine ⟨[], 0, ?_, by simp⟩
  show (w.heap.push _)[w.heap.size]? = _
  simp
theorem equal_place (w : World) (a b c d : Int) : (Op.equal 79 (placeV a b) (placeV c d)).run Tryz.prog w = .ok (a == c && b == d) w := by
  simp [Op.equal, Op.maxDepth, go_sem]
  by_cases h1 : a = c <;> by_cases h2 : b = d <;> simp [h1, h2]
theorem check_place (e : Bool) (w : World) (a b : Int) : (Instr.checkKey e 10000 79 (placeV a b)).run Tryz.prog w = .ok () w := by kernel_rfl
theorem ask_place (w : World) (i n : Int) (L : List PE) : ∀ k : Nat, ∃ r, (Instr.findAsking 79 (placeV i n) (L.map PE.entry) k).run Tryz.prog w = .ok r w ∧ r.map Prod.snd = (L.find? (PE.is i n)).map fun q => vi q.g := by
  induction L with
  | nil => intro k; exact ⟨none, rfl, rfl⟩
  | cons q L ih =>
    intro k
    simp only [List.map_cons, Instr.findAsking, Sem.run_bind, PE.entry, equal_place, Result.andThen]
    by_cases hq : (i == q.i && n == q.n) = true
    · refine ⟨some (k, vi q.g), by simp [hq], by simp [List.find?_cons, PE.is, hq]⟩
    · have hq' : (i == q.i && n == q.n) = false := by simpa using hq
      obtain ⟨r, h1, h2⟩ := ih (k + 1)
      refine ⟨r, by simpa [hq'] using h1, by simpa [List.find?_cons, PE.is, hq'] using h2⟩
theorem under_place : Tryz.prog.underlying 79 = some (.struct (Tryz.prog.fieldsOf 79)) := by kernel_rfl
theorem find_place (w : World) (i n : Int) (L : List PE) : ∃ r, (Instr.findKey 79 (placeV i n) (L.map PE.entry)).run Tryz.prog w = .ok r w ∧ r.map Prod.snd = (L.find? (PE.is i n)).map fun q => vi q.g := by
  cases L with
  | nil => exact ⟨none, by kernel_rfl, rfl⟩
  | cons q L =>
    obtain ⟨r, h1, h2⟩ := ask_place w i n (q :: L) 0
    refine ⟨r, ?_, h2⟩
    rw [← h1]
    simp only [Instr.findKey, Sem.run_bind, run_underlying under_place, Result.andThen, List.map_cons, Instr.findNow, Instr.sameNow]
theorem look_place {w : World} {b : Nat} {f : Int → Int → Option Int} (h : PlaceMap w b f) (i n : Int) (ok : Bool) :
    (Instr.lookup 76 (.map (some b)) (placeV i n) ok).run Tryz.prog w = .ok (if ok then .tuple #[vi ((f i n).getD 0), .bool (f i n).isSome] else vi ((f i n).getD 0)) w := by
  obtain ⟨L, c, h1, h2⟩ := h
  obtain ⟨r, h3, h4⟩ := find_place w i n L
  have hu : Tryz.prog.underlying 76 = some (.map 79 3) := by kernel_rfl
  have hz : (zeroValue 3).run Tryz.prog w = .ok (vi 0) w := by kernel_rfl
  rw [h2]
  rcases r with _ | ⟨k, v⟩
  · have hf : L.find? (PE.is i n) = none := by simpa using h4.symm
    rw [hf]
    simp [Instr.lookup, run_underlying hu, getObj, Sem.run, h1, check_place, h3, hz, Result.andThen]
  · cases hf : L.find? (PE.is i n) with
    | none => rw [hf] at h4; cases h4
    | some q =>
      rw [hf] at h4
      obtain rfl : v = vi q.g := by simpa using h4
      simp [Instr.lookup, run_underlying hu, getObj, Sem.run, h1, check_place, h3, hz, Result.andThen]
theorem store_place {w : World} {b : Nat} {f : Int → Int → Option Int} (h : PlaceMap w b f) (i n g : Int) (hn : f i n = none) :
    ∃ w2, (Instr.mapUpdate 76 (.map (some b)) (placeV i n) (vi g)).run Tryz.prog w = .ok () w2 ∧ PlaceMap w2 b (fun i' n' => if i' = i ∧ n' = n then some g else f i' n') ∧ ∀ B, B ≤ b → Below B w w2 := by
  obtain ⟨L, c, h1, h2⟩ := h
  obtain ⟨r, h3, h4⟩ := find_place w i n L
  have hu : Tryz.prog.underlying 76 = some (.map 79 3) := by kernel_rfl
  have hf : L.find? (PE.is i n) = none := by rw [h2] at hn; simpa using hn
  rw [hf] at h4
  obtain rfl : r = none := by simpa using h4
  refine ⟨{ w with heap := w.heap.setIfInBounds b (.map ((L ++ [(⟨i, n, g, c⟩ : PE)]).map PE.entry).toArray (c + 1)) }, ?_, ⟨L ++ [⟨i, n, g, c⟩], c + 1, ?_, ?_⟩, ?_⟩
  · simp [Instr.mapUpdate, run_underlying hu, getObj, setObj, Sem.run, h1, check_place, h3, Result.andThen, PE.entry]
  · have hb : b < w.heap.size := (Array.getElem?_eq_some_iff.1 h1).1
    simp [hb]
  · intro i' n'
    show (if i' = i ∧ n' = n then some g else f i' n') = _
    rw [List.find?_append, h2]
    by_cases hq : i' = i ∧ n' = n
    · obtain ⟨rfl, rfl⟩ := hq
      simp [hf, PE.is]
    · have : PE.is i' n' ⟨i, n, g, c⟩ = false := by simp [PE.is]; omega
      simp [hq, this]
  · intro B hB
    exact ⟨rfl, rfl, rfl, by simp, fun k hk => by simp [Array.getElem?_setIfInBounds]; omega⟩
end Go.Proofs.YtpcajmkmmkmekaaGreatDoor

/- Contracts of goods and Number. -/
namespace Go.Proofs.YtpcajmkmmkmekaaGreatDoor
open Go Go.RowKit
set_option maxHeartbeats 1000000
def numGood (x : Issue) (n : Int) : Option Int := (x.entries.find? fun e => e.number == n).map Entry.good
/-- what the map says behind the first i books, and the first j entries of the next one -/
def goodsAt (l : List Issue) (i j : Nat) (a n : Int) : Option Int :=
  if 0 ≤ a ∧ a < i then (match l[a.toNat]? with | some x => numGood x n | none => none)
  else if a = i then (match l[i]? with | some x => ((x.entries.take j).find? fun e => e.number == n).map Entry.good | none => none) else none
def goodsF (l : List Issue) (a n : Int) : Option Int := if 0 ≤ a ∧ a < l.length then (match l[a.toNat]? with | some x => numGood x n | none => none) else none
theorem goodsAt_zero (l : List Issue) : goodsAt l 0 0 = fun _ _ => none := by
  funext a n
  unfold goodsAt
  rw [if_neg (by omega)]
  split
  · split <;> simp
  · rfl
theorem goodsAt_row (l : List Issue) (i : Nat) (x : Issue) (h : l[i]? = some x) : goodsAt l i x.entries.length = goodsAt l (i + 1) 0 := by
  funext a n
  unfold goodsAt
  by_cases h1 : 0 ≤ a ∧ a < (i : Int)
  · rw [if_pos h1, if_pos (by omega)]
  · rw [if_neg h1]
    by_cases h2 : a = (i : Int)
    · subst h2
      rw [if_pos rfl, if_pos (by omega)]
      simp [h, numGood]
    · rw [if_neg h2, if_neg (by omega)]
      split
      · split <;> simp
      · rfl
theorem goodsAt_end (l : List Issue) : goodsAt l l.length 0 = goodsF l := by
  funext a n
  unfold goodsAt goodsF
  split
  · rfl
  · split
    · simp
    · rfl
theorem goodsAt_step (l : List Issue) (i j : Nat) (x : Issue) (e : Entry) (h : l[i]? = some x) (he : x.entries[j]? = some e) (hno : ((x.entries.take j).find? fun o => o.number == e.number) = none) :
    goodsAt l i j i e.number = none ∧ (fun a n => if a = (i : Int) ∧ n = e.number then some e.good else goodsAt l i j a n) = goodsAt l i (j + 1) := by
  have ht : x.entries.take (j + 1) = x.entries.take j ++ [e] := by
    obtain ⟨hj, rfl⟩ := List.getElem?_eq_some_iff.1 he
    rw [List.take_succ_eq_append_getElem hj]
  refine ⟨?_, ?_⟩
  · unfold goodsAt
    rw [if_neg (by omega), if_pos rfl]
    simp [h, hno]
  · funext a n
    unfold goodsAt
    by_cases h1 : 0 ≤ a ∧ a < (i : Int)
    · rw [if_neg (by omega), if_pos h1, if_pos h1]
    · rw [if_neg h1, if_neg h1]
      by_cases h2 : a = (i : Int)
      · subst h2
        simp only [h, true_and, if_true]
        rw [ht, List.find?_append]
        by_cases h3 : n = e.number
        · subst h3
          simp [hno]
        · rw [if_neg h3]
          have : (e.number == n) = false := by rw [beq_eq_false_iff_ne]; omega
          simp [this]
      · simp [h2]
theorem valid_issue {r : Rack} (hv : validB r = true) {i : Nat} {x : Issue} (hx : r.issues[i]? = some x) : catB r x = true := by
  unfold validB at hv
  rw [Bool.and_eq_true] at hv
  have := List.all_eq_true.1 hv.2 i (List.mem_range.2 (List.getElem?_eq_some_iff.1 hx).1)
  rwa [goodIssue_of hx] at this
theorem valid_entry {r : Rack} {x : Issue} (hv : catB r x = true) {j : Nat} {e : Entry} (he : x.entries[j]? = some e) : entryB r e = true ∧ repB (x.entries.take j) e = false := by
  unfold catB at hv
  rw [Bool.and_eq_true] at hv
  have := List.all_eq_true.1 hv.2 j (List.mem_range.2 (List.getElem?_eq_some_iff.1 he).1)
  rw [goodEntry_of he] at this
  simpa using this
theorem find_none_of_rep {l : List Entry} {e : Entry} (h : repB l e = false) : (l.find? fun o => o.number == e.number) = none := by
  rw [List.find?_eq_none]
  intro o ho
  have := List.any_eq_false.1 h o ho
  simp [sameB] at this
  simpa using this.1
theorem goods_any (r : Rack) (w : World) (hv : validB r = true) (h : RackAt w w.heap.size r) :
    Calls Tryz.prog 41 #[r.val] w fun e w' => ∃ b, e = .returned (.map (some b)) ∧ w.heap.size ≤ b ∧ PlaceMap w' b (goodsF r.issues) ∧ Below w.heap.size w w' := by
  have hcat := fun i x hx => valid_issue (r := r) hv (i := i) (x := x) hx
  have HC := Lib.hid hcat
  clear hcat hv
  obtain ⟨g, A, cap, l⟩ := r
  have hcap := IssuesAt.cap h
  have hfew := IssuesAt.few h
  have hlen := IssuesAt.len h
  show Calls Tryz.prog 41 #[.agg #[vi g, .slice A l.length cap]] w _
  have hmm := @run_makeMap Tryz.prog
  go_enter Tryz.func41, Tryz.ntmps41
  go_wp2
  have HB0 : Below w.heap.size w ((w.alloc (.cells #[vi g, .slice A l.length cap] 56)).alloc (.map #[] 0)) := by (repeat (first | exact Below.refl _ _ | refine Below.setCell ?_ (by first | omega | (simp; omega) | (simp; done)) _ | refine Below.alloc ?_ (by first | omega | (simp; omega) | (simp; done)) _ | refine Below.drew ?_ | refine below_drewN ?_ _ | refine Below.trans ?_ (Below.mono (by assumption) (by first | omega | (simp; omega) | (simp; done)))))
  have P0 : PlaceMap ((w.alloc (.cells #[vi g, .slice A l.length cap] 56)).alloc (.map #[] 0)) (w.heap.size + 1) (goodsAt l 0 0) := by
    rw [goodsAt_zero]
    have := PlaceMap.new (w.alloc (.cells #[vi g, .slice A l.length cap] 56))
    simpa using this
  generalize ((w.alloc (.cells #[vi g, .slice A l.length cap] 56)).alloc (.map #[] 0)) = W at *
  clear hmm
  go_loopw [13] (fun i wr => ∃ k : Nat, k ≤ l.length ∧ i = .int .i64 k ∧ Below w.heap.size w wr ∧ PlaceMap wr (w.heap.size + 1) (goodsAt l k 0)) (fun i _ => l.length - (intOf i).toNat)
  case atStart => exact ⟨0, Nat.zero_le _, rfl, HB0, P0⟩
  case round =>
    obtain ⟨k, hk, rfl, hB, hP⟩ := hrel
    have hbs := hB.size
    by_cases hlt : k < l.length
    · obtain ⟨x, hx⟩ : ∃ x, l[k]? = some x := ⟨_, List.getElem?_eq_getElem hlt⟩
      have hn := IssuesAt.to h hB
      have hxc := HC.out k x hx
      have hxe0 := IssuesAt.at_ h hx
      obtain ⟨xlo, xhi, xheld, xA, xc, xl⟩ := x
      obtain ⟨b, off, rfl, hb, c0, c1, c2, c3⟩ := row4 hn.row hx rfl
      have hxe : EntriesAt w w.heap.size xA xc xl := hxe0
      have hc1 := hxe.cap
      have hc2 := hxe.len
      have HX := Lib.hid hx
      have HXC := Lib.hid hxc
      have hpl := hP.lt
      clear hx hxc
      go_wp2_with fail
      have HB1 : Below w.heap.size w (wr.alloc (.cells #[vi xlo, vi xhi, vi xheld, .slice xA xl.length xc] 63)) := by (repeat (first | exact Below.refl _ _ | refine Below.setCell ?_ (by first | omega | (simp; omega) | (simp; done)) _ | refine Below.alloc ?_ (by first | omega | (simp; omega) | (simp; done)) _ | refine Below.drew ?_ | refine below_drewN ?_ _ | refine Below.trans ?_ (Below.mono (by assumption) (by first | omega | (simp; omega) | (simp; done)))))
      have P1 : PlaceMap (wr.alloc (.cells #[vi xlo, vi xhi, vi xheld, .slice xA xl.length xc] 63)) (w.heap.size + 1) (goodsAt l k 0) := hP.below ((Below.refl _ wr).alloc (Nat.le_refl _) _) hpl
      generalize (wr.alloc (.cells #[vi xlo, vi xhi, vi xheld, .slice xA xl.length xc] 63)) = W1 at *
      clear c0 c1 c2 c3 hn hb hxe0
      obtain ⟨wo, rfl⟩ : ∃ wo : World, wo = wr := ⟨_, rfl⟩
      go_loopw [21] (fun i wr => ∃ m : Nat, m ≤ xl.length ∧ i = .int .i64 m ∧ Below w.heap.size w wr ∧ PlaceMap wr (w.heap.size + 1) (goodsAt l k m)) (fun i _ => xl.length - (intOf i).toNat)
      case atStart => exact ⟨0, Nat.zero_le _, rfl, HB1, P1⟩
      case round =>
        obtain ⟨m, hm, rfl, hB2, hP2⟩ := hrel
        have hbs2 := hB2.size
        have hpl2 := hP2.lt
        by_cases hlt2 : m < xl.length
        · obtain ⟨e, he⟩ : ∃ e, xl[m]? = some e := ⟨_, List.getElem?_eq_getElem hlt2⟩
          obtain ⟨b2, off2, rfl, hb2, c0, c1, c2, c3⟩ := row4 (EntriesAt.to hxe hB2).row he rfl
          obtain ⟨st1, st2⟩ := goodsAt_step l k m _ e HX.out he (find_none_of_rep (valid_entry HXC.out he).2)
          have P2 : PlaceMap (wr.alloc (.cells #[vi e.number, vi e.good, vi e.colours, e.slice] 68)) (w.heap.size + 1) (goodsAt l k m) := hP2.below ((Below.refl _ wr).alloc (Nat.le_refl _) _) hpl2
          obtain ⟨w2, hmu, hpm, hbel⟩ := store_place P2 k e.number e.good st1
          rw [st2] at hpm
          clear st1 st2 P2
          have HB3 : Below w.heap.size w w2 := ((hB2.alloc (by omega) _).trans (hbel _ (by omega)))
          clear hbel he
          go_wp2
          go_roundw
          case rel => exact ⟨m + 1, by omega, by go_num, HB3, hpm⟩
          case measure => simp [intOf]; omega
        · obtain rfl : m = xl.length := by omega
          rw [goodsAt_row l k _ HX.out] at hP2
          go_wp2
          go_roundw
          case rel => exact ⟨k + 1, by omega, by go_num, hB2, hP2⟩
          case measure => simp [intOf]; omega
    · obtain rfl : k = l.length := by omega
      rw [goodsAt_end] at hP
      go_wp2
      go_ret
      exact ⟨_, rfl, by omega, hP, hB⟩
end Go.Proofs.YtpcajmkmmkmekaaGreatDoor

/- Contracts of Number, and of what produces books. -/
namespace Go.Proofs.YtpcajmkmmkmekaaGreatDoor
open Go Go.RowKit
set_option maxHeartbeats 1000000
def numAsk (r : Rack) (issue number other : Int) : Bool := issueB r issue && (issueB r other && limB 4 number)
def goodE (r : Rack) (other g : Int) : Option Entry := match r.issues[other.toNat]? with | some x => x.entries.find? fun e => e.good == g | none => none
def numO (r : Rack) (issue number other : Int) : Option Int := (goodsF r.issues issue number).bind fun g => (goodE r other g).map Entry.number
def numErr (r : Rack) (issue number other : Int) : Int := if validB r then if numAsk r issue number other then if (numO r issue number other).isSome then 0 else 4 else 11 else 10
def numV (r : Rack) (issue number other : Int) : Int := if validB r && numAsk r issue number other then (numO r issue number other).getD 0 else 0
theorem check_ok (r : Rack) (w : World) (hl : Lim w) (hr : RackAt w w.heap.size r) (hv : validB r = true) :
    Calls Tryz.prog 9 #[r.val] w fun e' w' => e' = .returned (vi 0) ∧ Below w.heap.size w w' := by
  have := check_any r w hl hr
  rwa [hv] at this
theorem check_bad (r : Rack) (w : World) (hl : Lim w) (hr : RackAt w w.heap.size r) (hv : validB r = false) :
    Calls Tryz.prog 9 #[r.val] w fun e' w' => e' = .returned (vi 10) ∧ Below w.heap.size w w' := by
  have := check_any r w hl hr
  rwa [hv] at this
theorem number_any (r : Rack) (issue number other : Int) (w : World) (hl : Lim w) (hr : RackAt w w.heap.size r) :
    Calls Tryz.prog 11 #[r.val, vi issue, vi number, vi other] w fun e w' => e = .returned (.tuple #[vi (numV r issue number other), vi (numErr r issue number other)]) ∧ Below w.heap.size w w' := by
  rcases hv : validB r with _ | _
  · have E : Hid (numErr r issue number other = 10 ∧ numV r issue number other = 0) := by simp [numErr, numV, hv, Hid]
    go_enter Tryz.func11, Tryz.ntmps11
    go_wp2_with (go_at_call 9; refine (check_bad r _ (by repeat (first | assumption | refine Lim.alloc ?_ _ | refine Lim.setCell ?_ (by first | (simp; done) | (simp; omega) | omega) _ | refine Lim.drew ?_)) (hr.to (by (repeat (first | exact Below.refl _ _ | refine Below.setCell ?_ (by first | omega | (simp; omega) | (simp; done)) _ | refine Below.alloc ?_ (by first | omega | (simp; omega) | (simp; done)) _ | refine Below.drew ?_ | refine below_drewN ?_ _ | refine Below.trans ?_ (Below.mono (by assumption) (by first | omega | (simp; omega) | (simp; done))))))) hv).mono ?_; rintro e w1 ⟨rfl, hb1⟩; obtain ⟨⟨hc1, hf1, hs1⟩, hz1⟩ := after hb1; (try simp only [World.size_alloc, World.size_setCell, World.size_drew] at hz1))
    go_ret2
    refine ⟨by rw [E.out.1, E.out.2]; rfl, ?_⟩
    (repeat (first | exact Below.refl _ _ | refine Below.setCell ?_ (by first | omega | (simp; omega) | (simp; done)) _ | refine Below.alloc ?_ (by first | omega | (simp; omega) | (simp; done)) _ | refine Below.drew ?_ | refine below_drewN ?_ _ | refine Below.trans ?_ (Below.mono (by assumption) (by first | omega | (simp; omega) | (simp; done)))))
  rcases h1 : issueB r issue with _ | _
  · have E : Hid (numErr r issue number other = 11 ∧ numV r issue number other = 0) := by simp [numErr, numV, numAsk, hv, h1, Hid]
    go_enter Tryz.func11, Tryz.ntmps11
    go_wp2_with (first | (go_at_call 9; refine (check_ok r _ (by repeat (first | assumption | refine Lim.alloc ?_ _ | refine Lim.setCell ?_ (by first | (simp; done) | (simp; omega) | omega) _ | refine Lim.drew ?_)) (hr.to (by (repeat (first | exact Below.refl _ _ | refine Below.setCell ?_ (by first | omega | (simp; omega) | (simp; done)) _ | refine Below.alloc ?_ (by first | omega | (simp; omega) | (simp; done)) _ | refine Below.drew ?_ | refine below_drewN ?_ _ | refine Below.trans ?_ (Below.mono (by assumption) (by first | omega | (simp; omega) | (simp; done))))))) hv).mono ?_; rintro e w1 ⟨rfl, hb1⟩; obtain ⟨⟨hc1, hf1, hs1⟩, hz1⟩ := after hb1; (try simp only [World.size_alloc, World.size_setCell, World.size_drew] at hz1); have hl1 : Lim w1 := Lim.next (by repeat (first | assumption | refine Lim.alloc ?_ _ | refine Lim.setCell ?_ (by first | (simp; done) | (simp; omega) | omega) _ | refine Lim.drew ?_)) hb1; skip) | (go_at_call 40; refine (hasIssue_any r _ _).mono ?_; rintro e w1 ⟨rfl, hb1⟩; obtain ⟨⟨hc1, hf1, hs1⟩, hz1⟩ := after hb1; (try simp only [World.size_alloc, World.size_setCell, World.size_drew] at hz1); have hl1 : Lim w1 := Lim.next (by repeat (first | assumption | refine Lim.alloc ?_ _ | refine Lim.setCell ?_ (by first | (simp; done) | (simp; omega) | omega) _ | refine Lim.drew ?_)) hb1; skip) | (go_at_call 28; refine (within_any _ _ _ (by omega) (by omega) (by repeat (first | assumption | refine Lim.alloc ?_ _ | refine Lim.setCell ?_ (by first | (simp; done) | (simp; omega) | omega) _ | refine Lim.drew ?_))).mono ?_; rintro e w1 ⟨rfl, hb1⟩; obtain ⟨⟨hc1, hf1, hs1⟩, hz1⟩ := after hb1; (try simp only [World.size_alloc, World.size_setCell, World.size_drew] at hz1); have hl1 : Lim w1 := Lim.next (by repeat (first | assumption | refine Lim.alloc ?_ _ | refine Lim.setCell ?_ (by first | (simp; done) | (simp; omega) | omega) _ | refine Lim.drew ?_)) hb1; skip))
    go_ret2
    refine ⟨by rw [E.out.1, E.out.2]; rfl, ?_⟩
    (repeat (first | exact Below.refl _ _ | refine Below.setCell ?_ (by first | omega | (simp; omega) | (simp; done)) _ | refine Below.alloc ?_ (by first | omega | (simp; omega) | (simp; done)) _ | refine Below.drew ?_ | refine below_drewN ?_ _ | refine Below.trans ?_ (Below.mono (by assumption) (by first | omega | (simp; omega) | (simp; done)))))
  rcases h2 : issueB r other with _ | _
  · have E : Hid (numErr r issue number other = 11 ∧ numV r issue number other = 0) := by simp [numErr, numV, numAsk, hv, h1, h2, Hid]
    go_enter Tryz.func11, Tryz.ntmps11
    go_wp2_with (first | (go_at_call 9; refine (check_ok r _ (by repeat (first | assumption | refine Lim.alloc ?_ _ | refine Lim.setCell ?_ (by first | (simp; done) | (simp; omega) | omega) _ | refine Lim.drew ?_)) (hr.to (by (repeat (first | exact Below.refl _ _ | refine Below.setCell ?_ (by first | omega | (simp; omega) | (simp; done)) _ | refine Below.alloc ?_ (by first | omega | (simp; omega) | (simp; done)) _ | refine Below.drew ?_ | refine below_drewN ?_ _ | refine Below.trans ?_ (Below.mono (by assumption) (by first | omega | (simp; omega) | (simp; done))))))) hv).mono ?_; rintro e w1 ⟨rfl, hb1⟩; obtain ⟨⟨hc1, hf1, hs1⟩, hz1⟩ := after hb1; (try simp only [World.size_alloc, World.size_setCell, World.size_drew] at hz1); have hl1 : Lim w1 := Lim.next (by repeat (first | assumption | refine Lim.alloc ?_ _ | refine Lim.setCell ?_ (by first | (simp; done) | (simp; omega) | omega) _ | refine Lim.drew ?_)) hb1; skip) | (go_at_call 40; refine (hasIssue_any r _ _).mono ?_; rintro e w1 ⟨rfl, hb1⟩; obtain ⟨⟨hc1, hf1, hs1⟩, hz1⟩ := after hb1; (try simp only [World.size_alloc, World.size_setCell, World.size_drew] at hz1); have hl1 : Lim w1 := Lim.next (by repeat (first | assumption | refine Lim.alloc ?_ _ | refine Lim.setCell ?_ (by first | (simp; done) | (simp; omega) | omega) _ | refine Lim.drew ?_)) hb1; skip) | (go_at_call 28; refine (within_any _ _ _ (by omega) (by omega) (by repeat (first | assumption | refine Lim.alloc ?_ _ | refine Lim.setCell ?_ (by first | (simp; done) | (simp; omega) | omega) _ | refine Lim.drew ?_))).mono ?_; rintro e w1 ⟨rfl, hb1⟩; obtain ⟨⟨hc1, hf1, hs1⟩, hz1⟩ := after hb1; (try simp only [World.size_alloc, World.size_setCell, World.size_drew] at hz1); have hl1 : Lim w1 := Lim.next (by repeat (first | assumption | refine Lim.alloc ?_ _ | refine Lim.setCell ?_ (by first | (simp; done) | (simp; omega) | omega) _ | refine Lim.drew ?_)) hb1; skip))
    go_ret2
    refine ⟨by rw [E.out.1, E.out.2]; rfl, ?_⟩
    (repeat (first | exact Below.refl _ _ | refine Below.setCell ?_ (by first | omega | (simp; omega) | (simp; done)) _ | refine Below.alloc ?_ (by first | omega | (simp; omega) | (simp; done)) _ | refine Below.drew ?_ | refine below_drewN ?_ _ | refine Below.trans ?_ (Below.mono (by assumption) (by first | omega | (simp; omega) | (simp; done)))))
  rcases h3 : limB 4 number with _ | _
  · have E : Hid (numErr r issue number other = 11 ∧ numV r issue number other = 0) := by simp [numErr, numV, numAsk, hv, h1, h2, h3, Hid]
    go_enter Tryz.func11, Tryz.ntmps11
    go_wp2_with (first | (go_at_call 9; refine (check_ok r _ (by repeat (first | assumption | refine Lim.alloc ?_ _ | refine Lim.setCell ?_ (by first | (simp; done) | (simp; omega) | omega) _ | refine Lim.drew ?_)) (hr.to (by (repeat (first | exact Below.refl _ _ | refine Below.setCell ?_ (by first | omega | (simp; omega) | (simp; done)) _ | refine Below.alloc ?_ (by first | omega | (simp; omega) | (simp; done)) _ | refine Below.drew ?_ | refine below_drewN ?_ _ | refine Below.trans ?_ (Below.mono (by assumption) (by first | omega | (simp; omega) | (simp; done))))))) hv).mono ?_; rintro e w1 ⟨rfl, hb1⟩; obtain ⟨⟨hc1, hf1, hs1⟩, hz1⟩ := after hb1; (try simp only [World.size_alloc, World.size_setCell, World.size_drew] at hz1); have hl1 : Lim w1 := Lim.next (by repeat (first | assumption | refine Lim.alloc ?_ _ | refine Lim.setCell ?_ (by first | (simp; done) | (simp; omega) | omega) _ | refine Lim.drew ?_)) hb1; skip) | (go_at_call 40; refine (hasIssue_any r _ _).mono ?_; rintro e w1 ⟨rfl, hb1⟩; obtain ⟨⟨hc1, hf1, hs1⟩, hz1⟩ := after hb1; (try simp only [World.size_alloc, World.size_setCell, World.size_drew] at hz1); have hl1 : Lim w1 := Lim.next (by repeat (first | assumption | refine Lim.alloc ?_ _ | refine Lim.setCell ?_ (by first | (simp; done) | (simp; omega) | omega) _ | refine Lim.drew ?_)) hb1; skip) | (go_at_call 28; refine (within_any _ _ _ (by omega) (by omega) (by repeat (first | assumption | refine Lim.alloc ?_ _ | refine Lim.setCell ?_ (by first | (simp; done) | (simp; omega) | omega) _ | refine Lim.drew ?_))).mono ?_; rintro e w1 ⟨rfl, hb1⟩; obtain ⟨⟨hc1, hf1, hs1⟩, hz1⟩ := after hb1; (try simp only [World.size_alloc, World.size_setCell, World.size_drew] at hz1); have hl1 : Lim w1 := Lim.next (by repeat (first | assumption | refine Lim.alloc ?_ _ | refine Lim.setCell ?_ (by first | (simp; done) | (simp; omega) | omega) _ | refine Lim.drew ?_)) hb1; skip))
    go_ret2
    refine ⟨by rw [E.out.1, E.out.2]; rfl, ?_⟩
    (repeat (first | exact Below.refl _ _ | refine Below.setCell ?_ (by first | omega | (simp; omega) | (simp; done)) _ | refine Below.alloc ?_ (by first | omega | (simp; omega) | (simp; done)) _ | refine Below.drew ?_ | refine below_drewN ?_ _ | refine Below.trans ?_ (Below.mono (by assumption) (by first | omega | (simp; omega) | (simp; done)))))
  obtain ⟨hi0, hi1⟩ : 0 ≤ issue ∧ issue < r.issues.length := by simpa [issueB] using h1
  obtain ⟨n, rfl⟩ := Int.eq_ofNat_of_zero_le hi0
  obtain ⟨hj0, hj1⟩ : 0 ≤ other ∧ other < r.issues.length := by simpa [issueB] using h2
  obtain ⟨o, rfl⟩ := Int.eq_ofNat_of_zero_le hj0
  have ho : o < r.issues.length := by omega
  obtain ⟨y, hy⟩ : ∃ y, r.issues[o]? = some y := ⟨_, List.getElem?_eq_getElem ho⟩
  have hA : numAsk r n number o = true := by simp [numAsk, h1, h2, h3]
  have EE : Hid (numErr r n number o = (if (numO r n number o).isSome then 0 else 4) ∧ numV r n number o = (numO r n number o).getD 0) := by simp [numErr, numV, hv, hA, Hid]
  have hye := IssuesAt.at_ hr hy
  have hcap := IssuesAt.cap hr
  have hfew := IssuesAt.few hr
  have hlen := IssuesAt.len hr
  have hG : ∀ g, goodE r o g = y.entries.find? fun e => e.good == g := by intro g; simp [goodE, hy]
  obtain ⟨g, A, cap, l⟩ := r
  obtain ⟨bb, off, hAd, hb, c0, c1, c2, c3⟩ := row4 (IssuesAt.row hr) hy rfl
  obtain rfl : A = some ⟨bb, off, none⟩ := hAd
  have HR : Hid (RackAt w w.heap.size ⟨g, some ⟨bb, off, none⟩, cap, l⟩) := hr
  have hi2 : (n : Int) < l.length := hi1
  have hj2 : (o : Int) < l.length := hj1
  have hj3 : o < l.length := ho
  have HG := Lib.hid hG
  clear hy hA hi1 hj1 ho hr hG
  show Calls Tryz.prog 11 #[.agg #[vi g, .slice (some ⟨bb, off, none⟩) l.length cap], vi n, vi number, vi o] w _
  rcases hgf : goodsF l n number with _ | gd
  · have EO : numErr ⟨g, some ⟨bb, off, none⟩, cap, l⟩ n number o = 4 ∧ numV ⟨g, some ⟨bb, off, none⟩, cap, l⟩ n number o = 0 := by have := EE.out; simpa [numO, hgf] using this
    have HEO := Lib.hid EO
    clear EO
    go_enter Tryz.func11, Tryz.ntmps11
    go_wp2_with fail
    refine (check_ok ⟨g, some ⟨bb, off, none⟩, cap, l⟩ _ (by repeat (first | assumption | refine Lim.alloc ?_ _ | refine Lim.setCell ?_ (by first | (simp; done) | (simp; omega) | omega) _ | refine Lim.drew ?_)) (RackAt.to HR.out (by (repeat (first | exact Below.refl _ _ | refine Below.setCell ?_ (by first | omega | (simp; omega) | (simp; done)) _ | refine Below.alloc ?_ (by first | omega | (simp; omega) | (simp; done)) _ | refine Below.drew ?_ | refine below_drewN ?_ _ | refine Below.trans ?_ (Below.mono (by assumption) (by first | omega | (simp; omega) | (simp; done))))))) hv).mono ?_
    rintro e wA ⟨rfl, hbA⟩
    have zA : w.heap.size < wA.heap.size := by have := hbA.size; simp at this; omega
    have a1 := (hbA.cell (p := ⟨w.heap.size, 1, none⟩) (by simp)).trans (by simp [go_sem] : _ = some (.slice (some ⟨bb, off, none⟩) l.length cap))
    have a0 := (hbA.cell (p := ⟨w.heap.size, 0, none⟩) (by simp)).trans (by simp [go_sem] : _ = some (vi g))
    have HA : Below w.heap.size w wA := by (repeat (first | exact Below.refl _ _ | refine Below.setCell ?_ (by first | omega | (simp; omega) | (simp; done)) _ | refine Below.alloc ?_ (by first | omega | (simp; omega) | (simp; done)) _ | refine Below.drew ?_ | refine below_drewN ?_ _ | refine Below.trans ?_ (Below.mono (by assumption) (by first | omega | (simp; omega) | (simp; done)))))
    have hlA : Lim wA := hl.next HA
    have hw0 := HA.size
    clear hbA
    go_wp2_with (first | (go_at_call 40; refine (hasIssue_any ⟨g, some ⟨bb, off, none⟩, cap, l⟩ _ _).mono ?_; rintro e w1 ⟨rfl, hb1⟩; obtain ⟨⟨hc1, hf1, hs1⟩, hz1⟩ := after hb1; (try simp only [World.size_alloc, World.size_setCell, World.size_drew] at hz1); have hl1 : Lim w1 := Lim.next (by repeat (first | assumption | refine Lim.alloc ?_ _ | refine Lim.setCell ?_ (by first | (simp; done) | (simp; omega) | omega) _ | refine Lim.drew ?_)) hb1; have hq1 : wA.heap.size < w1.heap.size := (by omega)) | (go_at_call 28; refine (within_any _ _ _ (by omega) (by omega) (by repeat (first | assumption | refine Lim.alloc ?_ _ | refine Lim.setCell ?_ (by first | (simp; done) | (simp; omega) | omega) _ | refine Lim.drew ?_))).mono ?_; rintro e w1 ⟨rfl, hb1⟩; obtain ⟨⟨hc1, hf1, hs1⟩, hz1⟩ := after hb1; (try simp only [World.size_alloc, World.size_setCell, World.size_drew] at hz1); have hl1 : Lim w1 := Lim.next (by repeat (first | assumption | refine Lim.alloc ?_ _ | refine Lim.setCell ?_ (by first | (simp; done) | (simp; omega) | omega) _ | refine Lim.drew ?_)) hb1; have hq1 : wA.heap.size < w1.heap.size := (by omega)) | fail)
    have HB2 : Below (wA.heap.size + 1) (wA.alloc (.cells #[vi g, .slice (some ⟨bb, off, none⟩) l.length cap] 56)) w1 := by (repeat (first | exact Below.refl _ _ | refine Below.setCell ?_ (by first | omega | (simp; omega) | (simp; done)) _ | refine Below.alloc ?_ (by first | omega | (simp; omega) | (simp; done)) _ | refine Below.drew ?_ | refine below_drewN ?_ _ | refine Below.trans ?_ (Below.mono (by assumption) (by first | omega | (simp; omega) | (simp; done)))))
    have HBA : Below wA.heap.size wA w1 := ((Below.refl _ wA).alloc (Nat.le_refl _) _).trans (HB2.mono (by omega))
    have HBw : Below w.heap.size w w1 := HA.trans (HBA.mono (by omega))
    refine (goods_any ⟨g, some ⟨bb, off, none⟩, cap, l⟩ w1 hv (RackAt.to HR.out HBw)).mono ?_
    rintro e wG ⟨bm, rfl, hbm, hP, hbG⟩
    have HBg : Below w.heap.size w wG := HBw.trans (hbG.mono HBw.size)
    have hlk := look_place hP n number true
    rw [hgf] at hlk
    simp only [Option.getD_none, Option.getD_some, Option.isSome_none, Option.isSome_some, if_true] at hlk
    go_wp2
    go_ret2
    refine ⟨by rw [HEO.out.1, HEO.out.2]; rfl, ?_⟩
    exact HBg
  · rcases hge : (y.entries.find? fun e => e.good == gd) with _ | e0
    · have EO : numErr ⟨g, some ⟨bb, off, none⟩, cap, l⟩ n number o = 4 ∧ numV ⟨g, some ⟨bb, off, none⟩, cap, l⟩ n number o = 0 := by have := EE.out; simpa [numO, hgf, HG.out, hge] using this
      have HEO := Lib.hid EO
      clear EO
      go_enter Tryz.func11, Tryz.ntmps11
      go_wp2_with fail
      refine (check_ok ⟨g, some ⟨bb, off, none⟩, cap, l⟩ _ (by repeat (first | assumption | refine Lim.alloc ?_ _ | refine Lim.setCell ?_ (by first | (simp; done) | (simp; omega) | omega) _ | refine Lim.drew ?_)) (RackAt.to HR.out (by (repeat (first | exact Below.refl _ _ | refine Below.setCell ?_ (by first | omega | (simp; omega) | (simp; done)) _ | refine Below.alloc ?_ (by first | omega | (simp; omega) | (simp; done)) _ | refine Below.drew ?_ | refine below_drewN ?_ _ | refine Below.trans ?_ (Below.mono (by assumption) (by first | omega | (simp; omega) | (simp; done))))))) hv).mono ?_
      rintro e wA ⟨rfl, hbA⟩
      have zA : w.heap.size < wA.heap.size := by have := hbA.size; simp at this; omega
      have a1 := (hbA.cell (p := ⟨w.heap.size, 1, none⟩) (by simp)).trans (by simp [go_sem] : _ = some (.slice (some ⟨bb, off, none⟩) l.length cap))
      have a0 := (hbA.cell (p := ⟨w.heap.size, 0, none⟩) (by simp)).trans (by simp [go_sem] : _ = some (vi g))
      have HA : Below w.heap.size w wA := by (repeat (first | exact Below.refl _ _ | refine Below.setCell ?_ (by first | omega | (simp; omega) | (simp; done)) _ | refine Below.alloc ?_ (by first | omega | (simp; omega) | (simp; done)) _ | refine Below.drew ?_ | refine below_drewN ?_ _ | refine Below.trans ?_ (Below.mono (by assumption) (by first | omega | (simp; omega) | (simp; done)))))
      have hlA : Lim wA := hl.next HA
      have hw0 := HA.size
      clear hbA
      go_wp2_with (first | (go_at_call 40; refine (hasIssue_any ⟨g, some ⟨bb, off, none⟩, cap, l⟩ _ _).mono ?_; rintro e w1 ⟨rfl, hb1⟩; obtain ⟨⟨hc1, hf1, hs1⟩, hz1⟩ := after hb1; (try simp only [World.size_alloc, World.size_setCell, World.size_drew] at hz1); have hl1 : Lim w1 := Lim.next (by repeat (first | assumption | refine Lim.alloc ?_ _ | refine Lim.setCell ?_ (by first | (simp; done) | (simp; omega) | omega) _ | refine Lim.drew ?_)) hb1; have hq1 : wA.heap.size < w1.heap.size := (by omega)) | (go_at_call 28; refine (within_any _ _ _ (by omega) (by omega) (by repeat (first | assumption | refine Lim.alloc ?_ _ | refine Lim.setCell ?_ (by first | (simp; done) | (simp; omega) | omega) _ | refine Lim.drew ?_))).mono ?_; rintro e w1 ⟨rfl, hb1⟩; obtain ⟨⟨hc1, hf1, hs1⟩, hz1⟩ := after hb1; (try simp only [World.size_alloc, World.size_setCell, World.size_drew] at hz1); have hl1 : Lim w1 := Lim.next (by repeat (first | assumption | refine Lim.alloc ?_ _ | refine Lim.setCell ?_ (by first | (simp; done) | (simp; omega) | omega) _ | refine Lim.drew ?_)) hb1; have hq1 : wA.heap.size < w1.heap.size := (by omega)) | fail)
      have HB2 : Below (wA.heap.size + 1) (wA.alloc (.cells #[vi g, .slice (some ⟨bb, off, none⟩) l.length cap] 56)) w1 := by (repeat (first | exact Below.refl _ _ | refine Below.setCell ?_ (by first | omega | (simp; omega) | (simp; done)) _ | refine Below.alloc ?_ (by first | omega | (simp; omega) | (simp; done)) _ | refine Below.drew ?_ | refine below_drewN ?_ _ | refine Below.trans ?_ (Below.mono (by assumption) (by first | omega | (simp; omega) | (simp; done)))))
      have HBA : Below wA.heap.size wA w1 := ((Below.refl _ wA).alloc (Nat.le_refl _) _).trans (HB2.mono (by omega))
      have HBw : Below w.heap.size w w1 := HA.trans (HBA.mono (by omega))
      refine (goods_any ⟨g, some ⟨bb, off, none⟩, cap, l⟩ w1 hv (RackAt.to HR.out HBw)).mono ?_
      rintro e wG ⟨bm, rfl, hbm, hP, hbG⟩
      have HBg : Below w.heap.size w wG := HBw.trans (hbG.mono HBw.size)
      have hlk := look_place hP n number true
      rw [hgf] at hlk
      simp only [Option.getD_none, Option.getD_some, Option.isSome_none, Option.isSome_some, if_true] at hlk
      have K := entryOfGood_any y gd wG (IssueAt.to hye HBg)
      rw [hge] at K
      have C0 := (HBg.cell (p := ⟨bb, off + o * 4, none⟩) hb).trans c0
      have C1 := (HBg.cell (p := ⟨bb, off + o * 4 + 1, none⟩) hb).trans c1
      have C2 := (HBg.cell (p := ⟨bb, off + o * 4 + 2, none⟩) hb).trans c2
      have C3 := (HBg.cell (p := ⟨bb, off + o * 4 + 3, none⟩) hb).trans c3
      have hGA := hbG.mono HBA.size
      have HGA : Below wA.heap.size wA wG := HBA.trans hGA
      have a1' := (HGA.cell (p := ⟨w.heap.size, 1, none⟩) zA).trans a1
      have KK := Lib.hid K
      clear K hge a0 a1 c0 c1 c2 c3
      go_wp2_with fail
      refine (show Calls _ _ _ _ (fun e' w' => e' = .returned (.tuple #[.agg #[vi 0, vi 0, vi 0, .slice none 0 0], .bool false]) ∧ Below wG.heap.size wG w') from KK.out).mono ?_
      rintro e w2 ⟨rfl, hb2⟩
      go_wp2
      go_ret2
      refine ⟨by rw [HEO.out.1, HEO.out.2]; rfl, ?_⟩
      have HB5 := HBg.trans (hb2.mono HBg.size)
      exact Below.alloc HB5 HB5.size _
    · have EO : numErr ⟨g, some ⟨bb, off, none⟩, cap, l⟩ n number o = 0 ∧ numV ⟨g, some ⟨bb, off, none⟩, cap, l⟩ n number o = e0.number := by have := EE.out; simpa [numO, hgf, HG.out, hge] using this
      have HEO := Lib.hid EO
      clear EO
      go_enter Tryz.func11, Tryz.ntmps11
      go_wp2_with fail
      refine (check_ok ⟨g, some ⟨bb, off, none⟩, cap, l⟩ _ (by repeat (first | assumption | refine Lim.alloc ?_ _ | refine Lim.setCell ?_ (by first | (simp; done) | (simp; omega) | omega) _ | refine Lim.drew ?_)) (RackAt.to HR.out (by (repeat (first | exact Below.refl _ _ | refine Below.setCell ?_ (by first | omega | (simp; omega) | (simp; done)) _ | refine Below.alloc ?_ (by first | omega | (simp; omega) | (simp; done)) _ | refine Below.drew ?_ | refine below_drewN ?_ _ | refine Below.trans ?_ (Below.mono (by assumption) (by first | omega | (simp; omega) | (simp; done))))))) hv).mono ?_
      rintro e wA ⟨rfl, hbA⟩
      have zA : w.heap.size < wA.heap.size := by have := hbA.size; simp at this; omega
      have a1 := (hbA.cell (p := ⟨w.heap.size, 1, none⟩) (by simp)).trans (by simp [go_sem] : _ = some (.slice (some ⟨bb, off, none⟩) l.length cap))
      have a0 := (hbA.cell (p := ⟨w.heap.size, 0, none⟩) (by simp)).trans (by simp [go_sem] : _ = some (vi g))
      have HA : Below w.heap.size w wA := by (repeat (first | exact Below.refl _ _ | refine Below.setCell ?_ (by first | omega | (simp; omega) | (simp; done)) _ | refine Below.alloc ?_ (by first | omega | (simp; omega) | (simp; done)) _ | refine Below.drew ?_ | refine below_drewN ?_ _ | refine Below.trans ?_ (Below.mono (by assumption) (by first | omega | (simp; omega) | (simp; done)))))
      have hlA : Lim wA := hl.next HA
      have hw0 := HA.size
      clear hbA
      go_wp2_with (first | (go_at_call 40; refine (hasIssue_any ⟨g, some ⟨bb, off, none⟩, cap, l⟩ _ _).mono ?_; rintro e w1 ⟨rfl, hb1⟩; obtain ⟨⟨hc1, hf1, hs1⟩, hz1⟩ := after hb1; (try simp only [World.size_alloc, World.size_setCell, World.size_drew] at hz1); have hl1 : Lim w1 := Lim.next (by repeat (first | assumption | refine Lim.alloc ?_ _ | refine Lim.setCell ?_ (by first | (simp; done) | (simp; omega) | omega) _ | refine Lim.drew ?_)) hb1; have hq1 : wA.heap.size < w1.heap.size := (by omega)) | (go_at_call 28; refine (within_any _ _ _ (by omega) (by omega) (by repeat (first | assumption | refine Lim.alloc ?_ _ | refine Lim.setCell ?_ (by first | (simp; done) | (simp; omega) | omega) _ | refine Lim.drew ?_))).mono ?_; rintro e w1 ⟨rfl, hb1⟩; obtain ⟨⟨hc1, hf1, hs1⟩, hz1⟩ := after hb1; (try simp only [World.size_alloc, World.size_setCell, World.size_drew] at hz1); have hl1 : Lim w1 := Lim.next (by repeat (first | assumption | refine Lim.alloc ?_ _ | refine Lim.setCell ?_ (by first | (simp; done) | (simp; omega) | omega) _ | refine Lim.drew ?_)) hb1; have hq1 : wA.heap.size < w1.heap.size := (by omega)) | fail)
      have HB2 : Below (wA.heap.size + 1) (wA.alloc (.cells #[vi g, .slice (some ⟨bb, off, none⟩) l.length cap] 56)) w1 := by (repeat (first | exact Below.refl _ _ | refine Below.setCell ?_ (by first | omega | (simp; omega) | (simp; done)) _ | refine Below.alloc ?_ (by first | omega | (simp; omega) | (simp; done)) _ | refine Below.drew ?_ | refine below_drewN ?_ _ | refine Below.trans ?_ (Below.mono (by assumption) (by first | omega | (simp; omega) | (simp; done)))))
      have HBA : Below wA.heap.size wA w1 := ((Below.refl _ wA).alloc (Nat.le_refl _) _).trans (HB2.mono (by omega))
      have HBw : Below w.heap.size w w1 := HA.trans (HBA.mono (by omega))
      refine (goods_any ⟨g, some ⟨bb, off, none⟩, cap, l⟩ w1 hv (RackAt.to HR.out HBw)).mono ?_
      rintro e wG ⟨bm, rfl, hbm, hP, hbG⟩
      have HBg : Below w.heap.size w wG := HBw.trans (hbG.mono HBw.size)
      have hlk := look_place hP n number true
      rw [hgf] at hlk
      simp only [Option.getD_none, Option.getD_some, Option.isSome_none, Option.isSome_some, if_true] at hlk
      have K := entryOfGood_any y gd wG (IssueAt.to hye HBg)
      rw [hge] at K
      have C0 := (HBg.cell (p := ⟨bb, off + o * 4, none⟩) hb).trans c0
      have C1 := (HBg.cell (p := ⟨bb, off + o * 4 + 1, none⟩) hb).trans c1
      have C2 := (HBg.cell (p := ⟨bb, off + o * 4 + 2, none⟩) hb).trans c2
      have C3 := (HBg.cell (p := ⟨bb, off + o * 4 + 3, none⟩) hb).trans c3
      have hGA := hbG.mono HBA.size
      have HGA : Below wA.heap.size wA wG := HBA.trans hGA
      have a1' := (HGA.cell (p := ⟨w.heap.size, 1, none⟩) zA).trans a1
      have KK := Lib.hid K
      clear K hge a0 a1 c0 c1 c2 c3
      go_wp2_with fail
      refine (show Calls _ _ _ _ (fun e' w' => e' = .returned (.tuple #[e0.val, .bool true]) ∧ Below wG.heap.size wG w') from KK.out).mono ?_
      rintro e w2 ⟨rfl, hb2⟩
      go_wp2
      go_ret2
      refine ⟨by rw [HEO.out.1, HEO.out.2]; rfl, ?_⟩
      have HB5 := HBg.trans (hb2.mono HBg.size)
      exact Below.alloc HB5 HB5.size _
end Go.Proofs.YtpcajmkmmkmekaaGreatDoor

