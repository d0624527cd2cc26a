/- What given produces. -/
import Derived.Test.YtomgnpfpaodpiaaDoorH24
import Derived.WalkSpells
set_option linter.unusedVariables false
set_option linter.unusedSimpArgs false
namespace Go.Proofs.YtomgnpfpaodpiaaDoor
open Go Go.RowKit Go.Shelf
set_option maxHeartbeats 2000000
attribute [local go_sem] Oper.semAt_some
def ordN (f : Floor) : List Nat := (orderF f).map Int.toNat
theorem order_mem {f : Floor} (h9 : f.slips.length ≤ 9) : ∀ x ∈ orderF f, 0 ≤ x ∧ x < f.slips.length := fun x hx => by
  unfold orderF at hx
  rw [isort_mem] at hx
  obtain ⟨y, hy, rfl⟩ := List.mem_map.1 hx
  rw [members_all ⟨f.slips.length, by omega⟩] at hy
  have h1 : y < f.slips.length := List.mem_range.1 hy
  omega
theorem order_len {f : Floor} (h9 : f.slips.length ≤ 9) : (orderF f).length = f.slips.length := by
  unfold orderF
  rw [isort_len, List.length_map, members_all ⟨f.slips.length, by omega⟩, List.length_range]
theorem natsC_ord {f : Floor} (h9 : f.slips.length ≤ 9) : natsC (ordN f) = orderF f := by
  unfold ordN
  rw [natsC, List.map_map]
  conv => rhs; rw [← List.map_id (orderF f)]
  apply List.map_congr_left
  intro x hx
  have := order_mem h9 x hx
  simp; omega
theorem ordN_mem {f : Floor} (h9 : f.slips.length ≤ 9) : ∀ s ∈ ordN f, s < f.slips.length := fun s hs => by
  obtain ⟨x, hx, rfl⟩ := List.mem_map.1 hs
  have := order_mem h9 x hx
  omega
theorem ordN_len {f : Floor} (h9 : f.slips.length ≤ 9) : (ordN f).length = f.slips.length := by rw [ordN, List.length_map, order_len h9]
/-- all sets that one picker can be given, in the desk's order -/
def givenF (f : Floor) (m : Nat) : List Nat := loopF f m 0 0 (ordN f)
abbrev Sub9 := { x : Nat // x < 512 }
abbrev encN (x : Sub9) : Array Value := #[vi x.1]
abbrev Subs (ys : List Sub9) : List Nat := ys.map Subtype.val
/-- what given holds -/
structure GivenAt (w : World) (f : Floor) (m : Nat) (oA qA : Option Addr) (oC qC bm pD pS pI : Nat) : Prop where
  desk : CellsBox w pD 108 (deskC f oA oC qA f.slips.length qC bm)
  slips : CellsBox w pS 113 [vi m]
  fn : CellsBox w pI 130 [inTimeV f]
  floor : FloorAt w w.heap.size f
  ord : IntsAt w w.heap.size oA oC (orderF f)
  secs : IntsAt w w.heap.size qA f.slips.length (secsL f)
theorem GivenAt.cs {w w' : World} {f : Floor} {m : Nat} {oA qA : Option Addr} {oC qC bm pD pS pI : Nat} (h : GivenAt w f m oA qA oC qC bm pD pS pI) (hc : CS w w') : GivenAt w' f m oA qA oC qC bm pD pS pI :=
  ⟨hc.box h.desk, hc.box h.slips, hc.box h.fn, hc.floor h.floor, hc.rows h.ord, hc.rows h.secs⟩
set_option maxRecDepth 100000 in
theorem given_seq (f : Floor) (hv : validB f = true) (m : Nat) (hm : m < 512) (oA qA : Option Addr) (oC qC bm pD pS pI : Nat) (w : World) (hA : GivenAt w f m oA qA oC qC bm pD pS pI) (n : Nat) :
    SeqStopsK Fence.wide n Tryd.prog 117 #[.pointer (some ⟨pD, 0, none⟩), .pointer (some ⟨pS, 0, none⟩), .pointer (some ⟨pI, 0, none⟩)] encN CS (fun ys => Subs ys = givenF f m) (fun pre => ∃ d x r, givenF f m = d ++ x :: r ∧ Subs pre = d ++ [x]) (givenF f m).length w := by
  intro l J' Jx' W hW hJ' hJx' hY' h0'
  obtain ⟨J, hJe⟩ : ∃ J : List Nat → World → Prop, J = fun pre X => ∃ ys, Subs ys = pre ∧ J' ys X := ⟨_, rfl⟩
  obtain ⟨Jx, hJxe⟩ : ∃ Jx : List Nat → World → Prop, Jx = fun pre X => ∃ ys, Subs ys = pre ∧ Jx' ys X := ⟨_, rfl⟩
  have hJ : AbidesFrom W.heap.size J := by
    rw [hJe]
    rintro s X Y row ⟨ys, h1, h2⟩ hg hr
    exact ⟨ys, h1, hJ' ys X Y row h2 hg hr⟩
  have h0 : J [] W := by rw [hJe]; exact ⟨[], rfl, h0'⟩
  have hY : ∀ (pre : List Nat) (x : Nat) (W1 : World), x < 512 → J pre W1 → pre.length < (givenF f m).length → YieldAt Fence.wide 0 Tryd.prog l #[vi x] W1 fun e W' => (e = .returned (.bool true) ∧ J (pre ++ [x]) W' ∧ CS W1 W') ∨ (e = .returned (.bool false) ∧ Jx (pre ++ [x]) W') := by
    rintro pre x W1 hx hj hl
    rw [hJe] at hj
    obtain ⟨ys, rfl, h2⟩ := hj
    obtain ⟨fn, tmps, assign, body, hy, hR⟩ := yield_any (m' := 0) (hY' ys ⟨x, hx⟩ W1 h2 (by simpa [Subs] using hl))
    refine ⟨fn, tmps, assign, body, hy, hR.mono ?_⟩
    rintro e W' (⟨h3, h4, h5⟩ | ⟨h3, h4⟩)
    · exact .inl ⟨h3, by rw [hJe]; exact ⟨ys ++ [⟨x, hx⟩], by simp [Subs], h4⟩, h5⟩
    · exact .inr ⟨h3, by rw [hJxe]; exact ⟨ys ++ [⟨x, hx⟩], by simp [Subs], h4⟩⟩
  have h9 := (fine hv).slips9
  have HA := Lib.hid (hA.cs (cs_of_below hW))
  have GV := Lib.hid (fun (pG pY : Nat) (W1 : World) hb hg => give_any f hv m hm oA qA oC qC bm pD pS pI pG pY l (givenF f m).length W.heap.size J Jx hJ hY (ordN f).length (ordN f) 0 0 oA oC [] W1 rfl (by omega) (by omega) (by rw [ordN_len h9]; omega) (ordN_mem h9) (by rw [ordN_len h9]; omega) hg (by rw [natsC_ord h9]; exact ((hA.cs (cs_of_below hW)).cs (cs_of_below hb)).ord) (abides_below hJ h0 hb) (by simp [givenF]))
  have hlen : (ordN f).length = f.slips.length := ordN_len h9
  rw [hlen] at GV
  simp only [List.nil_append] at GV
  have HJE := Lib.hid hJe
  have HJXE := Lib.hid hJxe
  clear hlen hA hY hW h0 hY' h0' hJe hJxe
  have f6 := HA.out.desk.cell (j := 6) rfl
  have zD := HA.out.desk.lt
  refine (callsIn_wide (n := n)).2 ?_
  refine (callsIn_wide (n := 6)).1 ?_
  refine callsIn_of_wp Tryd.func117 rfl trivial ?_ rfl
  simp only [Tryd.ntmps117, List.size_toArray, List.length_cons, List.length_nil, Nat.reduceAdd, Nat.reduceSub, Array.replicate_succ, Array.replicate_zero, List.push_toArray, List.append_toArray, List.nil_append, List.cons_append]
  gi_wp2_with fail
  refine ⟨trivial, ?_⟩
  have X1 := (CellsBox.new W 158 [.func (.yield l) #[] #[]]).alloc (.cells #[giveV pD pS pI (W.heap.size + 1) W.heap.size] 159)
  have X2 := CellsBox.new (W.alloc (.cells #[.func (.yield l) #[] #[]] 158)) 159 [giveV pD pS pI (W.heap.size + 1) W.heap.size]
  rw [World.size_alloc] at X2
  have hb : Below W.heap.size W ((W.alloc (.cells #[.func (.yield l) #[] #[]] 158)).alloc (.cells #[giveV pD pS pI (W.heap.size + 1) W.heap.size] 159)) := by (repeat (first | exact Below.refl _ _ | refine Below.setCell ?_ (by first | omega | (simp; omega) | (simp; done)) _ | refine Below.alloc ?_ (by first | omega | (simp; omega) | (simp; done)) _ | refine Below.drew ?_ | refine below_drewN ?_ _ | refine Below.trans ?_ (Below.mono (by assumption) (by first | omega | (simp; omega) | (simp; done)))))
  have hA2 := HA.out.cs (cs_of_below hb)
  refine (callsIn_wide.2 (GV.out (W.heap.size + 1) W.heap.size _ hb ⟨hA2.desk, hA2.slips, hA2.fn, X2, X1, hA2.floor, hA2.secs⟩)).mono ?_
  rintro e W9 ⟨b, rfl, hT⟩
  have HT := Lib.hid hT
  clear hT X1 X2 hb hA2
  gi_wp2_with fail
  go_end0
  refine ⟨⟨_, rfl⟩, ?_⟩
  rcases HT.out.out with ⟨_, h1, h2⟩ | ⟨_, d, x, r, h1, h2⟩
  · rw [HJE.out] at h1
    obtain ⟨ys, h3, h4⟩ := h1
    exact .inl ⟨ys, h3, h4⟩
  · rw [HJXE.out] at h2
    obtain ⟨ys, h3, h4⟩ := h2
    exact .inr ⟨ys, ⟨d, x, r, h1, h3⟩, h4⟩
abbrev givenV (pD pS pI : Nat) : Value := .func (.func 117) #[] #[.pointer (some ⟨pD, 0, none⟩), .pointer (some ⟨pS, 0, none⟩), .pointer (some ⟨pI, 0, none⟩)]
theorem given_any (f : Floor) (m : Nat) (oA qA : Option Addr) (oC qC bm : Nat) (w : World) (hF : FloorAt w w.heap.size f) (hO : IntsAt w w.heap.size oA oC (orderF f)) (hQ : IntsAt w w.heap.size qA f.slips.length (secsL f)) :
    Calls Tryd.prog 108 #[.agg (deskC f oA oC qA f.slips.length qC bm).toArray, vi m, inTimeV f] w fun e w' => ∃ pD pS pI, e = .returned (givenV pD pS pI) ∧ GivenAt w' f m oA qA oC qC bm pD pS pI ∧ Below w.heap.size w w' := by
  have HF := Lib.hid hF
  have HO := Lib.hid hO
  have HQ := Lib.hid hQ
  clear hF hO hQ
  show Calls Tryd.prog 108 #[.agg #[.slice f.fA f.far.length f.fC, vi f.slo, vi f.shi, .slice f.pA f.picks.length f.pC, vi f.carry, .slice f.sA f.slips.length f.sC, .slice oA f.slips.length oC, .slice qA f.slips.length qC, .map (some bm)], vi m, inTimeV f] w _
  go_enter Tryd.func108, Tryd.ntmps108
  have X1 := ((CellsBox.new w 108 (deskC f oA oC qA f.slips.length qC bm)).alloc (.cells #[vi m] 113)).alloc (.cells #[inTimeV f] 130)
  have X2 := (CellsBox.new (w.alloc (.cells (deskC f oA oC qA f.slips.length qC bm).toArray 108)) 113 [vi m]).alloc (.cells #[inTimeV f] 130)
  have X3 := CellsBox.new ((w.alloc (.cells (deskC f oA oC qA f.slips.length qC bm).toArray 108)).alloc (.cells #[vi m] 113)) 130 [inTimeV f]
  simp only [World.size_alloc] at X2 X3
  have HX1 := Lib.hid X1
  have HX2 := Lib.hid X2
  have HX3 := Lib.hid X3
  have hb : Below w.heap.size w (((w.alloc (.cells (deskC f oA oC qA f.slips.length qC bm).toArray 108)).alloc (.cells #[vi m] 113)).alloc (.cells #[inTimeV f] 130)) := by (repeat (first | exact Below.refl _ _ | refine Below.setCell ?_ (by first | omega | (simp; omega) | (simp; done)) _ | refine Below.alloc ?_ (by first | omega | (simp; omega) | (simp; done)) _ | refine Below.drew ?_ | refine below_drewN ?_ _ | refine Below.trans ?_ (Below.mono (by assumption) (by first | omega | (simp; omega) | (simp; done)))))
  have HB := Lib.hid hb
  clear X1 X2 X3 hb
  go_wp2_with fail
  go_ret
  exact ⟨_, _, _, rfl, ⟨HX1.out, HX2.out, HX3.out, HF.out.to HB.out, HO.out.to HB.out, HQ.out.to HB.out⟩, HB.out⟩
end Go.Proofs.YtomgnpfpaodpiaaDoor

/- The map from a crew to what one of its pickers is given. -/
namespace Go.Proofs.YtomgnpfpaodpiaaDoor
open Go Go.RowKit
set_option maxHeartbeats 1000000
abbrev crewV (m p : Nat) : Value := .agg #[vi m, vi p]
structure CE where
  m : Nat
  p : Nat
  g : Nat
  born : Nat
def CE.entry (q : CE) : MapEntry := ⟨crewV q.m q.p, vi q.g, q.born⟩
def CE.is (m p : Nat) (q : CE) : Bool := m == q.m && p == q.p
def CrewMap (w : World) (b : Nat) (f : Nat → Nat → Option Nat) : Prop :=
  ∃ (L : List CE) (clock : Nat), w.heap[b]? = some (.map (L.map CE.entry).toArray clock) ∧ ∀ m p, f m p = (L.find? (CE.is m p)).map CE.g
theorem CrewMap.keep {w w' : World} {b : Nat} {f : Nat → Nat → Option Nat} (h : CrewMap w b f) (hb : w'.heap[b]? = w.heap[b]?) : CrewMap w' b f := by
  obtain ⟨L, c, h1, h2⟩ := h
  exact ⟨L, c, hb.trans h1, h2⟩
theorem CrewMap.lt {w : World} {b : Nat} {f : Nat → Nat → Option Nat} (h : CrewMap w b f) : b < w.heap.size := by
  obtain ⟨es, c, h1, _⟩ := h
  exact (Array.getElem?_eq_some_iff.1 h1).1
theorem CrewMap.below {w w' : World} {b : Nat} {f : Nat → Nat → Option Nat} (h : CrewMap w b f) (hb : Below w.heap.size w w') : CrewMap w' b f := h.keep (hb.block b h.lt)
theorem CrewMap.new {w : World} {b : Nat} (h : w.heap[b]? = some (.map #[] 0)) : CrewMap w b fun _ _ => none := ⟨[], 0, h, by simp⟩
theorem equal_crew (w : World) (a b c d : Nat) : (Op.equal 116 (crewV a b) (crewV c d)).run Tryd.prog w = .ok (a == c && b == d) w := by
  simp [Op.equal, Op.maxDepth, go_sem]
  have e1 : ((a : Int) = c) = (a = c) := propext (by omega)
  have e2 : ((b : Int) = d) = (b = d) := propext (by omega)
  simp only [e1, e2]
  by_cases h1 : a = c <;> by_cases h2 : b = d <;> simp [h1, h2]
theorem check_crew (e : Bool) (w : World) (a b : Nat) : (Instr.checkKey e 10000 116 (crewV a b)).run Tryd.prog w = .ok () w := by kernel_rfl
theorem ask_crew (w : World) (m p : Nat) (L : List CE) : ∀ k : Nat, ∃ r, (Instr.findAsking 116 (crewV m p) (L.map CE.entry) k).run Tryd.prog w = .ok r w ∧ r.map Prod.snd = (L.find? (CE.is m p)).map (fun q => vi q.g) ∧ r.map Prod.fst = (L.findIdx? (CE.is m p)).map (· + k) := by
  induction L with
  | nil => intro k; exact ⟨none, rfl, rfl, rfl⟩
  | cons q L ih =>
    intro k
    simp only [List.map_cons, Instr.findAsking, Sem.run_bind, CE.entry, equal_crew, Result.andThen]
    by_cases hq : (m == q.m && p == q.p) = true
    · refine ⟨some (k, vi q.g), by simp [hq], by simp [List.find?_cons, CE.is, hq], by simp [List.findIdx?_cons, CE.is, hq]⟩
    · have hq' : (m == q.m && p == q.p) = false := by simpa using hq
      obtain ⟨r, h1, h2, h3⟩ := ih (k + 1)
      refine ⟨r, by simpa [hq'] using h1, by simpa [List.find?_cons, CE.is, hq'] using h2, ?_⟩
      rw [h3, List.findIdx?_cons]
      simp only [CE.is, hq']
      cases L.findIdx? (CE.is m p) <;> simp [Function.comp]
      omega
theorem under_crew : Tryd.prog.underlying 116 = some (.struct (Tryd.prog.fieldsOf 116)) := by kernel_rfl
theorem find_crew (w : World) (m p : Nat) (L : List CE) : ∃ r, (Instr.findKey 116 (crewV m p) (L.map CE.entry)).run Tryd.prog w = .ok r w ∧ r.map Prod.snd = (L.find? (CE.is m p)).map (fun q => vi q.g) ∧ r.map Prod.fst = L.findIdx? (CE.is m p) := by
  cases L with
  | nil => exact ⟨none, by kernel_rfl, rfl, rfl⟩
  | cons q L =>
    obtain ⟨r, h1, h2, h3⟩ := ask_crew w m p (q :: L) 0
    refine ⟨r, ?_, h2, by simpa using h3⟩
    rw [← h1]
    simp only [Instr.findKey, Sem.run_bind, run_underlying under_crew, Result.andThen, List.map_cons, Instr.findNow, Instr.sameNow]
theorem look_crew {w : World} {b : Nat} {f : Nat → Nat → Option Nat} (h : CrewMap w b f) (m p : Nat) (ok : Bool) :
    (Instr.lookup 106 (.map (some b)) (crewV m p) ok).run Tryd.prog w = .ok (if ok then .tuple #[vi (((f m p).getD 0 : Nat)), .bool (f m p).isSome] else vi (((f m p).getD 0 : Nat))) w := by
  obtain ⟨L, c, h1, h2⟩ := h
  obtain ⟨r, h3, h4, _⟩ := find_crew w m p L
  have hu : Tryd.prog.underlying 106 = some (.map 116 113) := by kernel_rfl
  have hz : (zeroValue 113).run Tryd.prog w = .ok (vi 0) w := by kernel_rfl
  rw [h2]
  rcases r with _ | ⟨k, v⟩
  · have hf : L.find? (CE.is m p) = none := by simpa using h4.symm
    rw [hf]
    simp [Instr.lookup, run_underlying hu, getObj, Sem.run, h1, check_crew, h3, hz, Result.andThen]
  · cases hf : L.find? (CE.is m p) with
    | none => rw [hf] at h4; cases h4
    | some q =>
      rw [hf] at h4
      obtain rfl : v = vi q.g := by simpa using h4
      simp [Instr.lookup, run_underlying hu, getObj, Sem.run, h1, check_crew, h3, hz, Result.andThen]
def CE.put (g : Nat) (q : CE) : CE := { q with g := g }
theorem same_crew (a b : Nat) (w : World) : (Instr.keyThatStays (crewV a b) (crewV a b)).run Tryd.prog w = .ok (crewV a b) w := by
  simp [Instr.keyThatStays, Instr.sameBits]
theorem idx_is {p : CE → Bool} : ∀ {L : List CE} {k : Nat}, L.findIdx? p = some k → ∃ q, L[k]? = some q ∧ p q = true
  | [], k, h => by simp at h
  | q :: L, k, h => by
    rw [List.findIdx?_cons] at h
    by_cases hq : p q = true
    · rw [if_pos hq] at h; cases h; exact ⟨q, rfl, hq⟩
    · have hq' : p q = false := by simpa using hq
      rw [hq'] at h
      simp only [Bool.false_eq_true, if_false] at h
      obtain ⟨i, hi, rfl⟩ := Option.map_eq_some_iff.1 h
      obtain ⟨q', h1, h2⟩ := idx_is hi
      exact ⟨q', by simpa using h1, h2⟩
theorem put_entry (g : Nat) : ∀ (L : List CE) (k m p : Nat), (∃ q, L[k]? = some q ∧ CE.is m p q = true) → (L.map CE.entry).modify k (fun e => { e with key := crewV m p, val := vi g }) = (L.modify k (CE.put g)).map CE.entry
  | [], k, m, p, h => by obtain ⟨q, h1, _⟩ := h; simp at h1
  | q :: L, 0, m, p, h => by
    obtain ⟨q', h1, h2⟩ := h
    simp at h1; subst h1
    simp only [CE.is, Bool.and_eq_true, beq_iff_eq] at h2
    obtain ⟨rfl, rfl⟩ := h2
    simp [CE.entry, CE.put]
  | q :: L, k + 1, m, p, h => by
    have ih := put_entry g L k m p (by simpa using h)
    simp only [List.map_cons, List.modify_succ_cons, ih]
theorem find_put (m p g : Nat) : ∀ (L : List CE) (k : Nat), L.findIdx? (CE.is m p) = some k → ∀ m' p', ((L.modify k (CE.put g)).find? (CE.is m' p')).map CE.g = if m' = m ∧ p' = p then some g else (L.find? (CE.is m' p')).map CE.g
  | [], k, h => by simp at h
  | q :: L, k, h => by
    intro m' p'
    rw [List.findIdx?_cons] at h
    by_cases hq : CE.is m p q = true
    · rw [if_pos hq] at h
      cases h
      have hq2 := hq
      simp only [CE.is, Bool.and_eq_true, beq_iff_eq] at hq2
      simp only [List.modify_zero_cons, List.find?_cons]
      by_cases e : m' = m ∧ p' = p
      · obtain ⟨rfl, rfl⟩ := e
        have : CE.is m' p' (CE.put g q) = true := hq
        rw [this]
        simp [CE.put]
      · rw [if_neg e]
        have h1 : CE.is m' p' q = false := by simp [CE.is]; omega
        have h2 : CE.is m' p' (CE.put g q) = false := h1
        rw [h1, h2]
    · have hq' : CE.is m p q = false := by simpa using hq
      rw [hq'] at h
      simp only [Bool.false_eq_true, if_false] at h
      obtain ⟨i, hi, rfl⟩ := Option.map_eq_some_iff.1 h
      have ih := find_put m p g L i hi m' p'
      simp only [List.modify_succ_cons, List.find?_cons]
      cases hc : CE.is m' p' q with
      | false => simpa using ih
      | true =>
        have : ¬ (m' = m ∧ p' = p) := by
          rintro ⟨rfl, rfl⟩
          rw [hq'] at hc; cases hc
        rw [if_neg this]
theorem store_crew {w : World} {b : Nat} {f : Nat → Nat → Option Nat} (h : CrewMap w b f) (m p g : Nat) :
    ∃ w2, (Instr.mapUpdate 106 (.map (some b)) (crewV m p) (vi g)).run Tryd.prog w = .ok () w2 ∧ CrewMap w2 b (fun m' p' => if m' = m ∧ p' = p then some g else f m' p') ∧ CS w w2 ∧ w2.heap.size = w.heap.size ∧ ∀ k, k ≠ b → w2.heap[k]? = w.heap[k]? := by
  obtain ⟨L, c, h1, h2⟩ := h
  obtain ⟨r, h3, h4, h5⟩ := find_crew w m p L
  have hb : b < w.heap.size := (Array.getElem?_eq_some_iff.1 h1).1
  have hu : Tryd.prog.underlying 106 = some (.map 116 113) := by kernel_rfl
  have cs : ∀ o : Obj, CS w { w with heap := w.heap.setIfInBounds b o } ∧ ∀ k, k ≠ b → ({ w with heap := w.heap.setIfInBounds b o } : World).heap[k]? = w.heap[k]? := fun o => by
    have hk : ∀ k, k ≠ b → ({ w with heap := w.heap.setIfInBounds b o } : World).heap[k]? = w.heap[k]? := fun k hk => by simp [Array.getElem?_setIfInBounds]; omega
    refine ⟨⟨rfl, rfl, rfl, by simp, fun k cc t z hc => ?_⟩, hk⟩
    have hne : k ≠ b := by rintro rfl; rw [h1] at hc; cases hc
    exact (hk k hne).trans hc
  rcases r with _ | ⟨k, v⟩
  · have hf : L.find? (CE.is m p) = none := by simpa using h4.symm
    refine ⟨{ w with heap := w.heap.setIfInBounds b (.map ((L ++ [(⟨m, p, g, c⟩ : CE)]).map CE.entry).toArray (c + 1)) }, ?_, ⟨L ++ [⟨m, p, g, c⟩], c + 1, by simp [hb], ?_⟩, (cs _).1, by simp, (cs _).2⟩
    · simp [Instr.mapUpdate, run_underlying hu, getObj, setObj, Sem.run, h1, check_crew, h3, Result.andThen, CE.entry]
    · intro m' p'
      show (if m' = m ∧ p' = p then some g else f m' p') = _
      rw [List.find?_append, h2]
      by_cases hq : m' = m ∧ p' = p
      · obtain ⟨rfl, rfl⟩ := hq
        simp [hf, CE.is]
      · have : CE.is m' p' ⟨m, p, g, c⟩ = false := by simp [CE.is]; omega
        simp [hq, this]
  · simp only [Option.map_some] at h5
    refine ⟨{ w with heap := w.heap.setIfInBounds b (.map ((L.modify k (CE.put g)).map CE.entry).toArray c) }, ?_, ⟨L.modify k (CE.put g), c, by simp [hb], fun m' p' => ?_⟩, (cs _).1, by simp, (cs _).2⟩
    · simp [Instr.mapUpdate, run_underlying hu, getObj, setObj, Sem.run, h1, check_crew, h3, Result.andThen, CE.entry]
      obtain ⟨q, hq, hqi⟩ := idx_is h5.symm
      have hq2 := hqi
      simp only [CE.is, Bool.and_eq_true, beq_iff_eq] at hq2
      have he := put_entry g L k m p ⟨q, hq, hqi⟩
      rw [hq]
      simp only [Option.map_some, Function.comp, CE.entry, Option.getD_some, ← hq2.1, ← hq2.2, same_crew, h1, he]
    · show (if m' = m ∧ p' = p then some g else f m' p') = _
      rw [find_put m p g L k h5.symm m' p', h2]
end Go.Proofs.YtomgnpfpaodpiaaDoor

/- Which crews have their slips in time: plain forms. -/
namespace Go.Proofs.YtomgnpfpaodpiaaDoor
open Go Go.RowKit
/-- slips without some of them -/
def lessF (m x : Nat) : Nat := m ^^^ (m &&& x)
theorem less_lt {m : Nat} (hm : m < 512) (x : Nat) : lessF m x < 512 := Nat.xor_lt_two_pow (n := 9) hm (Nat.lt_of_le_of_lt Nat.and_le_left hm)
theorem less_bits (m x : Nat) (hm : m < 512) (hx : x < 512) : m &&& (2 ^ 64 - 1 - x) = lessF m x := by
  apply Nat.eq_of_testBit_eq
  intro i
  rw [show 2 ^ 64 - 1 - x = 2 ^ 64 - (x + 1) by omega, Nat.testBit_and, Nat.testBit_two_pow_sub_succ (by omega), lessF, Nat.testBit_xor, Nat.testBit_and]
  by_cases h : m.testBit i = true
  · have hi : i < 64 := by
      apply Classical.byContradiction
      intro hn
      have : m < 2 ^ i := Nat.lt_of_lt_of_le (Nat.lt_of_lt_of_le hm (show 512 ≤ 2 ^ 64 by decide)) (Nat.pow_le_pow_right (by omega) (by omega))
      rw [Nat.testBit_lt_two_pow this] at h
      cases h
    rw [h]
    simp [hi]
  · have h' : m.testBit i = false := by simpa using h
    rw [h']
    simp
set_option maxRecDepth 100000 in
theorem less_fact (m x : Nat) (hm : m < 512) (hx : x < 512) : bits BinOp.andNot IntKind.i64 (m : Int) (x : Int) = ((lessF m x : Nat) : Int) := by
  unfold bits
  simp
  have e1 : m % 2 ^ IntKind.i64.bits = m := Nat.mod_eq_of_lt (Nat.lt_of_lt_of_le hm (by decide))
  have e2 : x % 2 ^ IntKind.i64.bits = x := Nat.mod_eq_of_lt (Nat.lt_of_lt_of_le hx (by decide))
  have e3 : (2 : Nat) ^ IntKind.i64.bits = 2 ^ 64 := rfl
  rw [e1, e2, e3, less_bits m x hm hx]
  have := less_lt hm x
  exact wrapI (by omega) (by omega)
/-- has a crew its slips in time -/
def canF (f : Floor) : Nat → Nat → Bool
  | 0, m => m == 0
  | p + 1, m => m == 0 || (givenF f m).any fun x => canF f p (lessF m x)
/-- what one picker of a crew is given -/
def shareF (f : Floor) (p m : Nat) : Nat := ((givenF f m).find? fun x => canF f (p - 1) (lessF m x)).getD 0
theorem given_pos (f : Floor) (m : Nat) : ∀ (rest : List Nat) (to : Nat) (sec : Int), ∀ x ∈ loopF f m to sec rest, x ≠ 0
  | [], to, sec, x, h => by
    rw [loopF] at h
    split at h
    · simp at h
    · rw [List.mem_singleton] at h; subst h; assumption
  | s :: rest, to, sec, x, h => by
    rw [loopF, List.mem_append] at h
    rcases h with h | h
    · split at h
      · exact given_pos f m rest _ _ x h
      · simp at h
    · exact given_pos f m rest _ _ x h
theorem given_lt (f : Floor) (m : Nat) : ∀ (rest : List Nat) (to : Nat) (sec : Int), to < 512 → (∀ s ∈ rest, s < 9) → ∀ x ∈ loopF f m to sec rest, x < 512
  | [], to, sec, hto, _, x, h => by
    rw [loopF] at h
    split at h
    · simp at h
    · rw [List.mem_singleton] at h; subst h; exact hto
  | s :: rest, to, sec, hto, hr, x, h => by
    have hs := hr s (by simp)
    rw [loopF, List.mem_append] at h
    rcases h with h | h
    · split at h
      · exact given_lt f m rest _ _ (Nat.or_lt_two_pow (n := 9) hto (Nat.pow_lt_pow_right (by omega) hs)) (fun y hy => hr y (by simp [hy])) x h
      · simp at h
    · exact given_lt f m rest _ _ hto (fun y hy => hr y (by simp [hy])) x h
theorem can_share {f : Floor} {p m : Nat} (hp : p ≠ 0) (hm : m ≠ 0) : canF f p m = decide (shareF f p m ≠ 0) := by
  obtain ⟨q, rfl⟩ : ∃ q, p = q + 1 := ⟨p - 1, by omega⟩
  rw [canF, shareF]
  have h0 : (m == 0) = false := by simpa using hm
  rw [h0, Bool.false_or, Nat.add_sub_cancel]
  cases hf : (givenF f m).find? fun x => canF f q (lessF m x) with
  | none =>
    rw [List.find?_eq_none] at hf
    have : ((givenF f m).any fun x => canF f q (lessF m x)) = false := by
      rw [List.any_eq_false]
      exact hf
    rw [this]
    simp
  | some x =>
    have hx := List.mem_of_find?_eq_some hf
    have h1 := given_pos f m _ _ _ x hx
    have h2 := List.find?_some hf
    have : ((givenF f m).any fun x => canF f q (lessF m x)) = true := List.any_eq_true.2 ⟨x, hx, h2⟩
    rw [this]
    simp [h1]
/-- what is in the map of shares of crews of at most so many -/
structure Inv (f : Floor) (P : Nat) (μ : Nat → Nat → Option Nat) : Prop where
  val : ∀ m p s, p ≤ P → μ m p = some s → m ≠ 0 ∧ p ≠ 0 ∧ s = shareF f p m
  rest : ∀ m p s, p ≤ P → μ m p = some s → s ≠ 0 → lessF m s ≠ 0 → p - 1 ≠ 0 → μ (lessF m s) (p - 1) ≠ none
structure Grows (P : Nat) (μ μ' : Nat → Nat → Option Nat) : Prop where
  above : ∀ m p, P < p → μ' m p = μ m p
  keep : ∀ m p s, μ m p = some s → μ' m p = some s
theorem Grows.refl (P : Nat) (μ : Nat → Nat → Option Nat) : Grows P μ μ := ⟨fun _ _ _ => rfl, fun _ _ _ h => h⟩
theorem Grows.trans {P : Nat} {a b c : Nat → Nat → Option Nat} (h : Grows P a b) (k : Grows P b c) : Grows P a c := ⟨fun m p hp => (k.above m p hp).trans (h.above m p hp), fun m p s e => k.keep m p s (h.keep m p s e)⟩
theorem Inv.less {f : Floor} {P Q : Nat} {μ : Nat → Nat → Option Nat} (h : Inv f P μ) (hq : Q ≤ P) : Inv f Q μ := ⟨fun m p s hp => h.val m p s (by omega), fun m p s hp => h.rest m p s (by omega)⟩
def setM (μ : Nat → Nat → Option Nat) (m p g : Nat) : Nat → Nat → Option Nat := fun m' p' => if m' = m ∧ p' = p then some g else μ m' p'
theorem set_less {f : Floor} {P : Nat} {μ : Nat → Nat → Option Nat} (h : Inv f P μ) (m g : Nat) : Inv f P (setM μ m (P + 1) g) := by
  refine ⟨fun m' p' s hp e => ?_, fun m' p' s hp e h1 h2 h3 => ?_⟩
  · rw [setM, if_neg (by omega)] at e
    exact h.val m' p' s hp e
  · rw [setM, if_neg (by omega)] at e
    rw [setM, if_neg (by omega)]
    exact h.rest m' p' s hp e h1 h2 h3
/-- the share of a crew is put into the map -/
theorem Inv.close {f : Floor} {P m : Nat} {μ μ1 : Nat → Nat → Option Nat} (h : Inv f (P + 1) μ) (hm : m ≠ 0) (hn : μ m (P + 1) = none) (h1 : Inv f P μ1) (hg : Grows P (setM μ m (P + 1) 0) μ1) (s : Nat) (hs : s = shareF f (P + 1) m) (hr : s ≠ 0 → lessF m s ≠ 0 → P ≠ 0 → μ1 (lessF m s) P ≠ none) :
    Inv f (P + 1) (setM μ1 m (P + 1) s) ∧ Grows (P + 1) μ (setM μ1 m (P + 1) s) := by
  have up : ∀ m' p' t, μ m' p' = some t → setM μ1 m (P + 1) s m' p' = some t := fun m' p' t e => by
    have hne : ¬ (m' = m ∧ p' = P + 1) := by rintro ⟨rfl, rfl⟩; rw [hn] at e; cases e
    rw [setM, if_neg hne]
    exact hg.keep m' p' t (by rw [setM, if_neg hne]; exact e)
  refine ⟨⟨fun m' p' t hp e => ?_, fun m' p' t hp e g1 g2 g3 => ?_⟩, ⟨fun m' p' hp => ?_, up⟩⟩
  · by_cases hc : m' = m ∧ p' = P + 1
    · obtain ⟨rfl, rfl⟩ := hc
      rw [setM, if_pos ⟨rfl, rfl⟩] at e
      cases e
      exact ⟨hm, by omega, hs⟩
    · rw [setM, if_neg hc] at e
      by_cases hp2 : p' ≤ P
      · exact h1.val m' p' t hp2 e
      · have : μ1 m' p' = μ m' p' := by rw [hg.above m' p' (by omega), setM, if_neg hc]
        rw [this] at e
        exact h.val m' p' t hp e
  · have lift : μ1 (lessF m' t) (p' - 1) ≠ none → setM μ1 m (P + 1) s (lessF m' t) (p' - 1) ≠ none := fun hx => by
      rw [setM, if_neg (by omega)]; exact hx
    by_cases hc : m' = m ∧ p' = P + 1
    · obtain ⟨rfl, rfl⟩ := hc
      rw [setM, if_pos ⟨rfl, rfl⟩] at e
      cases e
      exact lift (hr g1 g2 (by omega))
    · rw [setM, if_neg hc] at e
      by_cases hp2 : p' ≤ P
      · exact lift (h1.rest m' p' t hp2 e g1 g2 g3)
      · have e2 : μ1 m' p' = μ m' p' := by rw [hg.above m' p' (by omega), setM, if_neg hc]
        rw [e2] at e
        have h9 := h.rest m' p' t hp e g1 g2 g3
        obtain ⟨u, hu⟩ : ∃ u, μ (lessF m' t) (p' - 1) = some u := Option.ne_none_iff_exists'.1 h9
        rw [up _ _ _ hu]
        simp
  · rw [setM, if_neg (by omega), hg.above m' p' (by omega), setM, if_neg (by omega)]
end Go.Proofs.YtomgnpfpaodpiaaDoor

