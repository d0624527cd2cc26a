/- A tour appended to the list. -/
import Derived.Test.YtomgnpfpaodpiaaDoorH29
import Derived.Test.YtomgnpfpaodpiaaDoorH22
import Derived.Test.YtomgnpfpaodpiaaDoorH19
import Derived.Laws.OwnMore
import Derived.ArgAppend
import Derived.Stop.RegionWithIn
import Derived.Deep.RegionLawGrows
set_option linter.unusedVariables false
set_option linter.unusedSimpArgs false
namespace Go.Proofs.YtomgnpfpaodpiaaDoor
open Go Go.RowKit Go.Shelf
theorem list_other {w7 w8 : World} {base L : Nat} {want : List (List SLine)} {v : Value} {ts : List STour} (h : ListIn w7 base L want v ts) (hg : w7.grownBy w8 v.ownBlock) (k : Nat) (t' : TypeId) (cs : List Value) (hne : t' ≠ lsT) (hk : CellsBox w7 k t' cs) : CellsBox w8 k t' cs :=
  (hg.block k hk.lt fun e => by
    rcases h.own.2 with ⟨rfl, _⟩ | ⟨g, cap, cur, rfl, _, h2, _⟩
    · cases e
    · cases e
      unfold CellsBox at hk
      rw [h2] at hk; cases hk; exact hne rfl).trans hk
theorem list_box {w7 w8 : World} {base L : Nat} {want : List (List SLine)} {v : Value} {ts : List STour} (h : ListIn w7 base L want v ts) (hg : w7.grownBy w8 v.ownBlock) : Boxed w8 L llT v :=
  list_other h hg L llT [v] (by decide) h.box
theorem list_append {X w7 w8 w9 : World} {base L n₀ : Nat} {want : List (List SLine)} {v v5 : Value} {ts : List STour} {t : STour} (hB : Below X.heap.size X w7) (h : ListIn w7 base L want v ts) (ht : TourIn w7 t) (hg : w7.grownBy w8 v.ownBlock)
    (hown8 : w8.ownsRow base lsT 1 v5 (ts.length + 1) (ts.map STour.slice ++ [t.slice])) (h9 : Below w8.heap.size w8 w9) (hn : n₀ ≤ base) (hnX : n₀ ≤ X.heap.size) :
    ListIn (w9.setCell ⟨L, 0, none⟩ v5) base L (want ++ [t.lines]) v5 (ts ++ [t]) ∧ KE lsT n₀ L X (w9.setCell ⟨L, 0, none⟩ v5) ∧ ∀ B, KeepsFrom B X (w9.setCell ⟨L, 0, none⟩ v5) := by
  have own : ∀ k, v.ownBlock = some k → base ≤ k ∧ ∃ cs, w7.heap[k]? = some (.cells cs lsT (0, 0)) := fun k hk => by
    rcases h.own.2 with ⟨rfl, _⟩ | ⟨g, cap, cur, rfl, h1, h2, _⟩
    · cases hk
    · cases hk; exact ⟨h1, _, h2⟩
  have ty : ∀ (k : Nat) (cs : Array Value) (t' : TypeId), t' ≠ lsT → w7.heap[k]? = some (.cells cs t' (0, 0)) → some k ≠ v.ownBlock := fun k cs t' hne hk e => by
    obtain ⟨_, cs', h1⟩ := own k e.symm
    rw [hk] at h1; cases h1; exact hne rfl
  have up : ∀ k, k < w7.heap.size → some k ≠ v.ownBlock → w9.heap[k]? = w7.heap[k]? := fun k hk hne => (h9.block k (Nat.lt_of_lt_of_le hk hg.size)).trans (hg.block k hk hne)
  have step : ∀ k, k < w7.heap.size → some k ≠ v.ownBlock → k ≠ L → (w9.setCell ⟨L, 0, none⟩ v5).heap[k]? = w7.heap[k]? := fun k hk hne hl => (heap_setCell_other w9 _ k v5 hl).trans (up k hk hne)
  have hLlt := h.box.lt
  have hLne : some L ≠ v.ownBlock := ty L _ llT (by decide) h.box
  have b9 : Boxed w9 L llT v := (up L hLlt hLne).trans h.box
  have hsz : w7.heap.size ≤ (w9.setCell ⟨L, 0, none⟩ v5).heap.size := by
    have := hg.size
    have := h9.size
    simp; omega
  have own9 := own_keep hown8 h9
  refine ⟨⟨b9.set v5, by simp [h.eq], ?_, fun t' ht' => ?_⟩, ⟨⟨?_, ?_, ?_, ?_, fun k hk hl => ?_⟩, fun k c t' hl hne hk => ?_⟩, fun B => ⟨Nat.le_trans hB.size hsz, fun k o hk ho hc => ?_⟩⟩
  · rw [List.length_append, List.length_singleton, List.map_append]
    exact own9.kept (grownBy_setCell' w9 L v5) (.inr (b9.not_row (by decide) own9).symm)
  · have h7 : TourIn w7 t' := by
      rcases List.mem_append.1 ht' with h1 | h1
      · exact h.each t' h1
      · rw [List.mem_singleton] at h1; subst h1; exact ht
    refine h7.keep hsz fun k cs hk => step k (Array.getElem?_eq_some_iff.1 hk).1 (ty k cs _ (by decide) hk) fun e => ?_
    subst e
    have := h.box
    unfold Boxed at this
    rw [hk] at this
    cases this
  · exact (h9.os.trans hg.os).trans hB.os
  · exact (h9.tape.trans hg.tape).trans hB.tape
  · exact (h9.output.trans hg.output).trans hB.output
  · exact Nat.le_trans hB.size hsz
  · rw [step k (by have := hB.size; omega) (fun e => by have := (own k e.symm).1; omega) hl]
    exact hB.block k (by omega)
  · have hkX := (Array.getElem?_eq_some_iff.1 hk).1
    have h7 := (hB.block k hkX).trans hk
    rw [step k (by have := hB.size; omega) (ty k c t' hne h7) hl]
    exact h7
  · have hkX := (Array.getElem?_eq_some_iff.1 ho).1
    have h7 := (hB.block k hkX).trans ho
    rw [step k (by have := hB.size; omega) (fun e => by obtain ⟨_, cs, h1⟩ := own k e.symm; rw [h7] at h1; cases h1; cases hc) (fun e => by subst e; have := h.box; unfold Boxed at this; rw [h7] at this; cases this; cases hc)]
    exact h7
theorem ListIn.put {w : World} {base L D : Nat} {want : List (List SLine)} {v : Value} {ts : List STour} {o : Obj} (h : ListIn w base L want v ts) (o' : Obj) (hD : w.heap[D]? = some o) (hc : o.isCells = false) : ListIn (w.putObj D o') base L want v ts := by
  have ne : ∀ (k : Nat) (cs : Array Value) (t : TypeId), w.heap[k]? = some (.cells cs t (0, 0)) → (w.putObj D o').heap[k]? = w.heap[k]? := fun k cs t hk => World.putObj_heap_other (by
    rintro rfl
    rw [hD] at hk; cases hk; cases hc)
  exact ⟨(ne L _ _ h.box).trans h.box, h.eq, ownsRow_putObj h.own o' hD hc, fun t ht => (h.each t ht).keep (by simp) fun k cs hk => ne k cs _ hk⟩
theorem news1 {w : World} {b : Nat} {u : Value} (h : w.cell? ⟨b, 0, none⟩ = some u) : ∀ j x, [u][j]? = some x → w.cell? ((⟨b, 0, none⟩ : Addr).add j) = some x := by
  intro j x hj
  cases j with
  | zero => simp at hj; subst hj; simpa [Addr.add] using h
  | succ j => simp at hj
end Go.Proofs.YtomgnpfpaodpiaaDoor

/- The choices: plain forms, and the recursive closure. -/
namespace Go.Proofs.YtomgnpfpaodpiaaDoor
open Go Go.RowKit Go.Shelf
set_option maxHeartbeats 3000000
attribute [local go_sem] Oper.semAt_some
/-- all that can be chosen besides, of some things -/
def chL (m : Nat) : List Int → List Int → List (List Int)
  | [], _ => []
  | x :: rest, ch => (if ch.length + 1 = m then [ch ++ [x]] else chL m rest (ch ++ [x])) ++ chL m rest ch
def choF (m : Nat) (rest ch : List Int) : List (List Int) := if ch.length = m then [ch] else chL m rest ch
theorem chL_cons (m : Nat) (x : Int) (rest ch : List Int) : chL m (x :: rest) ch = choF m rest (ch ++ [x]) ++ chL m rest ch := by
  rw [chL, choF]
  simp
theorem chL_drop {m : Nat} {rest ch : List Int} {i : Nat} {x : Int} (h : rest[i]? = some x) : chL m (rest.drop i) ch = choF m (rest.drop (i + 1)) (ch ++ [x]) ++ chL m (rest.drop (i + 1)) ch := by
  obtain ⟨hi, rfl⟩ := List.getElem?_eq_some_iff.1 h
  rw [List.drop_eq_getElem_cons hi, chL_cons]
abbrev chooseV (pM pY pC : Nat) : Value := .func (.func 107) #[] #[.pointer (some ⟨pM, 0, none⟩), .pointer (some ⟨pY, 0, none⟩), .pointer (some ⟨pC, 0, none⟩)]
/-- what the closure that chooses holds -/
structure ChAt (w : World) (m pM pY pC l : Nat) : Prop where
  many : CellsBox w pM 3 [vi m]
  yield : CellsBox w pY 149 [.func (.yield l) #[] #[]]
  choose : CellsBox w pC 57 [chooseV pM pY pC]
theorem ChAt.cs {w w' : World} {m pM pY pC l : Nat} (h : ChAt w m pM pY pC l) (hc : CS w w') : ChAt w' m pM pY pC l := ⟨hc.box h.many, hc.box h.yield, hc.box h.choose⟩
/-- an int put behind a list that has no room -/
theorem wp_put_int {P : Program} {o : Oper} {a : Act} {w : World} {K : Act → World → Prop} {Q : Exit → Act → World → Prop} (hg : o.guard = none) (s x : Operand) (t e : TypeId) (hop : o.op = Op.call { callee := Callee.builtin Builtin.append, args := #[s, x], argTypes := #[t, t] })
    (i : TypeInfo) (h1 : P.underlying t = some (.slice e)) (h2 : P.info? e = some i) (h3 : i.zero = some (.int .i64 0)) (h4 : i.size = 1) (h5 : i.bytes = 8)
    (C : Option Addr) (ch : List Int) (hs : a.eval s = .slice C ch.length ch.length) (hC : C = none → ch.length = 0) (hA : IntsAt w w.heap.size C ch.length ch) (hn : ch.length ≤ 1000) (b : Nat) (n : Int) (hx : a.eval x = .slice (some ⟨b, 0, none⟩) 1 1) (hb : w.cell? ⟨b, 0, none⟩ = some (vi n))
    (hK : ∀ (C' : Option Addr) (cap' : Nat) (w' : World), IntsAt w' w'.heap.size C' cap' (ch ++ [n]) → (∃ g, C' = some ⟨g, 0, none⟩) → Below w.heap.size w w' → K (a.put o.dst (.slice C' (ch.length + 1) cap')) w') : Oper.wp P o a w K Q := by
  have hw : Region.wanted o (yielded #[] a.tmps) = true := by simp [Region.wanted, hg]
  have := step_append_grows (P := P) (ops := #[]) (o := o) (a := a) (w := w) (K := K) (Q := Q) (E := True) hg s x t hop e i (.int .i64 0) 1 8 h1 h2 h3 h4 h5 rfl (by decide) C ch.length ch.length (ch.map vi) hs (fun h => ⟨hC h, hC h⟩) (by simp) (fun c hc j u hj => by
      have hl : 0 < ch.length := by have := (List.getElem?_eq_some_iff.1 hj).1; simp at this; omega
      obtain ⟨b', off, hA', hlt, hcl⟩ := hA.row (by simpa using hl)
      rw [hc] at hA'
      cases hA'
      rw [List.getElem?_map] at hj
      obtain ⟨y, hy, rfl⟩ := Option.map_eq_some_iff.1 hj
      have h9 := hcl j (intC y) (by rw [List.getElem?_map, hy]; rfl) 0 (vi y) (by simp) rfl
      rw [Addr.add_lit]
      simpa using h9) ⟨b, 0, none⟩ 1 1 [vi n] hx rfl (news1 hb) (by simp [Value.oneCell']) (by omega) (by unfold maxLen; omega) (by omega) (fun v' w' hown hgr => by
      have hB : Below w.heap.size w w' := ⟨hgr.os, hgr.tape, hgr.output, hgr.size, fun k hk => hgr.block k hk (by simp)⟩
      have hfl : ch.map vi ++ [vi n] = ((ch ++ [n]).map intC).flatten := by rw [intC_flat]; simp
      rw [hfl] at hown
      obtain ⟨A', c', rfl, g1, g2, g3⟩ := own_rows (m := (ch ++ [n]).map intC) (sz := 1) (by intro r hr; obtain ⟨t, _, rfl⟩ := List.mem_map.1 hr; rfl) hown (by simp) (by omega)
      refine hK A' c' w' ⟨by simp; omega, by unfold maxLen at g2; omega, by simp; omega, g3.row⟩ ?_ hB
      rcases hown.2 with ⟨e1, e2⟩ | ⟨g, cap, cur, e1, _⟩
      · omega
      · exact ⟨g, by simp at e1; exact e1.1⟩)
  rwa [if_pos hw] at this
/-- blocks from some on keep their cells -/
structure CF (B : Nat) (w w' : World) : Prop where
  size : w.heap.size ≤ w'.heap.size
  boxes : ∀ (k : Nat) (c : Array Value) (t : TypeId) (z : Nat × Nat), B ≤ k → w.heap[k]? = some (.cells c t z) → w'.heap[k]? = some (.cells c t z)
theorem CS.cf {a b : World} (h : CS a b) (B : Nat) : CF B a b := ⟨h.size, fun k c t z _ hk => h.boxes k c t z hk⟩
theorem CF.trans {B : Nat} {a b c : World} (h : CF B a b) (k : CF B b c) : CF B a c := ⟨Nat.le_trans h.size k.size, fun i x t z hb hi => k.boxes i x t z hb (h.boxes i x t z hb hi)⟩
theorem CF.box {B : Nat} {a b : World} (h : CF B a b) {k : Nat} {t : TypeId} {cs : List Value} (hB : B ≤ k) (hk : CellsBox a k t cs) : CellsBox b k t cs := h.boxes k _ t _ hB hk
abbrev SRow.at (w : World) (t : SRow) : Prop := IntsAt w w.heap.size t.ad t.cap t.slips
set_option maxRecDepth 100000 in
theorem choose_any (PR : Int → Prop) (m : Nat) (hm : m ≤ 1000) (pM pY pC l N B : Nat) (J Jx : List SRow → World → Prop) (hJ : AbidesFrom B J) (hJx : AbidesFrom B Jx) (hBC : B ≤ pC)
    (hY : ∀ (pre : List SRow) (x : SRow) (W1 : World), J pre W1 → pre.length < N → x.at W1 → x.slips.length = m → (∀ y ∈ x.slips, PR y) → YieldAt Fence.wide 0 Tryd.prog l #[x.slice] W1 fun e W' => (e = .returned (.bool true) ∧ J (pre ++ [x]) W' ∧ CS W1 W') ∨ (e = .returned (.bool false) ∧ Jx (pre ++ [x]) W' ∧ CF B W1 W')) :
    ∀ (q : Nat) (rest ch : List Int) (A C : Option Addr) (cap cch : Nat) (pre : List SRow) (W : World), rest.length = q → rest.length + ch.length ≤ 1000 → (∀ y ∈ rest, PR y) → (∀ y ∈ ch, PR y) →
      ChAt W m pM pY pC l → IntsAt W W.heap.size A cap rest → IntsAt W W.heap.size C cch ch → J pre W → pre.length + (choF m rest ch).length ≤ N →
      Calls Tryd.prog 107 #[.slice C ch.length cch, .slice A rest.length cap, .pointer (some ⟨pM, 0, none⟩), .pointer (some ⟨pY, 0, none⟩), .pointer (some ⟨pC, 0, none⟩)] W fun e W' =>
        ∃ b : Bool, e = .returned (.bool b) ∧ Hid ((b = true ∧ ∃ xs : List SRow, xs.map SRow.slips = choF m rest ch ∧ J (pre ++ xs) W' ∧ CS W W') ∨ (b = false ∧ ∃ (d r : List (List Int)) (xs : List SRow) (x : SRow), choF m rest ch = d ++ x.slips :: r ∧ xs.map SRow.slips = d ∧ Jx (pre ++ xs ++ [x]) W' ∧ CF B W W')) := by
  intro q
  induction q using Nat.strongRecOn with
  | _ q ih =>
    intro rest ch A C cap cch pre W hq hrl hPR hPC hG hI hCh hJ0 hN
    have IH := Lib.hid ih
    have HPR := Lib.hid hPR
    have HPC := Lib.hid hPC
    clear hPR hPC
    have HG := Lib.hid hG
    have HI := Lib.hid hI
    have HCH := Lib.hid hCh
    have HJ0 := Lib.hid hJ0
    have hIl := hI.lens
    have hCl := hCh.lens
    have HN := Lib.hid hN
    have HQ := Lib.hid hq
    have m0 := hG.many.cell (j := 0) rfl
    have zM := hG.many.lt
    have y0 := hG.yield.cell (j := 0) rfl
    have zY := hG.yield.lt
    clear ih hG hI hJ0 hN hq hCh
    refine (callsIn_wide (n := 6)).1 ?_
    refine callsIn_of_wp Tryd.func107 rfl trivial ?_ rfl
    simp only [Tryd.ntmps107, List.size_toArray, List.length_cons, List.length_nil, Nat.reduceAdd, Nat.reduceSub, Array.replicate_succ, Array.replicate_zero, List.push_toArray, List.append_toArray, List.nil_append, List.cons_append]
    by_cases hcm : ch.length = m
    · have hdc : decide ((ch.length : Int) = m) = true := by simp; omega
      have HE : Hid (choF m rest ch = [ch]) := by unfold Hid choF; rw [if_pos hcm]
      have HL : Hid (pre.length < N) := by
        have h1 := HN.out
        rw [HE.out] at h1
        simp at h1
        unfold Hid
        omega
      have hYY := hY pre ⟨C, cch, ch⟩ W HJ0.out HL.out HCH.out hcm HPC.out
      change YieldAt Fence.wide 0 Tryd.prog l #[.slice C ch.length cch] W _ at hYY
      obtain ⟨fn, tmps, assign, body, hy, hR⟩ := yield_any (m' := 5) hYY
      clear hYY hdc
      subst hcm
      gi_wp2_with fail
      refine hR.mono ?_
      clear hy
      rintro e W3 (⟨rfl, hJ3, hk3⟩ | ⟨rfl, hJx3, hf3⟩)
      · have HJ9 : Hid (∃ xs : List SRow, xs.map SRow.slips = choF ch.length rest ch ∧ J (pre ++ xs) W3 ∧ CS W W3) := ⟨[⟨C, cch, ch⟩], by rw [HE.out]; rfl, hJ3, hk3⟩
        clear hJ3 hk3
        gi_wp2_with fail
        go_ret
        exact ⟨true, rfl, .inl ⟨rfl, HJ9.out⟩⟩
      · have HJ9 : Hid (∃ (d r : List (List Int)) (xs : List SRow) (x : SRow), choF ch.length rest ch = d ++ x.slips :: r ∧ xs.map SRow.slips = d ∧ Jx (pre ++ xs ++ [x]) W3 ∧ CF B W W3) := ⟨[], [], [], ⟨C, cch, ch⟩, by rw [HE.out]; rfl, rfl, by simpa using hJx3, hf3⟩
        clear hJx3 hf3
        gi_wp2_with fail
        go_ret
        exact ⟨false, rfl, .inr ⟨rfl, HJ9.out⟩⟩
    · have hbe : ((ch.length : Int) == (m : Int)) = false := by simp; omega
      have HE : Hid (choF m rest ch = chL m rest ch) := by unfold Hid choF; rw [if_neg hcm]
      gi_wp2_with fail
      gi_loopw [19] (fun i wr => ∃ (k : Nat) (em : List SRow), k ≤ rest.length ∧ i = .int .i64 k ∧ Hid (em.map SRow.slips ++ chL m (rest.drop k) ch = chL m rest ch) ∧ Hid (J (pre ++ em) wr) ∧ Hid (CS W wr)) (fun i _ => rest.length - (intOf i).toNat)
      case atStart => exact ⟨0, [], Nat.zero_le _, rfl, by simp [Hid], by simpa [Hid] using HJ0.out, CS.refl _⟩
      case round =>
        obtain ⟨k, em, hk, rfl, HE1, HJk, HC⟩ := hrel
        have HGk := Lib.hid (HG.out.cs HC.out)
        have HIk : Hid (IntsAt wr wr.heap.size A cap rest) := HC.out.rows HI.out
        have HCk : Hid (IntsAt wr wr.heap.size C cch ch) := HC.out.rows HCH.out
        have g0 := HGk.out.choose.cell (j := 0) rfl
        have zG := HGk.out.choose.lt
        by_cases hlt : k < rest.length
        · obtain ⟨x, hx⟩ : ∃ x, rest[k]? = some x := ⟨_, List.getElem?_eq_getElem hlt⟩
          have HLD := Lib.hid (chL_drop (m := m) (ch := ch) hx)
          obtain ⟨bb, off, rfl, hbb, x0⟩ := ints_at HIk.out hx
          have zbb := cell_lt x0
          simp only at zbb
          have hkI : (k : Int) < rest.length := by omega
          have h0k : (0 : Int) ≤ k := by omega
          have hkr : k + 1 ≤ rest.length := by omega
          obtain ⟨o2, ho2⟩ : ∃ o2, o2 = if cap = k + 1 then off else off + (k + 1) := ⟨_, rfl⟩
          have hif : (if cap = k + 1 then (some ⟨bb, off, none⟩ : Option Addr) else some ⟨bb, off + (k + 1), none⟩) = some ⟨bb, o2, none⟩ := by rw [ho2]; split <;> rfl
          have CHOOSE : Hid (∀ (Wx : World) (C' : Option Addr) (cap' : Nat), CS W Wx → J (pre ++ em) Wx → IntsAt Wx Wx.heap.size C' cap' (ch ++ [x]) → Calls Tryd.prog 107 #[.slice C' (ch.length + 1) cap', .slice (some ⟨bb, o2, none⟩) (rest.length - (k + 1)) (cap - (k + 1)), .pointer (some ⟨pM, 0, none⟩), .pointer (some ⟨pY, 0, none⟩), .pointer (some ⟨pC, 0, none⟩)] Wx fun e W' =>
              ∃ b : Bool, e = .returned (.bool b) ∧ Hid ((b = true ∧ ∃ xs : List SRow, xs.map SRow.slips = choF m (rest.drop (k + 1)) (ch ++ [x]) ∧ J (pre ++ em ++ xs) W' ∧ CS Wx W') ∨ (b = false ∧ ∃ (d r : List (List Int)) (xs : List SRow) (y : SRow), choF m (rest.drop (k + 1)) (ch ++ [x]) = d ++ y.slips :: r ∧ xs.map SRow.slips = d ∧ Jx (pre ++ em ++ xs ++ [y]) W' ∧ CF B Wx W'))) := fun Wx C' cap' hc hj hI' => by
            have hlen : (rest.drop (k + 1)).length = rest.length - (k + 1) := List.length_drop
            have h1 := IH.out (rest.drop (k + 1)).length (by rw [hlen, ← HQ.out]; omega) (rest.drop (k + 1)) (ch ++ [x]) (some ⟨bb, o2, none⟩) C' (cap - (k + 1)) cap' (pre ++ em) Wx rfl (by rw [hlen]; simp; omega) (fun y hy => HPR.out y (List.mem_of_mem_drop hy)) (fun y hy => by
              rcases List.mem_append.1 hy with hy | hy
              · exact HPC.out y hy
              · rw [List.mem_singleton] at hy; subst hy; exact HPR.out _ (List.mem_of_getElem? hx)) (HG.out.cs hc) (by
              have h7 := ints_drop (hc.rows HI.out) (k + 1) (by simpa using hkr)
              by_cases hck : cap = k + 1
              · have h8 : rest.drop (k + 1) = [] := List.drop_of_length_le (by omega)
                rw [h8]
                exact ⟨by simp, by omega, by simp, fun h => by simp at h⟩
              · rw [ho2, if_neg hck]
                exact h7) hI' hj (by
              have h2 := congrArg List.length HE1.out
              have h3 := HN.out
              rw [HE.out] at h3
              rw [HLD.out] at h2
              simp only [List.length_append, List.length_map] at h2 h3 ⊢
              omega)
            rw [hlen, List.length_append] at h1
            exact h1
          have HE2 : Hid (em.map SRow.slips ++ (choF m (rest.drop (k + 1)) (ch ++ [x]) ++ chL m (rest.drop (k + 1)) ch) = chL m rest ch) := by unfold Hid; rw [← HE1.out, HLD.out]
          have hkA : (0 : Int) ≤ (k : Int) + 1 := by omega
          have hwr : IntKind.wrap .i64 ((k : Int) + 1) = (k : Int) + 1 := wrapI (by omega) (by omega)
          have hkB : (k : Int) + 1 ≤ rest.length := by omega
          have hc0 : (0 : Int) ≤ ch.length := by omega
          have hcI : (ch.length : Int) ≤ cch := by omega
          clear hx ho2 m0 y0 zM zY
          gi_wp2_with fail
          refine wpIn_wide.2 ?_
          refine' wp_region_box (fun w' => CF B wr w') (fun a b h h' => h.trans ((cs_of_below h').cf B)) [0, 1, 2, 3, 4, 5, 6, 7, 10, 11, 12, 13] 4 41 (by kernel_rfl) (by kernel_rfl) rfl (by kernel_rfl) (by kernel_rfl) rfl (by kernel_rfl) ?hl5 ((CS.refl wr).cf B) ?hq5 ?hr5
          case hl5 =>
            simp only [List.map_cons, List.map_nil, List.getD_cons_zero, List.getD_cons_succ]
            exact rfl
          case hq5 =>
            intro w0 K
            have g0 := (K.box hBC HGk.out.choose).cell (j := 0) rfl
            have zG := (K.box hBC HGk.out.choose).lt
            (repeat (go_big_quiet_step (fail)))
            exact wpQuiet_nil rfl
          case hr5 =>
            obtain ⟨i0, hi, hy0, hy1, hy2⟩ := info_parts info_int
            refine wpUp_one (i := 8) (by kernel_rfl) rfl rfl (fun wa a1 a2 Ka hKa => ?_)
            go_simp
            obtain ⟨V, hV⟩ : ∃ V, V = wa.alloc (.cells #[vi x] 3) := ⟨_, rfl⟩
            have hbV : Below wa.heap.size wa V := by rw [hV]; exact (Below.refl _ _).alloc (Nat.le_refl _) _
            have HCV : Hid (CellsBox V wa.heap.size 3 [vi x]) := by unfold Hid; rw [hV]; exact CellsBox.new wa _ _
            rw [← hV]
            clear hV
            refine hKa _ _ (a2.trans ((cs_of_below hbV).cf B)) ?_
            refine wpUp_one (i := 9) (by kernel_rfl) rfl rfl (fun wc c1 c2 Kc hKc => ?_)
            have HBc : Below wr.heap.size wr wc := gr_trans (gr_trans a1 hbV) c1
            have hIc : IntsAt wc wc.heap.size C ch.length ch := by
              have h1 := (HCk.out.to HBc)
              exact ⟨by simp, by have := h1.few; simp at this; omega, h1.few, h1.row⟩
            refine wp_put_int (by rfl) _ _ _ 3 (by rfl) i0 Tryd.underlying22 hi hy0 hy1 hy2 C ch (by rfl) (fun h => by
              by_cases h0 : ch.length = 0
              · exact h0
              · obtain ⟨b', o', hA, _⟩ := HCk.out.row (by simp; omega)
                rw [h] at hA; cases hA) hIc (by omega) wa.heap.size x (by rfl) ((HCV.out.keep c1).cell (j := 0) rfl) ?_
            rintro C' cap' wd hId - hbd
            simp only [Act.put, List.setIfInBounds_toArray, List.set_cons_zero, List.set_cons_succ]
            refine hKc _ _ (c2.trans ((cs_of_below hbd).cf B)) ?_
            refine wpUp_one (i := 14) (by kernel_rfl) rfl rfl (fun we e1 e2 Ke hKe => ?_)
            have HBe : Below wr.heap.size wr we := gr_trans (gr_trans HBc hbd) e1
            have hIe := hId.to e1
            have HJe := abides_below hJ HJk.out HBe
            go_simp
            refine (CHOOSE.out we C' cap' (HC.out.trans (cs_of_below HBe)) HJe hIe).mono ?_
            rintro e wv ⟨b, rfl, hT⟩
            have hTC : CF B wr wv := by
              rcases hT.out with ⟨_, _, _, _, h⟩ | ⟨_, _, _, _, _, _, _, _, h⟩
              · exact ((cs_of_below HBe).trans h).cf B
              · exact ((cs_of_below HBe).cf B).trans h
            refine hKe _ _ hTC ?_
            refine wpUp_one (i := 15) (by kernel_rfl) rfl rfl (fun wf f1 f2 Kf hKf => ?_)
            go_simp
            refine hKf _ _ f2 (wpUp_done (by kernel_rfl) (fun W8 g1 g2 => NoPanic.normal ?_))
            have HB8 : Hid (Below wv.heap.size wv W8) := gr_trans f1 g1
            rcases b with _ | _
            · have hT2 : Hid (∃ (d r : List (List Int)) (xs : List SRow) (y : SRow), choF m rest ch = d ++ y.slips :: r ∧ xs.map SRow.slips = d ∧ Jx (pre ++ xs ++ [y]) W8 ∧ CF B W W8) := by
                rcases hT.out with ⟨h, _⟩ | ⟨_, d, r, xs, y, h1, h2, h3, h4⟩
                · cases h
                · refine ⟨em.map SRow.slips ++ d, r ++ chL m (rest.drop (k + 1)) ch, em ++ xs, y, ?_, ?_, ?_, ?_⟩
                  · rw [HE.out, ← HE2.out, h1]; simp
                  · rw [List.map_append, h2]
                  · have := abides_below hJx h3 HB8.out
                    simpa using this
                  · exact (HC.out.cf B).trans (((cs_of_below HBe).cf B).trans (h4.trans ((cs_of_below HB8.out).cf B)))
              clear hT
              gi_wp2_with fail
              go_ret
              exact ⟨false, rfl, .inr ⟨rfl, hT2.out⟩⟩
            · have hT2 : Hid (∃ xs : List SRow, xs.map SRow.slips ++ chL m (rest.drop (k + 1)) ch = chL m rest ch ∧ J (pre ++ xs) W8 ∧ CS W W8) := by
                rcases hT.out with ⟨_, xs, h1, h2, h3⟩ | ⟨h, _⟩
                · refine ⟨em ++ xs, ?_, ?_, ?_⟩
                  · rw [← HE2.out, List.map_append, h1]; simp
                  · have := abides_below hJ h2 HB8.out
                    simpa using this
                  · exact (HC.out.trans (cs_of_below HBe)).trans (h3.trans (cs_of_below HB8.out))
                · cases h
              obtain ⟨xs, t1, t2, t3⟩ := hT2.out
              have T1 := Lib.hid t1
              have T2 := Lib.hid t2
              have T3 := Lib.hid t3
              clear hT hT2 t1 t2 t3 hi hy0 hy1 hy2
              gi_wp2_with fail
              go_roundw
              case rel =>
                exact ⟨k + 1, xs, by omega, by go_num, T1, T2, T3⟩
              case measure => simp [intOf]; omega
        · obtain rfl : k = rest.length := by omega
          have hd0 : rest.drop rest.length = [] := List.drop_length
          have HE2 := Lib.hid HE1.out
          rw [hd0, chL, List.append_nil] at HE2
          have HJ9 : Hid (∃ xs : List SRow, xs.map SRow.slips = choF m rest ch ∧ J (pre ++ xs) wr ∧ CS W wr) := ⟨em, by rw [HE.out]; exact HE2.out, HJk.out, HC.out⟩
          clear hd0 HE2
          gi_wp2_with fail
          go_ret
          exact ⟨true, rfl, .inl ⟨rfl, HJ9.out⟩⟩
end Go.Proofs.YtomgnpfpaodpiaaDoor

