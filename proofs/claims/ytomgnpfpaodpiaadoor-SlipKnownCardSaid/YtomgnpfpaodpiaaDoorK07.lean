/- The choices: plain forms, and the recursive closure. -/
import Derived.Test.YtomgnpfpaodpiaaDoorK06
import Derived.Test.YtomgnpfpaodpiaaDoorK04
import Derived.ArgAppend
import Derived.Stop.RegionWithIn
import Derived.Deep.RegionLawGrows
import Derived.Laws.Rows
import Derived.Deep.MidRow
set_option linter.unusedVariables false
set_option linter.unusedSimpArgs false
namespace Go.Proofs.YtomgnpfpaodpiaaDoor
open Go Go.RowKit Go.Shelf
set_option maxHeartbeats 3000000
attribute [local go_sem] Oper.semAt_some
/-- all that can be chosen besides, of some things -/
def chL (m : Nat) : List Int → List Int → List (List Int)
  | [], _ => []
  | x :: rest, ch => (if ch.length + 1 = m then [ch ++ [x]] else chL m rest (ch ++ [x])) ++ chL m rest ch
def choF (m : Nat) (rest ch : List Int) : List (List Int) := if ch.length = m then [ch] else chL m rest ch
theorem chL_cons (m : Nat) (x : Int) (rest ch : List Int) : chL m (x :: rest) ch = choF m rest (ch ++ [x]) ++ chL m rest ch := by
  rw [chL, choF]
  simp
theorem chL_drop {m : Nat} {rest ch : List Int} {i : Nat} {x : Int} (h : rest[i]? = some x) : chL m (rest.drop i) ch = choF m (rest.drop (i + 1)) (ch ++ [x]) ++ chL m (rest.drop (i + 1)) ch := by
  obtain ⟨hi, rfl⟩ := List.getElem?_eq_some_iff.1 h
  rw [List.drop_eq_getElem_cons hi, chL_cons]
abbrev chooseV (pM pY pC : Nat) : Value := .func (.func 107) #[] #[.pointer (some ⟨pM, 0, none⟩), .pointer (some ⟨pY, 0, none⟩), .pointer (some ⟨pC, 0, none⟩)]
/-- what the closure that chooses holds -/
structure ChAt (w : World) (m pM pY pC l : Nat) : Prop where
  many : CellsBox w pM 3 [vi m]
  yield : CellsBox w pY 149 [.func (.yield l) #[] #[]]
  choose : CellsBox w pC 57 [chooseV pM pY pC]
theorem ChAt.cs {w w' : World} {m pM pY pC l : Nat} (h : ChAt w m pM pY pC l) (hc : CS w w') : ChAt w' m pM pY pC l := ⟨hc.box h.many, hc.box h.yield, hc.box h.choose⟩
/-- an int put behind a list that has no room -/
theorem wp_put_int {P : Program} {o : Oper} {a : Act} {w : World} {K : Act → World → Prop} {Q : Exit → Act → World → Prop} (hg : o.guard = none) (s x : Operand) (t e : TypeId) (hop : o.op = Op.call { callee := Callee.builtin Builtin.append, args := #[s, x], argTypes := #[t, t] })
    (i : TypeInfo) (h1 : P.underlying t = some (.slice e)) (h2 : P.info? e = some i) (h3 : i.zero = some (.int .i64 0)) (h4 : i.size = 1) (h5 : i.bytes = 8)
    (C : Option Addr) (ch : List Int) (hs : a.eval s = .slice C ch.length ch.length) (hC : C = none → ch.length = 0) (hA : IntsAt w w.heap.size C ch.length ch) (hn : ch.length ≤ 1000) (b : Nat) (n : Int) (hx : a.eval x = .slice (some ⟨b, 0, none⟩) 1 1) (hb : w.cell? ⟨b, 0, none⟩ = some (vi n))
    (hK : ∀ (C' : Option Addr) (cap' : Nat) (w' : World), IntsAt w' w'.heap.size C' cap' (ch ++ [n]) → (∃ g, C' = some ⟨g, 0, none⟩) → Below w.heap.size w w' → K (a.put o.dst (.slice C' (ch.length + 1) cap')) w') : Oper.wp P o a w K Q := by
  have hw : Region.wanted o (yielded #[] a.tmps) = true := by simp [Region.wanted, hg]
  have := step_append_grows (P := P) (ops := #[]) (o := o) (a := a) (w := w) (K := K) (Q := Q) (E := True) hg s x t hop e i (.int .i64 0) 1 8 h1 h2 h3 h4 h5 rfl (by decide) C ch.length ch.length (ch.map vi) hs (fun h => ⟨hC h, hC h⟩) (by simp) (fun c hc j u hj => by
      have hl : 0 < ch.length := by have := (List.getElem?_eq_some_iff.1 hj).1; simp at this; omega
      obtain ⟨b', off, hA', hlt, hcl⟩ := hA.row (by simpa using hl)
      rw [hc] at hA'
      cases hA'
      rw [List.getElem?_map] at hj
      obtain ⟨y, hy, rfl⟩ := Option.map_eq_some_iff.1 hj
      have h9 := hcl j (intC y) (by rw [List.getElem?_map, hy]; rfl) 0 (vi y) (by simp) rfl
      rw [Addr.add_lit]
      simpa using h9) ⟨b, 0, none⟩ 1 1 [vi n] hx rfl (news1 hb) (by simp [Value.oneCell']) (by omega) (by unfold maxLen; omega) (by omega) (fun v' w' hown hgr => by
      have hB : Below w.heap.size w w' := ⟨hgr.os, hgr.tape, hgr.output, hgr.size, fun k hk => hgr.block k hk (by simp)⟩
      have hfl : ch.map vi ++ [vi n] = ((ch ++ [n]).map intC).flatten := by rw [intC_flat]; simp
      rw [hfl] at hown
      obtain ⟨A', c', rfl, g1, g2, g3⟩ := own_rows (m := (ch ++ [n]).map intC) (sz := 1) (by intro r hr; obtain ⟨t, _, rfl⟩ := List.mem_map.1 hr; rfl) hown (by simp) (by omega)
      refine hK A' c' w' ⟨by simp; omega, by unfold maxLen at g2; omega, by simp; omega, g3.row⟩ ?_ hB
      rcases hown.2 with ⟨e1, e2⟩ | ⟨g, cap, cur, e1, _⟩
      · omega
      · exact ⟨g, by simp at e1; exact e1.1⟩)
  rwa [if_pos hw] at this
/-- blocks from some on keep their cells -/
structure CF (B : Nat) (w w' : World) : Prop where
  size : w.heap.size ≤ w'.heap.size
  boxes : ∀ (k : Nat) (c : Array Value) (t : TypeId) (z : Nat × Nat), B ≤ k → w.heap[k]? = some (.cells c t z) → w'.heap[k]? = some (.cells c t z)
theorem CS.cf {a b : World} (h : CS a b) (B : Nat) : CF B a b := ⟨h.size, fun k c t z _ hk => h.boxes k c t z hk⟩
theorem CF.trans {B : Nat} {a b c : World} (h : CF B a b) (k : CF B b c) : CF B a c := ⟨Nat.le_trans h.size k.size, fun i x t z hb hi => k.boxes i x t z hb (h.boxes i x t z hb hi)⟩
theorem CF.box {B : Nat} {a b : World} (h : CF B a b) {k : Nat} {t : TypeId} {cs : List Value} (hB : B ≤ k) (hk : CellsBox a k t cs) : CellsBox b k t cs := h.boxes k _ t _ hB hk
abbrev SRow.at (w : World) (t : SRow) : Prop := IntsAt w w.heap.size t.ad t.cap t.slips
set_option maxRecDepth 100000 in
theorem choose_any (PR : Int → Prop) (m : Nat) (hm : m ≤ 1000) (pM pY pC l N B : Nat) (J Jx : List SRow → World → Prop) (hJ : AbidesFrom B J) (hJx : AbidesFrom B Jx) (hBC : B ≤ pC)
    (hY : ∀ (pre : List SRow) (x : SRow) (W1 : World), J pre W1 → pre.length < N → x.at W1 → x.slips.length = m → (∀ y ∈ x.slips, PR y) → YieldAt Fence.wide 0 Tryd.prog l #[x.slice] W1 fun e W' => (e = .returned (.bool true) ∧ J (pre ++ [x]) W' ∧ CS W1 W') ∨ (e = .returned (.bool false) ∧ Jx (pre ++ [x]) W' ∧ CF B W1 W')) :
    ∀ (q : Nat) (rest ch : List Int) (A C : Option Addr) (cap cch : Nat) (pre : List SRow) (W : World), rest.length = q → rest.length + ch.length ≤ 1000 → (∀ y ∈ rest, PR y) → (∀ y ∈ ch, PR y) →
      ChAt W m pM pY pC l → IntsAt W W.heap.size A cap rest → IntsAt W W.heap.size C cch ch → J pre W → pre.length + (choF m rest ch).length ≤ N →
      Calls Tryd.prog 107 #[.slice C ch.length cch, .slice A rest.length cap, .pointer (some ⟨pM, 0, none⟩), .pointer (some ⟨pY, 0, none⟩), .pointer (some ⟨pC, 0, none⟩)] W fun e W' =>
        ∃ b : Bool, e = .returned (.bool b) ∧ Hid ((b = true ∧ ∃ xs : List SRow, xs.map SRow.slips = choF m rest ch ∧ J (pre ++ xs) W' ∧ CS W W') ∨ (b = false ∧ ∃ (d r : List (List Int)) (xs : List SRow) (x : SRow), choF m rest ch = d ++ x.slips :: r ∧ xs.map SRow.slips = d ∧ Jx (pre ++ xs ++ [x]) W' ∧ CF B W W')) := by
  intro q
  induction q using Nat.strongRecOn with
  | _ q ih =>
    intro rest ch A C cap cch pre W hq hrl hPR hPC hG hI hCh hJ0 hN
    have IH := Lib.hid ih
    have HPR := Lib.hid hPR
    have HPC := Lib.hid hPC
    clear hPR hPC
    have HG := Lib.hid hG
    have HI := Lib.hid hI
    have HCH := Lib.hid hCh
    have HJ0 := Lib.hid hJ0
    have hIl := hI.lens
    have hCl := hCh.lens
    have HN := Lib.hid hN
    have HQ := Lib.hid hq
    have m0 := hG.many.cell (j := 0) rfl
    have zM := hG.many.lt
    have y0 := hG.yield.cell (j := 0) rfl
    have zY := hG.yield.lt
    clear ih hG hI hJ0 hN hq hCh
    refine (callsIn_wide (n := 6)).1 ?_
    refine callsIn_of_wp Tryd.func107 rfl trivial ?_ rfl
    simp only [Tryd.ntmps107, List.size_toArray, List.length_cons, List.length_nil, Nat.reduceAdd, Nat.reduceSub, Array.replicate_succ, Array.replicate_zero, List.push_toArray, List.append_toArray, List.nil_append, List.cons_append]
    by_cases hcm : ch.length = m
    · have hdc : decide ((ch.length : Int) = m) = true := by simp; omega
      have HE : Hid (choF m rest ch = [ch]) := by unfold Hid choF; rw [if_pos hcm]
      have HL : Hid (pre.length < N) := by
        have h1 := HN.out
        rw [HE.out] at h1
        simp at h1
        unfold Hid
        omega
      have hYY := hY pre ⟨C, cch, ch⟩ W HJ0.out HL.out HCH.out hcm HPC.out
      change YieldAt Fence.wide 0 Tryd.prog l #[.slice C ch.length cch] W _ at hYY
      obtain ⟨fn, tmps, assign, body, hy, hR⟩ := yield_any (m' := 5) hYY
      clear hYY hdc
      subst hcm
      gi_wp2_with fail
      refine hR.mono ?_
      clear hy
      rintro e W3 (⟨rfl, hJ3, hk3⟩ | ⟨rfl, hJx3, hf3⟩)
      · have HJ9 : Hid (∃ xs : List SRow, xs.map SRow.slips = choF ch.length rest ch ∧ J (pre ++ xs) W3 ∧ CS W W3) := ⟨[⟨C, cch, ch⟩], by rw [HE.out]; rfl, hJ3, hk3⟩
        clear hJ3 hk3
        gi_wp2_with fail
        go_ret
        exact ⟨true, rfl, .inl ⟨rfl, HJ9.out⟩⟩
      · have HJ9 : Hid (∃ (d r : List (List Int)) (xs : List SRow) (x : SRow), choF ch.length rest ch = d ++ x.slips :: r ∧ xs.map SRow.slips = d ∧ Jx (pre ++ xs ++ [x]) W3 ∧ CF B W W3) := ⟨[], [], [], ⟨C, cch, ch⟩, by rw [HE.out]; rfl, rfl, by simpa using hJx3, hf3⟩
        clear hJx3 hf3
        gi_wp2_with fail
        go_ret
        exact ⟨false, rfl, .inr ⟨rfl, HJ9.out⟩⟩
    · have hbe : ((ch.length : Int) == (m : Int)) = false := by simp; omega
      have HE : Hid (choF m rest ch = chL m rest ch) := by unfold Hid choF; rw [if_neg hcm]
      gi_wp2_with fail
      gi_loopw [19] (fun i wr => ∃ (k : Nat) (em : List SRow), k ≤ rest.length ∧ i = .int .i64 k ∧ Hid (em.map SRow.slips ++ chL m (rest.drop k) ch = chL m rest ch) ∧ Hid (J (pre ++ em) wr) ∧ Hid (CS W wr)) (fun i _ => rest.length - (intOf i).toNat)
      case atStart => exact ⟨0, [], Nat.zero_le _, rfl, by simp [Hid], by simpa [Hid] using HJ0.out, CS.refl _⟩
      case round =>
        obtain ⟨k, em, hk, rfl, HE1, HJk, HC⟩ := hrel
        have HGk := Lib.hid (HG.out.cs HC.out)
        have HIk : Hid (IntsAt wr wr.heap.size A cap rest) := HC.out.rows HI.out
        have HCk : Hid (IntsAt wr wr.heap.size C cch ch) := HC.out.rows HCH.out
        have g0 := HGk.out.choose.cell (j := 0) rfl
        have zG := HGk.out.choose.lt
        by_cases hlt : k < rest.length
        · obtain ⟨x, hx⟩ : ∃ x, rest[k]? = some x := ⟨_, List.getElem?_eq_getElem hlt⟩
          have HLD := Lib.hid (chL_drop (m := m) (ch := ch) hx)
          obtain ⟨bb, off, rfl, hbb, x0⟩ := ints_at HIk.out hx
          have zbb := cell_lt x0
          simp only at zbb
          have hkI : (k : Int) < rest.length := by omega
          have h0k : (0 : Int) ≤ k := by omega
          have hkr : k + 1 ≤ rest.length := by omega
          obtain ⟨o2, ho2⟩ : ∃ o2, o2 = if cap = k + 1 then off else off + (k + 1) := ⟨_, rfl⟩
          have hif : (if cap = k + 1 then (some ⟨bb, off, none⟩ : Option Addr) else some ⟨bb, off + (k + 1), none⟩) = some ⟨bb, o2, none⟩ := by rw [ho2]; split <;> rfl
          have CHOOSE : Hid (∀ (Wx : World) (C' : Option Addr) (cap' : Nat), CS W Wx → J (pre ++ em) Wx → IntsAt Wx Wx.heap.size C' cap' (ch ++ [x]) → Calls Tryd.prog 107 #[.slice C' (ch.length + 1) cap', .slice (some ⟨bb, o2, none⟩) (rest.length - (k + 1)) (cap - (k + 1)), .pointer (some ⟨pM, 0, none⟩), .pointer (some ⟨pY, 0, none⟩), .pointer (some ⟨pC, 0, none⟩)] Wx fun e W' =>
              ∃ b : Bool, e = .returned (.bool b) ∧ Hid ((b = true ∧ ∃ xs : List SRow, xs.map SRow.slips = choF m (rest.drop (k + 1)) (ch ++ [x]) ∧ J (pre ++ em ++ xs) W' ∧ CS Wx W') ∨ (b = false ∧ ∃ (d r : List (List Int)) (xs : List SRow) (y : SRow), choF m (rest.drop (k + 1)) (ch ++ [x]) = d ++ y.slips :: r ∧ xs.map SRow.slips = d ∧ Jx (pre ++ em ++ xs ++ [y]) W' ∧ CF B Wx W'))) := fun Wx C' cap' hc hj hI' => by
            have hlen : (rest.drop (k + 1)).length = rest.length - (k + 1) := List.length_drop
            have h1 := IH.out (rest.drop (k + 1)).length (by rw [hlen, ← HQ.out]; omega) (rest.drop (k + 1)) (ch ++ [x]) (some ⟨bb, o2, none⟩) C' (cap - (k + 1)) cap' (pre ++ em) Wx rfl (by rw [hlen]; simp; omega) (fun y hy => HPR.out y (List.mem_of_mem_drop hy)) (fun y hy => by
              rcases List.mem_append.1 hy with hy | hy
              · exact HPC.out y hy
              · rw [List.mem_singleton] at hy; subst hy; exact HPR.out _ (List.mem_of_getElem? hx)) (HG.out.cs hc) (by
              have h7 := ints_drop (hc.rows HI.out) (k + 1) (by simpa using hkr)
              by_cases hck : cap = k + 1
              · have h8 : rest.drop (k + 1) = [] := List.drop_of_length_le (by omega)
                rw [h8]
                exact ⟨by simp, by omega, by simp, fun h => by simp at h⟩
              · rw [ho2, if_neg hck]
                exact h7) hI' hj (by
              have h2 := congrArg List.length HE1.out
              have h3 := HN.out
              rw [HE.out] at h3
              rw [HLD.out] at h2
              simp only [List.length_append, List.length_map] at h2 h3 ⊢
              omega)
            rw [hlen, List.length_append] at h1
            exact h1
          have HE2 : Hid (em.map SRow.slips ++ (choF m (rest.drop (k + 1)) (ch ++ [x]) ++ chL m (rest.drop (k + 1)) ch) = chL m rest ch) := by unfold Hid; rw [← HE1.out, HLD.out]
          have hkA : (0 : Int) ≤ (k : Int) + 1 := by omega
          have hwr : IntKind.wrap .i64 ((k : Int) + 1) = (k : Int) + 1 := wrapI (by omega) (by omega)
          have hkB : (k : Int) + 1 ≤ rest.length := by omega
          have hc0 : (0 : Int) ≤ ch.length := by omega
          have hcI : (ch.length : Int) ≤ cch := by omega
          clear hx ho2 m0 y0 zM zY
          gi_wp2_with fail
          refine wpIn_wide.2 ?_
          refine' wp_region_box (fun w' => CF B wr w') (fun a b h h' => h.trans ((cs_of_below h').cf B)) [0, 1, 2, 3, 4, 5, 6, 7, 10, 11, 12, 13] 4 41 (by kernel_rfl) (by kernel_rfl) rfl (by kernel_rfl) (by kernel_rfl) rfl (by kernel_rfl) ?hl5 ((CS.refl wr).cf B) ?hq5 ?hr5
          case hl5 =>
            simp only [List.map_cons, List.map_nil, List.getD_cons_zero, List.getD_cons_succ]
            exact rfl
          case hq5 =>
            intro w0 K
            have g0 := (K.box hBC HGk.out.choose).cell (j := 0) rfl
            have zG := (K.box hBC HGk.out.choose).lt
            (repeat (go_big_quiet_step (fail)))
            exact wpQuiet_nil rfl
          case hr5 =>
            obtain ⟨i0, hi, hy0, hy1, hy2⟩ := info_parts info_int
            refine wpUp_one (i := 8) (by kernel_rfl) rfl rfl (fun wa a1 a2 Ka hKa => ?_)
            go_simp
            obtain ⟨V, hV⟩ : ∃ V, V = wa.alloc (.cells #[vi x] 3) := ⟨_, rfl⟩
            have hbV : Below wa.heap.size wa V := by rw [hV]; exact (Below.refl _ _).alloc (Nat.le_refl _) _
            have HCV : Hid (CellsBox V wa.heap.size 3 [vi x]) := by unfold Hid; rw [hV]; exact CellsBox.new wa _ _
            rw [← hV]
            clear hV
            refine hKa _ _ (a2.trans ((cs_of_below hbV).cf B)) ?_
            refine wpUp_one (i := 9) (by kernel_rfl) rfl rfl (fun wc c1 c2 Kc hKc => ?_)
            have HBc : Below wr.heap.size wr wc := gr_trans (gr_trans a1 hbV) c1
            have hIc : IntsAt wc wc.heap.size C ch.length ch := by
              have h1 := (HCk.out.to HBc)
              exact ⟨by simp, by have := h1.few; simp at this; omega, h1.few, h1.row⟩
            refine wp_put_int (by rfl) _ _ _ 3 (by rfl) i0 Tryd.underlying22 hi hy0 hy1 hy2 C ch (by rfl) (fun h => by
              by_cases h0 : ch.length = 0
              · exact h0
              · obtain ⟨b', o', hA, _⟩ := HCk.out.row (by simp; omega)
                rw [h] at hA; cases hA) hIc (by omega) wa.heap.size x (by rfl) ((HCV.out.keep c1).cell (j := 0) rfl) ?_
            rintro C' cap' wd hId - hbd
            simp only [Act.put, List.setIfInBounds_toArray, List.set_cons_zero, List.set_cons_succ]
            refine hKc _ _ (c2.trans ((cs_of_below hbd).cf B)) ?_
            refine wpUp_one (i := 14) (by kernel_rfl) rfl rfl (fun we e1 e2 Ke hKe => ?_)
            have HBe : Below wr.heap.size wr we := gr_trans (gr_trans HBc hbd) e1
            have hIe := hId.to e1
            have HJe := abides_below hJ HJk.out HBe
            go_simp
            refine (CHOOSE.out we C' cap' (HC.out.trans (cs_of_below HBe)) HJe hIe).mono ?_
            rintro e wv ⟨b, rfl, hT⟩
            have hTC : CF B wr wv := by
              rcases hT.out with ⟨_, _, _, _, h⟩ | ⟨_, _, _, _, _, _, _, _, h⟩
              · exact ((cs_of_below HBe).trans h).cf B
              · exact ((cs_of_below HBe).cf B).trans h
            refine hKe _ _ hTC ?_
            refine wpUp_one (i := 15) (by kernel_rfl) rfl rfl (fun wf f1 f2 Kf hKf => ?_)
            go_simp
            refine hKf _ _ f2 (wpUp_done (by kernel_rfl) (fun W8 g1 g2 => NoPanic.normal ?_))
            have HB8 : Hid (Below wv.heap.size wv W8) := gr_trans f1 g1
            rcases b with _ | _
            · have hT2 : Hid (∃ (d r : List (List Int)) (xs : List SRow) (y : SRow), choF m rest ch = d ++ y.slips :: r ∧ xs.map SRow.slips = d ∧ Jx (pre ++ xs ++ [y]) W8 ∧ CF B W W8) := by
                rcases hT.out with ⟨h, _⟩ | ⟨_, d, r, xs, y, h1, h2, h3, h4⟩
                · cases h
                · refine ⟨em.map SRow.slips ++ d, r ++ chL m (rest.drop (k + 1)) ch, em ++ xs, y, ?_, ?_, ?_, ?_⟩
                  · rw [HE.out, ← HE2.out, h1]; simp
                  · rw [List.map_append, h2]
                  · have := abides_below hJx h3 HB8.out
                    simpa using this
                  · exact (HC.out.cf B).trans (((cs_of_below HBe).cf B).trans (h4.trans ((cs_of_below HB8.out).cf B)))
              clear hT
              gi_wp2_with fail
              go_ret
              exact ⟨false, rfl, .inr ⟨rfl, hT2.out⟩⟩
            · have hT2 : Hid (∃ xs : List SRow, xs.map SRow.slips ++ chL m (rest.drop (k + 1)) ch = chL m rest ch ∧ J (pre ++ xs) W8 ∧ CS W W8) := by
                rcases hT.out with ⟨_, xs, h1, h2, h3⟩ | ⟨h, _⟩
                · refine ⟨em ++ xs, ?_, ?_, ?_⟩
                  · rw [← HE2.out, List.map_append, h1]; simp
                  · have := abides_below hJ h2 HB8.out
                    simpa using this
                  · exact (HC.out.trans (cs_of_below HBe)).trans (h3.trans (cs_of_below HB8.out))
                · cases h
              obtain ⟨xs, t1, t2, t3⟩ := hT2.out
              have T1 := Lib.hid t1
              have T2 := Lib.hid t2
              have T3 := Lib.hid t3
              clear hT hT2 t1 t2 t3 hi hy0 hy1 hy2
              gi_wp2_with fail
              go_roundw
              case rel =>
                exact ⟨k + 1, xs, by omega, by go_num, T1, T2, T3⟩
              case measure => simp [intOf]; omega
        · obtain rfl : k = rest.length := by omega
          have hd0 : rest.drop rest.length = [] := List.drop_length
          have HE2 := Lib.hid HE1.out
          rw [hd0, chL, List.append_nil] at HE2
          have HJ9 : Hid (∃ xs : List SRow, xs.map SRow.slips = choF m rest ch ∧ J (pre ++ xs) wr ∧ CS W wr) := ⟨em, by rw [HE.out]; exact HE2.out, HJk.out, HC.out⟩
          clear hd0 HE2
          gi_wp2_with fail
          go_ret
          exact ⟨true, rfl, .inl ⟨rfl, HJ9.out⟩⟩
end Go.Proofs.YtomgnpfpaodpiaaDoor
/- The choices as a sequence: contracts of choices.Of and of what it returns. -/
namespace Go.Proofs.YtomgnpfpaodpiaaDoor
open Go Go.RowKit Go.Shelf
set_option maxHeartbeats 3000000
attribute [local go_sem] Oper.semAt_some
/-- a sequence whose things lie in memory that it made: the rounds are told where (R); a round that goes on keeps all cells, the last one those that the sequence made -/
def SeqM {α : Type} (F : Fence) (n : Nat) (P : Program) (g : Nat) (lb : Array Value) (encs : α → Array Value) (R : α → World → Prop) (S Sp : List α → Prop) (N : Nat) (w : World) : Prop :=
  ∀ (l : Nat) (J Jx : List α → World → Prop) (W : World), Below w.heap.size w W → AbidesFrom W.heap.size J → AbidesFrom W.heap.size Jx →
    (∀ pre x W1, J pre W1 → pre.length < N → R x W1 → YieldAt F (n - 1) P l (encs x) W1 fun e W' => (e = .returned (.bool true) ∧ J (pre ++ [x]) W' ∧ CS W1 W') ∨ (e = .returned (.bool false) ∧ Jx (pre ++ [x]) W' ∧ CF W.heap.size W1 W')) →
    J [] W → CallsIn F n P g (#[.func (.yield l) #[] #[]] ++ lb) W fun e W' => (∃ v, e = .returned v) ∧ ((∃ xs, S xs ∧ J xs W') ∨ (∃ pre, Sp pre ∧ Jx pre W'))
structure OfAt (w : World) (m : Nat) (list : List Int) (A : Option Addr) (cap pM pL : Nat) : Prop where
  many : CellsBox w pM 3 [vi m]
  box : CellsBox w pL 22 [.slice A list.length cap]
  ints : IntsAt w w.heap.size A cap list
theorem OfAt.cs {w w' : World} {m : Nat} {list : List Int} {A : Option Addr} {cap pM pL : Nat} (h : OfAt w m list A cap pM pL) (hc : CS w w') : OfAt w' m list A cap pM pL := ⟨hc.box h.many, hc.box h.box, hc.rows h.ints⟩
abbrev encR (x : SRow) : Array Value := #[x.slice]
def chosenR (m : Nat) (list : List Int) (x : SRow) (w : World) : Prop := x.at w ∧ x.slips.length = m ∧ ∀ y ∈ x.slips, y ∈ list
set_option maxRecDepth 100000 in
theorem of_seq (m : Nat) (hm : m ≤ 1000) (list : List Int) (hl : list.length ≤ 1000) (A : Option Addr) (cap pM pL : Nat) (w : World) (hA : OfAt w m list A cap pM pL) (n : Nat) :
    SeqM Fence.wide n Tryd.prog 106 #[.pointer (some ⟨pM, 0, none⟩), .pointer (some ⟨pL, 0, none⟩)] encR (chosenR m list) (fun xs => xs.map SRow.slips = choF m list []) (fun pre => ∃ (d r : List (List Int)) (xs : List SRow) (x : SRow), pre = xs ++ [x] ∧ choF m list [] = d ++ x.slips :: r ∧ xs.map SRow.slips = d) (choF m list []).length w := by
  intro l J Jx W hW hJ hJx hY' h0
  have hY : ∀ (pre : List SRow) (x : SRow) (W1 : World), J pre W1 → pre.length < (choF m list []).length → x.at W1 → x.slips.length = m → (∀ y ∈ x.slips, y ∈ list) → YieldAt Fence.wide 0 Tryd.prog l #[x.slice] W1 fun e W' => (e = .returned (.bool true) ∧ J (pre ++ [x]) W' ∧ CS W1 W') ∨ (e = .returned (.bool false) ∧ Jx (pre ++ [x]) W' ∧ CF W.heap.size W1 W') :=
    fun pre x W1 hj hl h1 h2 h3 => yield_any (m' := 0) (hY' pre x W1 hj hl ⟨h1, h2, h3⟩)
  have HA := Lib.hid (hA.cs (cs_of_below hW))
  have GV := Lib.hid (fun (pY pC : Nat) (W1 : World) (hB : W.heap.size ≤ pC) hb hg => choose_any (· ∈ list) m hm pM pY pC l (choF m list []).length W.heap.size J Jx hJ hJx hB hY list.length list [] A none cap 0 [] W1 rfl (by simpa using hl) (fun _ h => h) (fun _ h => by simp at h) hg (HA.out.cs (cs_of_below hb)).ints (rows_nil _ _) (abides_below hJ h0 hb) (by simp))
  simp only [List.nil_append, List.length_nil] at GV
  clear hA hY hW h0 hY'
  have f0 := HA.out.box.cell (j := 0) rfl
  have zL := HA.out.box.lt
  refine (callsIn_wide (n := n)).2 ?_
  refine (callsIn_wide (n := 6)).1 ?_
  refine callsIn_of_wp Tryd.func106 rfl trivial ?_ rfl
  simp only [Tryd.ntmps106, List.size_toArray, List.length_cons, List.length_nil, Nat.reduceAdd, Nat.reduceSub, Array.replicate_succ, Array.replicate_zero, List.push_toArray, List.append_toArray, List.nil_append, List.cons_append]
  gi_wp2_with fail
  refine ⟨trivial, ?_⟩
  have X1 := (CellsBox.new W 149 [.func (.yield l) #[] #[]]).alloc (.cells #[chooseV pM W.heap.size (W.heap.size + 1)] 57)
  have X2 := CellsBox.new (W.alloc (.cells #[.func (.yield l) #[] #[]] 149)) 57 [chooseV pM W.heap.size (W.heap.size + 1)]
  rw [World.size_alloc] at X2
  have hb : Below W.heap.size W ((W.alloc (.cells #[.func (.yield l) #[] #[]] 149)).alloc (.cells #[chooseV pM W.heap.size (W.heap.size + 1)] 57)) := by (repeat (first | exact Below.refl _ _ | refine Below.setCell ?_ (by first | omega | (simp; omega) | (simp; done)) _ | refine Below.alloc ?_ (by first | omega | (simp; omega) | (simp; done)) _ | refine Below.drew ?_ | refine below_drewN ?_ _ | refine Below.trans ?_ (Below.mono (by assumption) (by first | omega | (simp; omega) | (simp; done)))))
  have hA2 := HA.out.cs (cs_of_below hb)
  refine (callsIn_wide.2 (GV.out W.heap.size (W.heap.size + 1) _ (by omega) hb ⟨hA2.many, X1, X2⟩)).mono ?_
  rintro e W9 ⟨b, rfl, hT⟩
  have HT := Lib.hid hT
  clear hT X1 X2 hb hA2
  gi_wp2_with fail
  go_end0
  refine ⟨⟨_, rfl⟩, ?_⟩
  rcases HT.out.out with ⟨_, xs, h1, h2, _⟩ | ⟨_, d, r, xs, x, h1, h2, h3, _⟩
  · exact .inl ⟨xs, h1, h2⟩
  · exact .inr ⟨xs ++ [x], ⟨d, r, xs, x, rfl, h1, h2⟩, h3⟩
abbrev ofV (pM pL : Nat) : Value := .func (.func 106) #[] #[.pointer (some ⟨pM, 0, none⟩), .pointer (some ⟨pL, 0, none⟩)]
theorem of_any (m : Nat) (list : List Int) (A : Option Addr) (cap : Nat) (w : World) (h : IntsAt w w.heap.size A cap list) :
    Calls Tryd.prog 75 #[.slice A list.length cap, vi m] w fun e w' => ∃ pM pL, e = .returned (ofV pM pL) ∧ OfAt w' m list A cap pM pL ∧ Below w.heap.size w w' := by
  have HI := Lib.hid h
  clear h
  have X1 := (CellsBox.new w 22 [.slice A list.length cap]).alloc (.cells #[vi m] 3)
  have X2 := CellsBox.new (w.alloc (.cells #[.slice A list.length cap] 22)) 3 [vi m]
  rw [World.size_alloc] at X2
  have HX1 := Lib.hid X1
  have HX2 := Lib.hid X2
  have hb : Below w.heap.size w ((w.alloc (.cells #[.slice A list.length cap] 22)).alloc (.cells #[vi m] 3)) := by (repeat (first | exact Below.refl _ _ | refine Below.setCell ?_ (by first | omega | (simp; omega) | (simp; done)) _ | refine Below.alloc ?_ (by first | omega | (simp; omega) | (simp; done)) _ | refine Below.drew ?_ | refine below_drewN ?_ _ | refine Below.trans ?_ (Below.mono (by assumption) (by first | omega | (simp; omega) | (simp; done)))))
  have HB := Lib.hid hb
  clear X1 X2 hb
  go_enter Tryd.func75, Tryd.ntmps75
  go_wp2_with fail
  go_ret
  exact ⟨_, _, rfl, ⟨HX2.out, HX1.out, HI.out.to HB.out⟩, HB.out⟩
end Go.Proofs.YtomgnpfpaodpiaaDoor
/- A loop over a sequence whose things lie in memory that it made; the body may leave it. -/
namespace Go.Proofs.YtomgnpfpaodpiaaDoor
open Go Go.RowKit
variable {F : Fence} {n : Nat} {P : Program}
theorem CF.lower {B B' : Nat} {a b : World} (h : CF B a b) (hb : B ≤ B') : CF B' a b := ⟨h.size, fun k c t z hk => h.boxes k c t z (by omega)⟩
/-- how the body of a round may be left -/
def postM {α : Type} (B : Nat) (I : List α → World → Prop) (Ix : Code → List α → World → Prop) (xs : List α) (W : World) : Exit → Act → World → Prop
  | .normal, _, W' => KeepsFrom B W W' ∧ CS W W' ∧ I xs W'
  | .ret, _, W' => KeepsFrom B W W' ∧ CF B W W' ∧ Ix .ret xs W'
  | .exit id, _, W' => KeepsFrom B W W' ∧ CF B W W' ∧ Ix (.exit id) xs W'
  | .goto t, _, W' => KeepsFrom B W W' ∧ CF B W W' ∧ Ix (.goto t) xs W'
  | .panic _, _, _ => False
  | .outgrown, _, _ => False
theorem range_outerM {α : Type} {g : Operand} {ps : Array Tmp} {assign body : Code} {Q : Exit → Act → World → Prop} {a : Act} {w : World}
    (hro : F.round = none) (h1 : 1 ≤ n) {gf : Nat} {lb : Array Value} (hg : a.eval g = .func (.func gf) #[] lb) (hFg : F.fn gf) (eg : ∀ args w, (callFunc gf args).run P w = .ok (.enter gf args) w)
    {encs : α → Array Value} {R : α → World → Prop} {S Sp : List α → Prop} {N : Nat} {w0 : World} (hseq : SeqM F (n - 1) P gf lb encs R S Sp N w0)
    (hRk : ∀ x A B, CS A B → R x A → R x B) (hb0 : Below w0.heap.size w0 w) (hps : ∀ x, (encs x).size = ps.size)
    (I : List α → World → Prop) (Ix : Code → List α → World → Prop) (hI : OwnFrom w.heap.size I) (hIx : ∀ c, OwnFrom w.heap.size (Ix c)) (h0 : I [] w) (a₁ : α → Act)
    (hassign : ∀ (l : Nat) (x : α) (W : World) (K : Act → World → Prop), K (a₁ x) W →
      assign.wpIn (F.inRound l) (n - 1 - 1) P (Exit.then K (fun _ _ _ => False)) { tmps := (ps.zip (encs x)).foldl (fun t (p, v) => t.setIfInBounds p v) a.tmps, defers := [] } W)
    (hbody : ∀ (l : Nat) (pre : List α) (x : α) (W : World), w.heap.size ≤ l → I pre W → R x W → pre.length < N → body.wpIn (F.inRound l) (n - 1 - 1) P (postM w.heap.size I Ix (pre ++ [x]) W) (a₁ x) W)
    (hdone : ∀ (D : Nat) (xs : List α) (W : World), w.heap.size ≤ D → S xs → I xs W → W.heap[D]? = some (.deferred (some [])) → Q .normal { a with defers := { target := .collected D, args := #[] } :: a.defers } W)
    (hstop : ∀ (D : Nat) (c : Code) (pre : List α) (W : World), w.heap.size ≤ D → Sp pre → Ix c pre W → W.heap[D]? = some (.deferred (some [])) → c.wpIn F n P Q { a with defers := { target := .collected D, args := #[] } :: a.defers } W) :
    (Code.rangeFunc g ps assign body).wpIn F n P Q a w := by
  refine wpIn_rangeFunc fun fn hfn => ?_
  rw [hro]
  obtain ⟨W1, hW1⟩ : ∃ W1, (w.alloc (.deferred (some []))).alloc (.loop (lrec fn a.tmps ps assign body w.heap.size .ready)) = W1 := ⟨_, rfl⟩
  have hl1 : W1.heap[w.heap.size + 1]? = some (.loop (lrec fn a.tmps ps assign body w.heap.size .ready)) := by
    subst hW1
    have := World.alloc_heap_new (w.alloc (.deferred (some []))) (.loop (lrec fn a.tmps ps assign body w.heap.size .ready))
    rwa [World.size_alloc] at this
  have hd1 : W1.heap[w.heap.size]? = some (.deferred (some [])) := by
    subst hW1
    exact (Below.heap_alloc _ _ _ (by simp)).trans (World.alloc_heap_new w _)
  have hI1 : I [] W1 := by subst hW1; exact hI.alloc _ (hI.alloc _ h0)
  have hb1 : Below w0.heap.size w0 W1 := by subst hW1; exact hb0.trans ((((Below.refl _ w).alloc (Nat.le_refl _) _).alloc (by simp) _).mono hb0.size)
  have hsz1 : w.heap.size + 2 ≤ W1.heap.size := by subst hW1; simp
  have hlt1 : w.heap.size + 1 < W1.heap.size := by omega
  have up : ∀ {A : World} {row : Option Nat}, (∀ r, row = some r → W1.heap.size ≤ r ∧ ∃ o : Obj, A.heap[r]? = some o ∧ o.isWalk = true) → (∀ r, row = some r → w.heap.size ≤ r ∧ ∃ o : Obj, A.heap[r]? = some o ∧ o.isCells = false) :=
    fun hr r e => by obtain ⟨hB, o, ho, hw⟩ := hr r e; exact ⟨by omega, o, ho, Obj.not_cells_of_walk hw⟩
  refine ⟨w.heap.size + 1, [{ target := .collected w.heap.size, args := #[] }], W1, { target := .fn (.func gf) lb, args := #[.func (.yield (w.heap.size + 1)) #[] #[]] }, W1, gf, #[.func (.yield (w.heap.size + 1)) #[] #[]] ++ lb, W1, ?_, ?_, ?_, ?_, fun _ => h1, ?_⟩
  · rw [← hW1]; exact run_enterLoop_outer _ _ _ _ _
  · simp only [resolve, hg]
    simp [go_sem]
  · intro f' hf'; simp [Target.leads] at hf'; subst hf'; exact hFg
  · simp [invoke, go_sem, eg]
  · refine (hseq (w.heap.size + 1)
      (fun pre W => I pre W ∧ W.heap[w.heap.size + 1]? = some (.loop (lrec fn a.tmps ps assign body w.heap.size .ready)) ∧ W.heap[w.heap.size]? = some (.deferred (some [])))
      (fun pre W => ∃ c, Ix c pre W ∧ W.heap[w.heap.size + 1]? = some (.loop { lrec fn a.tmps ps assign body w.heap.size .done with pending := some c }) ∧ W.heap[w.heap.size]? = some (.deferred (some [])))
      W1 hb1 ?_ ?_ ?_ ⟨hI1, hl1, hd1⟩).mono ?_
    · intro s A B row hs hg' hr
      exact ⟨hI s A B row hs.1 hg' (up hr), heap_stays hg' (fun r e => (hr r e).1) hs.2.1 hlt1, heap_stays hg' (fun r e => (hr r e).1) hs.2.2 (by omega)⟩
    · rintro s A B row ⟨c, hc, hl, hk⟩ hg' hr
      exact ⟨c, hIx c s A B row hc hg' (up hr), heap_stays hg' (fun r e => (hr r e).1) hl hlt1, heap_stays hg' (fun r e => (hr r e).1) hk (by omega)⟩
    · rintro pre x W ⟨hi, hl, hk⟩ hlen hx
      have hlt : w.heap.size + 1 < W.heap.size := (Array.getElem?_eq_some_iff.1 hl).1
      have hy := run_yield (P := P) (args := encs x) hl (hps x)
      refine ⟨fn, _, assign, body, hy, roundIn_of_wpIn hfn (hassign _ x W _ ⟨_, run_beginRound hl rfl, ?_⟩)⟩
      have hl2 : (W.putObj (w.heap.size + 1) (.loop (lrec fn a.tmps ps assign body w.heap.size .busy))).heap[w.heap.size + 1]? = some (.loop (lrec fn a.tmps ps assign body w.heap.size .busy)) := World.putObj_heap_same hlt
      have hk2 : (W.putObj (w.heap.size + 1) (.loop (lrec fn a.tmps ps assign body w.heap.size .busy))).heap[w.heap.size]? = some (.deferred (some [])) := (World.putObj_heap_other (by omega)).trans hk
      have hc2 : CS W (W.putObj (w.heap.size + 1) (.loop (lrec fn a.tmps ps assign body w.heap.size .busy))) := CS.turn _ _ _ _ hl rfl
      refine wpIn_mono (hbody _ pre x _ (by omega) (hI.putObj _ hi (by omega) hl rfl) (hRk x _ _ hc2 hx) hlen) ?_
      have stop : ∀ (c : Code) (W3 : World), KeepsFrom w.heap.size (W.putObj (w.heap.size + 1) (.loop (lrec fn a.tmps ps assign body w.heap.size .busy))) W3 → CF w.heap.size (W.putObj (w.heap.size + 1) (.loop (lrec fn a.tmps ps assign body w.heap.size .busy))) W3 → Ix c (pre ++ [x]) W3 →
          ∃ b W4, (Instr.endRound (w.heap.size + 1) (some c)).run P W3 = .ok (.bool b) W4 ∧ ((Ending.returned (Value.bool b) = .returned (.bool true) ∧ (I (pre ++ [x]) W4 ∧ W4.heap[w.heap.size + 1]? = some (.loop (lrec fn a.tmps ps assign body w.heap.size .ready)) ∧ W4.heap[w.heap.size]? = some (.deferred (some []))) ∧ CS W W4) ∨
            (Ending.returned (Value.bool b) = .returned (.bool false) ∧ (∃ c, Ix c (pre ++ [x]) W4 ∧ W4.heap[w.heap.size + 1]? = some (.loop { lrec fn a.tmps ps assign body w.heap.size .done with pending := some c }) ∧ W4.heap[w.heap.size]? = some (.deferred (some []))) ∧ CF W1.heap.size W W4)) := fun c W3 hk3 hf3 hi3 => by
        have hl3 := hk3.same (w.heap.size + 1) _ (by omega) hl2 rfl
        have hr := run_endRound (P := P) (some c) hl3
        refine ⟨_, _, hr, .inr ⟨rfl, ⟨c, (hIx c).putObj _ hi3 (by omega) hl3 rfl, World.putObj_heap_same (Array.getElem?_eq_some_iff.1 hl3).1, (World.putObj_heap_other (by omega)).trans (hk3.same _ _ (Nat.le_refl _) hk2 rfl)⟩, ?_⟩⟩
        exact ((hc2.cf _).trans (hf3.lower (by omega))).trans ((CS.turn _ _ _ _ hl3 rfl).cf _)
      rintro e a3 W3 hp
      cases e with
      | normal =>
        obtain ⟨hk3, hc3, hi3⟩ := hp
        have hl3 := hk3.same (w.heap.size + 1) _ (by omega) hl2 rfl
        have hr := run_endRound (P := P) none hl3
        exact ⟨_, _, hr, .inl ⟨rfl, ⟨hI.putObj _ hi3 (by omega) hl3 rfl, World.putObj_heap_same (Array.getElem?_eq_some_iff.1 hl3).1, (World.putObj_heap_other (by omega)).trans (hk3.same _ _ (Nat.le_refl _) hk2 rfl)⟩, (hc2.trans hc3).trans (CS.turn _ _ _ _ hl3 rfl)⟩⟩
      | ret =>
        obtain ⟨b, W4, g1, g2⟩ := stop .ret W3 hp.1 hp.2.1 hp.2.2
        exact ⟨_, _, g1, g2⟩
      | exit id =>
        obtain ⟨b, W4, g1, g2⟩ := stop (.exit id) W3 hp.1 hp.2.1 hp.2.2
        exact ⟨_, _, g1, g2⟩
      | goto t =>
        obtain ⟨b, W4, g1, g2⟩ := stop (.goto t) W3 hp.1 hp.2.1 hp.2.2
        exact ⟨_, _, g1, g2⟩
      | panic ch => exact hp.elim
      | outgrown => exact hp.elim
    · rintro e W2 ⟨⟨v, rfl⟩, (⟨xs, hS, hi, hl, hk⟩ | ⟨pre, hSp, c, hi, hl, hk⟩)⟩
      · have := run_endLoop (P := P) hl (by simp)
        exact ⟨none, _, this, hdone _ xs _ (Nat.le_refl _) hS (hI.putObj _ hi (by omega) hl rfl) ((World.putObj_heap_other (by omega)).trans hk)⟩
      · have := run_endLoop (P := P) hl (by simp)
        exact ⟨some c, _, this, hstop _ c pre _ (Nat.le_refl _) hSp ((hIx c).putObj _ hi (by omega) hl rfl) ((World.putObj_heap_other (by omega)).trans hk)⟩
end Go.Proofs.YtomgnpfpaodpiaaDoor
/- A function that ends with many collected calls, none of them with anything to run; the plain form of Late. -/
namespace Go.Proofs.YtomgnpfpaodpiaaDoor
open Go Go.RowKit
abbrev marksOf (Ds : List Nat) : List Deferred := Ds.map fun D => { target := .collected D, args := #[] }
def shut (w : World) (Ds : List Nat) : World := Ds.foldl (fun X D => X.putObj D (.deferred none)) w
theorem leaves_marks {F : Fence} {n : Nat} {P : Program} {fn : Func} {tmps : Array Value} {R : Ending → World → Prop} : ∀ (Ds : List Nat) (w : World), Ds.Nodup → (∀ D ∈ Ds, w.heap[D]? = some (.deferred (some []))) →
    LeavesInM F n P fn tmps R [] .returning (shut w Ds) → LeavesInM F n P fn tmps R (marksOf Ds) .returning w
  | [], _, _, _, h => h
  | D :: Ds, w, hn, hD, h => by
    obtain ⟨n1, n2⟩ := List.nodup_cons.1 hn
    have hd := hD D (by simp)
    refine ⟨by simp, .inl ⟨_, _, rfl, run_takeDeferred hd, ?_⟩⟩
    exact leaves_marks Ds _ n2 (fun E hE => (World.putObj_heap_other (fun e => by subst e; exact n1 hE)).trans (hD E (by simp [hE]))) h
/-- is there room among so many pickers for all slips but those -/
def canLess (f : Floor) (p : Nat) (l : List Int) : Bool := canF f p (lessF (allF f) (setF (l.map Int.toNat)))
/-- the slips of a floor, as members answers them -/
def slipsF (f : Floor) : List Int := (List.range f.slips.length).map Int.ofNat
/-- the fewest slips that are late -/
def lateF (f : Floor) (p : Nat) : List Int := ((List.range f.slips.length).findSome? fun many => (choF many (slipsF f) []).find? (canLess f p)).getD (slipsF f)
def LateV (f : Floor) (n : Int) : List Int × Int := if checkV f = 0 then (if hasB 1 5 n then (lateF f n.toNat, 0) else ([], 31)) else ([], checkV f)
end Go.Proofs.YtomgnpfpaodpiaaDoor
/- Contract of Late. -/
namespace Go.Proofs.YtomgnpfpaodpiaaDoor
open Go Go.RowKit Go.Shelf
set_option maxHeartbeats 4000000
attribute [local go_sem] Oper.semAt_some
/-- none of those that were tried so far can be late alone -/
def NoneF (f : Floor) (p k : Nat) : Prop := ∀ j, j < k → ∀ y ∈ choF j (slipsF f) [], canLess f p y = false
theorem late_some {f : Floor} {p k : Nat} {d r : List (List Int)} {y : List Int} (hn : NoneF f p k) (hk : k < f.slips.length) (he : choF k (slipsF f) [] = d ++ y :: r) (hd : ∀ z ∈ d, canLess f p z = false) (hy : canLess f p y = true) : lateF f p = y := by
  unfold lateF
  have h1 : (choF k (slipsF f) []).find? (canLess f p) = some y := by
    rw [he, List.find?_append, List.find?_eq_none.2 (fun z hz => by rw [hd z hz]; simp), List.find?_cons, hy]
    rfl
  have h2 : ((List.range f.slips.length).findSome? fun many => (choF many (slipsF f) []).find? (canLess f p)) = some y := by
    rw [List.findSome?_eq_some_iff]
    refine ⟨List.range k, k, (List.range f.slips.length).drop (k + 1), ?_, h1, fun j hj => ?_⟩
    · have e := List.take_append_drop k (List.range f.slips.length)
      rw [List.take_range, Nat.min_eq_left (by omega)] at e
      have e2 : (List.range f.slips.length).drop k = k :: (List.range f.slips.length).drop (k + 1) := by
        rw [List.drop_eq_getElem_cons (by simpa using hk)]
        simp
      rw [← e2, e]
    · rw [List.find?_eq_none]
      intro z hz
      rw [hn j (List.mem_range.1 hj) z hz]; simp
  rw [h2]
  rfl
theorem late_none {f : Floor} {p : Nat} (hn : NoneF f p f.slips.length) : lateF f p = slipsF f := by
  unfold lateF
  have h2 : ((List.range f.slips.length).findSome? fun many => (choF many (slipsF f) []).find? (canLess f p)) = none := by
    rw [List.findSome?_eq_none_iff]
    intro j hj
    rw [List.find?_eq_none]
    intro z hz
    rw [hn j (List.mem_range.1 hj) z hz]; simp
  rw [h2]
  rfl
/-- what is so between rounds of the outer loop -/
structure LateO (f : Floor) (p bm k : Nat) (Ds : List Nat) (W4 X : World) : Prop where
  crew : ∃ μ, CrewMap X bm μ ∧ Inv f 5 μ
  none : NoneF f p k
  cs : CS W4 X
  spare : Spare W4.heap.size bm W4 X
  nodup : Ds.Nodup
  marks : ∀ D ∈ Ds, W4.heap.size ≤ D ∧ X.heap[D]? = some (.deferred (some []))
/-- what is so between rounds of the inner one -/
def LateI (f : Floor) (p bm : Nat) (W0 : World) (pre : List SRow) (X : World) : Prop := (∃ μ, CrewMap X bm μ ∧ Inv f 5 μ) ∧ (∀ y ∈ pre, canLess f p y.slips = false) ∧ CS W0 X ∧ Spare W0.heap.size bm W0 X
def LateX (f : Floor) (p b4 b5 : Nat) (w : World) (Ds : List Nat) (c : Code) (pre : List SRow) (X : World) : Prop :=
  c = .ret ∧ ∃ d x, pre = d ++ [x] ∧ (∀ y ∈ d, canLess f p y.slips = false) ∧ canLess f p x.slips = true ∧ IntsAt X X.heap.size x.ad x.slips.length x.slips ∧ CellsBox X b4 22 [.slice x.ad x.slips.length x.slips.length] ∧ CellsBox X b5 30 [vi 0] ∧ Below w.heap.size w X ∧ ∀ D ∈ Ds, X.heap[D]? = some (.deferred (some []))
theorem own_lateI (f : Floor) (p bm : Nat) (W0 : World) (hbm : bm < W0.heap.size) : OwnFrom W0.heap.size (LateI f p bm W0) := by
  rintro s X Y row ⟨⟨μ, h1, h2⟩, h3, h4, h5⟩ hg hr
  exact ⟨⟨μ, crew_row h1 hbm hg hr, h2⟩, h3, h4.trans (cs_row hg hr), spare_row h5 (Nat.le_refl _) (Nat.le_refl _) hg hr⟩
theorem own_lateX (f : Floor) (p b4 b5 : Nat) (w : World) (Ds : List Nat) (B : Nat) (hw : w.heap.size ≤ B) (hDs : ∀ D ∈ Ds, D < B) (c : Code) : OwnFrom B (LateX f p b4 b5 w Ds c) := by
  rintro s X Y row ⟨hc, d, x, h0, h1, h2, h3, h4, h5, h6, h7⟩ hg hr
  have hcs := cs_row hg hr
  refine ⟨hc, d, x, h0, h1, h2, hcs.rows h3, hcs.box h4, hcs.box h5, ?_, fun D hD => heap_stays hg (fun r e => (hr r e).1) (h7 D hD) (hDs D hD)⟩
  exact ⟨hg.os.trans h6.os, hg.tape.trans h6.tape, hg.output.trans h6.output, Nat.le_trans h6.size hg.size, fun k hk => (hg.block k (by have := h6.size; omega) fun e => by have := (hr k e.symm).1; omega).trans (h6.block k hk)⟩
/-- a box of one cell that is written -/
theorem box_one {W : World} {b : Nat} {t : TypeId} {v u : Value} (h : CellsBox W b t [v]) : CellsBox (W.setCell ⟨b, 0, none⟩ u) b t [u] := h.store 0 u
theorem box_cells {W : World} {b : Nat} {t : TypeId} {v : Value} (h : CellsBox W b t [v]) {o : Nat} {x : Value} (hx : W.cell? ⟨b, o, none⟩ = some x) : o = 0 ∧ x = v := by
  unfold World.cell? at hx
  dsimp only at hx
  rw [show W.heap[b]? = _ from h] at hx
  cases o with
  | zero => simp at hx; exact ⟨rfl, hx.symm⟩
  | succ o => simp at hx
/-- ints lie where they did, when a box is written that holds no int, or what it held -/
theorem ints_box {W : World} {b cap : Nat} {t : TypeId} {v u : Value} {A : Option Addr} {l : List Int} (h : IntsAt W W.heap.size A cap l) (hb : CellsBox W b t [v]) (hv : (∀ n : Int, v ≠ vi n) ∨ u = v) : IntsAt (W.setCell ⟨b, 0, none⟩ u) (W.setCell ⟨b, 0, none⟩ u).heap.size A cap l := by
  refine ⟨h.len, h.cap, h.few, fun hl => ?_⟩
  obtain ⟨b', off, hA, hlt, hc⟩ := h.row hl
  refine ⟨b', off, hA, by simpa using hlt, fun i r hi j x hj hx => ?_⟩
  have h1 := hc i r hi j x hj hx
  by_cases hbb : b' = b
  · subst hbb
    obtain ⟨ho, hxv⟩ := box_cells hb h1
    rcases hv with hv | rfl
    · exfalso
      rw [List.getElem?_map] at hi
      obtain ⟨n, _, rfl⟩ := Option.map_eq_some_iff.1 hi
      cases j with
      | zero => simp at hx; exact hv n (hxv.symm.trans hx.symm)
      | succ j => simp at hx
    · rw [ho, hxv]
      exact (box_one hb).cell (j := 0) rfl
  · have hb2 : b ≠ b' := fun e => hbb e.symm
    unfold World.cell? at h1 ⊢
    dsimp only at h1 ⊢
    rw [heap_setCell_other _ _ b' _ (by simpa using hbb)]
    exact h1
theorem cs_shut : ∀ (Ds : List Nat) (w : World), Ds.Nodup → (∀ D ∈ Ds, w.heap[D]? = some (.deferred (some []))) → CS w (shut w Ds)
  | [], w, _, _ => CS.refl w
  | D :: Ds, w, hn, h => by
    obtain ⟨n1, n2⟩ := List.nodup_cons.1 hn
    exact (CS.turn w D _ _ (h D (by simp)) rfl).trans (cs_shut Ds _ n2 (fun E hE => (World.putObj_heap_other (fun e => by subst e; exact n1 hE)).trans (h E (by simp [hE]))))
theorem below_shut {B : Nat} {w0 : World} : ∀ (Ds : List Nat) (w : World), Below B w0 w → (∀ D ∈ Ds, B ≤ D) → Below B w0 (shut w Ds)
  | [], _, h, _ => h
  | D :: Ds, w, h, k => below_shut Ds _ ⟨h.os, h.tape, h.output, by simpa using h.size, fun j hj => (World.putObj_heap_other (by have := k D (by simp); omega)).trans (h.block j hj)⟩ (fun E hE => k E (by simp [hE]))
set_option maxRecDepth 100000 in
theorem Late_any (f : Floor) (n : Int) (w : World) (hl : Lim w) (h : FloorAt w w.heap.size f) :
    Calls Tryd.prog 30 #[f.val, vi n] w fun e w' => ∃ A, e = .returned (.tuple #[.slice A (LateV f n).1.length (LateV f n).1.length, vi (LateV f n).2]) ∧ IntsAt w' w'.heap.size A (LateV f n).1.length (LateV f n).1 ∧ Below w.heap.size w w' := by
  have HL := Lib.hid hl
  have HF := Lib.hid h
  rcases check_two f with ⟨hc, hv⟩ | ⟨hc, hv⟩
  · have CH := Lib.hid (fun (W : World) hL hW => check_is hc W hL hW)
    have E : LateV f n = ([], 30) := by unfold LateV; rw [if_neg (by omega), hc]
    rw [E]
    clear h hl hc E hv
    refine (callsIn_wide (n := 12)).1 ?_
    refine callsIn_of_wp_marks Tryd.func30 rfl trivial ?_ rfl
    simp only [Tryd.ntmps30, List.size_toArray, List.length_cons, List.length_nil, Nat.reduceAdd, Nat.reduceSub, Array.replicate_succ, Array.replicate_zero, List.push_toArray, List.append_toArray, List.nil_append, List.cons_append]
    gi_wp2_with fail
    refine ⟨trivial, ?_⟩
    refine (callsIn_wide.2 (CH.out _ (HL.out.next (by (repeat (first | exact Below.refl _ _ | refine Below.setCell ?_ (by first | omega | (simp; omega) | (simp; done)) _ | refine Below.alloc ?_ (by first | omega | (simp; omega) | (simp; done)) _ | refine Below.drew ?_ | refine below_drewN ?_ _ | refine Below.trans ?_ (Below.mono (by assumption) (by first | omega | (simp; omega) | (simp; done))))))) (HF.out.to (by (repeat (first | exact Below.refl _ _ | refine Below.setCell ?_ (by first | omega | (simp; omega) | (simp; done)) _ | refine Below.alloc ?_ (by first | omega | (simp; omega) | (simp; done)) _ | refine Below.drew ?_ | refine below_drewN ?_ _ | refine Below.trans ?_ (Below.mono (by assumption) (by first | omega | (simp; omega) | (simp; done))))))))).mono ?_
    rintro e W ⟨rfl, hb⟩
    have HB0 : Below w.heap.size w W := by (repeat (first | exact Below.refl _ _ | refine Below.setCell ?_ (by first | omega | (simp; omega) | (simp; done)) _ | refine Below.alloc ?_ (by first | omega | (simp; omega) | (simp; done)) _ | refine Below.drew ?_ | refine below_drewN ?_ _ | refine Below.trans ?_ (Below.mono (by assumption) (by first | omega | (simp; omega) | (simp; done)))))
    have X4 : CellsBox W (w.heap.size + 1 + 1) 22 [.slice none 0 0] := by
      refine CellsBox.keep (b := w.heap.size + 1 + 1) (t := 22) (cs := [.slice none 0 0]) ?_ hb
      have := (CellsBox.new ((w.alloc (.cells f.cells.toArray 28)).alloc (.cells #[vi n] 3)) 22 [.slice none 0 0]).alloc (.cells #[vi 0] 30)
      simpa using this
    have X5 : CellsBox W (w.heap.size + 1 + 1 + 1) 30 [vi 0] := by
      refine CellsBox.keep (b := w.heap.size + 1 + 1 + 1) (t := 30) (cs := [vi 0]) ?_ hb
      have := CellsBox.new (((w.alloc (.cells f.cells.toArray 28)).alloc (.cells #[vi n] 3)).alloc (.cells #[.slice none 0 0] 22)) 30 [vi 0]
      simpa using this
    have c4 := X4.cell (j := 0) rfl
    have q4 := X4.frozen 0
    have z4 := X4.lt
    have c5 := X5.cell (j := 0) rfl
    have q5 := X5.frozen 0
    have z5 := X5.lt
    have HX4 := Lib.hid X4
    have HX5 := Lib.hid X5
    clear hb X4 X5 CH
    gi_wp2_with fail
    refine (?_ : ∀ Z : World, (Z.cell? ⟨w.heap.size + 1 + 1, 0, none⟩ = some (.slice none 0 0) ∧ Z.cell? ⟨w.heap.size + 1 + 1 + 1, 0, none⟩ = some (vi 30) ∧ Below w.heap.size w Z) → bodyPostM _ _ _ _ _ _ _ Z) _ ⟨?_, ?_, ?_⟩
    · rintro Z ⟨o4, o5, hZ⟩
      exact ⟨.tuple #[.slice none 0 0, vi 30], by simp [results, Tryd.results30, go_sem, o4, o5], none, rfl, rows_nil _ _, hZ⟩
    · have := (((HX4.out.store 0 (.slice none 0 0)).apart ⟨w.heap.size + 1 + 1 + 1, 0, none⟩ (vi 30) (by simp))).cell (j := 0) rfl
      simpa using this
    · have := ((HX5.out.apart ⟨w.heap.size + 1 + 1, 0, none⟩ (.slice none 0 0) (by simp)).store 0 (vi 30)).cell (j := 0) rfl
      simpa using this
    · (repeat (first | exact Below.refl _ _ | refine Below.setCell ?_ (by first | omega | (simp; omega) | (simp; done)) _ | refine Below.alloc ?_ (by first | omega | (simp; omega) | (simp; done)) _ | refine Below.drew ?_ | refine below_drewN ?_ _ | refine Below.trans ?_ (Below.mono (by assumption) (by first | omega | (simp; omega) | (simp; done)))))
  · have CH := Lib.hid (fun (W : World) hL hW => check_is hc W hL hW)
    have HV := Lib.hid hv
    have H9 := Lib.hid (fine hv).slips9
    obtain ⟨hb, hhb⟩ : ∃ hb, hasB 1 5 n = hb := ⟨_, rfl⟩
    have HAS := Lib.hid (fun (W : World) => has_is hhb W)
    have E : Hid (LateV f n = if hb then (lateF f n.toNat, 0) else ([], 31)) := by unfold Hid LateV; rw [if_pos hc, hhb]
    have HHB := Lib.hid hhb
    obtain ⟨RV, hRV⟩ : ∃ RV, RV = LateV f n := ⟨_, rfl⟩
    rw [← hRV] at E ⊢
    clear h hl hc hv hhb hRV
    refine (callsIn_wide (n := 12)).1 ?_
    refine callsIn_of_wp_marks Tryd.func30 rfl trivial ?_ rfl
    simp only [Tryd.ntmps30, List.size_toArray, List.length_cons, List.length_nil, Nat.reduceAdd, Nat.reduceSub, Array.replicate_succ, Array.replicate_zero, List.push_toArray, List.append_toArray, List.nil_append, List.cons_append]
    gi_wp2_with fail
    refine ⟨trivial, ?_⟩
    refine (callsIn_wide.2 (CH.out _ (HL.out.next (by (repeat (first | exact Below.refl _ _ | refine Below.setCell ?_ (by first | omega | (simp; omega) | (simp; done)) _ | refine Below.alloc ?_ (by first | omega | (simp; omega) | (simp; done)) _ | refine Below.drew ?_ | refine below_drewN ?_ _ | refine Below.trans ?_ (Below.mono (by assumption) (by first | omega | (simp; omega) | (simp; done))))))) (HF.out.to (by (repeat (first | exact Below.refl _ _ | refine Below.setCell ?_ (by first | omega | (simp; omega) | (simp; done)) _ | refine Below.alloc ?_ (by first | omega | (simp; omega) | (simp; done)) _ | refine Below.drew ?_ | refine below_drewN ?_ _ | refine Below.trans ?_ (Below.mono (by assumption) (by first | omega | (simp; omega) | (simp; done))))))))).mono ?_
    rintro e W ⟨rfl, hb0⟩
    have HB0 : Below w.heap.size w W := by (repeat (first | exact Below.refl _ _ | refine Below.setCell ?_ (by first | omega | (simp; omega) | (simp; done)) _ | refine Below.alloc ?_ (by first | omega | (simp; omega) | (simp; done)) _ | refine Below.drew ?_ | refine below_drewN ?_ _ | refine Below.trans ?_ (Below.mono (by assumption) (by first | omega | (simp; omega) | (simp; done)))))
    have X2 : CellsBox W w.heap.size 28 f.cells := (((CellsBox.new w 28 f.cells).alloc _).alloc _).alloc _ |>.keep hb0
    have X3 : CellsBox W (w.heap.size + 1) 3 [vi n] := by
      refine CellsBox.keep (b := w.heap.size + 1) (t := 3) (cs := [vi n]) ?_ hb0
      have := ((CellsBox.new (w.alloc (.cells f.cells.toArray 28)) 3 [vi n]).alloc (.cells #[.slice none 0 0] 22)).alloc (.cells #[vi 0] 30)
      simpa using this
    have X4 : CellsBox W (w.heap.size + 1 + 1) 22 [.slice none 0 0] := by
      refine CellsBox.keep (b := w.heap.size + 1 + 1) (t := 22) (cs := [.slice none 0 0]) ?_ hb0
      have := (CellsBox.new ((w.alloc (.cells f.cells.toArray 28)).alloc (.cells #[vi n] 3)) 22 [.slice none 0 0]).alloc (.cells #[vi 0] 30)
      simpa using this
    have X5 : CellsBox W (w.heap.size + 1 + 1 + 1) 30 [vi 0] := by
      refine CellsBox.keep (b := w.heap.size + 1 + 1 + 1) (t := 30) (cs := [vi 0]) ?_ hb0
      have := CellsBox.new (((w.alloc (.cells f.cells.toArray 28)).alloc (.cells #[vi n] 3)).alloc (.cells #[.slice none 0 0] 22)) 30 [vi 0]
      simpa using this
    have HLW := HL.out.next HB0
    have l0 := (HLW.row 9 (by omega) (a := 1) (b := 5) (by decide) (by decide)).1
    have l1 := (HLW.row 9 (by omega) (a := 1) (b := 5) (by decide) (by decide)).2
    have zL := HLW.pos
    have n0 := X3.cell (j := 0) rfl
    have zn := X3.lt
    have HX2 := Lib.hid X2
    have HX3 := Lib.hid X3
    have HX4 := Lib.hid X4
    have HX5 := Lib.hid X5
    have HLW := Lib.hid HLW
    clear hb0 X2 X3 X4 X5 CH
    gi_wp2_with fail
    refine ⟨trivial, ?_⟩
    refine (callsIn_wide.2 (HAS.out _)).mono ?_
    rintro e W1 ⟨rfl, hb1⟩
    have HB1 : Below w.heap.size w W1 := HB0.trans (hb1.mono HB0.size)
    have HX2 := Lib.hid (HX2.out.keep hb1)
    have HX3 := Lib.hid (HX3.out.keep hb1)
    have HX4 := Lib.hid (HX4.out.keep hb1)
    have HX5 := Lib.hid (HX5.out.keep hb1)
    clear l0 l1 zL n0 zn hb1
    rcases hb with _ | _
    · have c4 := HX4.out.cell (j := 0) rfl
      have q4 := HX4.out.frozen 0
      have z4 := HX4.out.lt
      have c5 := HX5.out.cell (j := 0) rfl
      have q5 := HX5.out.frozen 0
      have z5 := HX5.out.lt
      gi_wp2_with fail
      refine (?_ : ∀ Z : World, (Z.cell? ⟨w.heap.size + 1 + 1, 0, none⟩ = some (.slice none 0 0) ∧ Z.cell? ⟨w.heap.size + 1 + 1 + 1, 0, none⟩ = some (vi 31) ∧ Below w.heap.size w Z) → bodyPostM _ _ _ _ _ _ _ Z) _ ⟨?_, ?_, ?_⟩
      · rintro Z ⟨o4, o5, hZ⟩
        refine ⟨.tuple #[.slice none 0 0, vi 31], by simp [results, Tryd.results30, go_sem, o4, o5], none, ?_, ?_, hZ⟩
        · rw [E.out]; rfl
        · rw [E.out]; exact rows_nil _ _
      · have := (((HX4.out.store 0 (.slice none 0 0)).apart ⟨w.heap.size + 1 + 1 + 1, 0, none⟩ (vi 31) (by simp))).cell (j := 0) rfl
        simpa using this
      · have := ((HX5.out.apart ⟨w.heap.size + 1 + 1, 0, none⟩ (.slice none 0 0) (by simp)).store 0 (vi 31)).cell (j := 0) rfl
        simpa using this
      · (repeat (first | exact Below.refl _ _ | refine Below.setCell ?_ (by first | omega | (simp; omega) | (simp; done)) _ | refine Below.alloc ?_ (by first | omega | (simp; omega) | (simp; done)) _ | refine Below.drew ?_ | refine below_drewN ?_ _ | refine Below.trans ?_ (Below.mono (by assumption) (by first | omega | (simp; omega) | (simp; done)))))
    · have EV : Hid (RV = (lateF f n.toNat, 0)) := by unfold Hid; rw [E.out]; rfl
      obtain ⟨p, hp⟩ : ∃ p : Nat, n = p := ⟨n.toNat, by have := hasB_iff.1 HHB.out; omega⟩
      have hp5 : 1 ≤ p ∧ p ≤ 5 := by have := hasB_iff.1 HHB.out; omega
      subst hp
      have a0 := HX2.out.cell (j := 0) rfl
      have a1 := HX2.out.cell (j := 1) rfl
      have a2 := HX2.out.cell (j := 2) rfl
      have a3 := HX2.out.cell (j := 3) rfl
      have a4 := HX2.out.cell (j := 4) rfl
      have a5 := HX2.out.cell (j := 5) rfl
      have z2 := HX2.out.lt
      gi_wp2_with fail
      refine ⟨trivial, ?_⟩
      refine (callsIn_wide.2 (desk_any f HV.out _ (HF.out.to HB1))).mono ?_
      rintro e W2 ⟨oA, qA, qC, bm, rfl, hD, hbm, hb2⟩
      have HB2 : Below w.heap.size w W2 := HB1.trans (hb2.mono HB1.size)
      have hz1 := HB1.size
      have hz2 := hb2.size
      have HD := Lib.hid (hD.into (HF.out.to HB2))
      have hMt := (Array.getElem?_eq_some_iff.1 hD.map).1
      have HM := Lib.hid (CrewMap.new hD.map)
      have HX3 := Lib.hid (HX3.out.keep hb2)
      have HX4 := Lib.hid (HX4.out.keep hb2)
      have HX5 := Lib.hid (HX5.out.keep hb2)
      have AL := Lib.hid (fun X => all_any f H9.out X)
      have E0 : (2 ^ f.slips.length - 1 : Nat) = allF f := rfl
      rw [E0] at AL
      have hmem : membersF (allF f) = List.range f.slips.length := members_all ⟨f.slips.length, by have := H9.out; omega⟩
      have MEM : Hid (∀ X : World, Calls Tryd.prog 74 #[vi (allF f)] X fun e w' => ∃ A, e = .returned (.slice A f.slips.length f.slips.length) ∧ IntsAt w' w'.heap.size A f.slips.length (slipsF f) ∧ Below X.heap.size X w') := fun X => by
        refine (members_any (allF f) (allF_lt H9.out) X).mono ?_
        rintro e w' ⟨A, rfl, h1, _, h3⟩
        rw [hmem] at h1 ⊢
        rw [List.length_range] at h1 ⊢
        exact ⟨A, rfl, h1, h3⟩
      clear hb2 hD a0 a1 a2 a3 a4 a5 z2 E0 HX2 hmem
      gi_wp2_with fail
      obtain ⟨V, hV⟩ : ∃ V, V = W2.alloc (.cells #[.slice f.fA f.far.length f.fC, vi f.slo, vi f.shi, .slice f.pA f.picks.length f.pC, vi f.carry, .slice f.sA f.slips.length f.sC, .slice oA f.slips.length f.slips.length, .slice qA f.slips.length qC, .map (some bm)] 108) := ⟨_, rfl⟩
      have hbV : Below W2.heap.size W2 V := by rw [hV]; (repeat (first | exact Below.refl _ _ | refine Below.setCell ?_ (by first | omega | (simp; omega) | (simp; done)) _ | refine Below.alloc ?_ (by first | omega | (simp; omega) | (simp; done)) _ | refine Below.drew ?_ | refine below_drewN ?_ _ | refine Below.trans ?_ (Below.mono (by assumption) (by first | omega | (simp; omega) | (simp; done)))))
      have X7 : CellsBox V W2.heap.size 108 (deskC f oA f.slips.length qA f.slips.length qC bm) := by rw [hV]; exact CellsBox.new W2 _ _
      rw [← hV]
      clear hV
      refine ⟨trivial, ?_⟩
      refine (callsIn_wide.2 (AL.out _)).mono ?_
      rintro e W3 ⟨rfl, hb3⟩
      gi_wp2_with fail
      refine ⟨trivial, ?_⟩
      refine (callsIn_wide.2 (MEM.out _)).mono ?_
      rintro e W4 ⟨mA, rfl, hMI, hb4⟩
      have hb24 : Below W2.heap.size W2 W4 := hbV.trans ((gr_trans hb3 hb4).mono hbV.size)
      have HB4 : Below w.heap.size w W4 := HB2.trans (hb24.mono HB2.size)
      have HX7 : Hid (CellsBox W4 W2.heap.size 108 (deskC f oA f.slips.length qA f.slips.length qC bm)) := X7.keep (gr_trans hb3 hb4)
      have HX3 := Lib.hid (HX3.out.keep hb24)
      have HX4 := Lib.hid (HX4.out.keep hb24)
      have HX5 := Lib.hid (HX5.out.keep hb24)
      have HD := Lib.hid (HD.out.cs (cs_of_below hb24))
      have HM := Lib.hid (HM.out.below hb24)
      have HMI := Lib.hid hMI
      have hz4 := hb24.size
      have hL9 : f.slips.length ≤ 9 := H9.out
      clear hb3 hb4 hbV hb24 X7 hMI
      gi_wp2_with fail
      obtain ⟨fv, hfv⟩ : ∃ fv, fv = f.val := ⟨_, rfl⟩
      refine wpIn_loop (fun a' w' => ∃ (u9 u30 u31 u32 u33 u34 u35 u53 : Value) (k : Nat) (Ds : List Nat), (k ≤ f.slips.length ∧ u30 = vi k ∧ LateO f p bm k Ds W4 w') ∧ a' = Act.mk #[f.val, vi p, .pointer (some ⟨w.heap.size, 0, none⟩), .pointer (some ⟨w.heap.size + 1, 0, none⟩), .pointer (some ⟨w.heap.size + 1 + 1, 0, none⟩), .pointer (some ⟨w.heap.size + 1 + 1 + 1, 0, none⟩), vi 0, .pointer (some ⟨W2.heap.size, 0, none⟩), .slice mA f.slips.length f.slips.length, u9, undef,
          f.val, vi 0, vi 0, .bool false, undef, .pointer (some ⟨0, 18, none⟩), .agg #[vi 1, vi 5], vi p, .bool true, .bool false, f.val, f.val,
          .agg #[.slice f.fA f.far.length f.fC, vi f.slo, vi f.shi, .slice f.pA f.picks.length f.pC, vi f.carry, .slice f.sA f.slips.length f.sC, .slice oA f.slips.length f.slips.length, .slice qA f.slips.length qC, .map (some bm)], .pointer (some ⟨W2.heap.size, 0, none⟩), f.val, vi (allF f), .slice mA f.slips.length f.slips.length, .slice mA f.slips.length f.slips.length, vi f.slips.length, u30, u31, u32, u33, u34, u35,
          undef, undef, undef, undef, undef, undef, undef, undef, undef, undef, undef, undef, undef, undef, undef, undef, undef, u53, undef] (marksOf Ds)) (fun a' _ => f.slips.length - (intOf (a'.tmps.getD 30 undef)).toNat) ?start ?round
      case start =>
        exact ⟨_, _, _, _, _, _, _, _, 0, [], ⟨Nat.zero_le _, rfl, ⟨⟨_, HM.out, Inv.empty f 5⟩, fun j hj => absurd hj (by omega), CS.refl _, Spare.refl _ _ _, List.nodup_nil, fun D hD => by simp at hD⟩⟩, rfl⟩
      case round =>
        rintro _ wr ⟨u9, u30, u31, u32, u33, u34, u35, u53, k, Ds, ⟨hk, rfl, hO⟩, rfl⟩
        have HO := Lib.hid hO
        clear hO
        by_cases hlt : k < f.slips.length
        · have hkI : (k : Int) < f.slips.length := by omega
          have hwk : IntKind.wrap .i64 ((k : Int) + 1) = (k : Int) + 1 := wrapI (by omega) (by omega)
          have HMk : Hid (IntsAt wr wr.heap.size mA f.slips.length (slipsF f)) := HO.out.cs.rows HMI.out
          have hsl : (slipsF f).length = f.slips.length := by simp [slipsF]
          have OF := Lib.hid (of_any k (slipsF f) mA f.slips.length wr HMk.out)
          rw [hsl] at OF
          clear hsl
          gi_wp2_with fail
          refine ⟨trivial, ?_⟩
          refine (callsIn_wide.2 OF.out).mono ?_
          rintro e W5 ⟨pM, pL, rfl, hOA, hb5⟩
          have HOA := Lib.hid hOA
          have HB5 := Lib.hid hb5
          clear hOA hb5 OF
          gi_wp2_with fail
          have hz5 := HB5.out.size
          have hzO := HO.out.cs.size
          have hbm4 : bm < W4.heap.size := by omega
          have hbm5 : bm < W5.heap.size := by omega
          have HDs : Hid (∀ D ∈ Ds, W4.heap.size ≤ D ∧ D < W5.heap.size ∧ W5.heap[D]? = some (.deferred (some []))) := fun D hD => by
            obtain ⟨d1, d2⟩ := HO.out.marks D hD
            have d3 := (Array.getElem?_eq_some_iff.1 d2).1
            exact ⟨d1, by omega, (HB5.out.block D d3).trans d2⟩
          have HI0 : Hid (LateI f p bm W5 [] W5) := by
            obtain ⟨μ, m1, m2⟩ := HO.out.crew
            exact ⟨⟨μ, m1.below HB5.out, m2⟩, (fun y hy => by simp at hy), CS.refl _, Spare.refl _ _ _⟩
          have HC5 : Hid (CS W4 W5) := HO.out.cs.trans (cs_of_below HB5.out)
          have HW5 : Hid (Below w.heap.size w W5) := by
            have s1 := HB4.size
            refine ⟨HC5.out.os.trans HB4.os, HC5.out.tape.trans HB4.tape, HC5.out.output.trans HB4.output, by omega, fun j hj => ?_⟩
            rw [HB5.out.block j (by omega), HO.out.spare.block j (by omega) (by omega)]
            exact HB4.block j hj
          have hsl : (slipsF f).length = f.slips.length := by simp [slipsF]
          have EW : ∀ X : World, CS W5 X → Spare W5.heap.size bm W5 X → Below w.heap.size w X := fun X h1 h2 => by
            have s1 := HW5.out.size
            have s2 := HB4.size
            exact ⟨h1.os.trans HW5.out.os, h1.tape.trans HW5.out.tape, h1.output.trans HW5.out.output, by have := h1.size; omega, fun j hj => (h2.block j (by omega) (by have := HB2.size; omega)).trans (HW5.out.block j hj)⟩
          have HEW := Lib.hid EW
          clear EW
          refine' range_outerM rfl (by omega) (gf := 106) (lb := #[.pointer (some ⟨pM, 0, none⟩), .pointer (some ⟨pL, 0, none⟩)]) rfl trivial (enters_of Tryd.func106 (by kernel_rfl) rfl)
            (of_seq k (by omega) (slipsF f) (by omega) mA f.slips.length pM pL W5 HOA.out _) (fun x A B hc hr => ⟨hc.rows hr.1, hr.2⟩) (Below.refl _ _) (fun _ => rfl)
            (LateI f p bm W5) (LateX f p (w.heap.size + 1 + 1) (w.heap.size + 1 + 1 + 1) w Ds) (own_lateI f p bm W5 hbm5) (fun c => own_lateX f p _ _ w Ds _ HW5.out.size (fun D hD => (HDs.out D hD).2.1) c) HI0.out ?_ ?assign ?body ?done ?stop
          case assign =>
            intro l x X K hK
            gi_wp2
            exact hK
          case body =>
            rintro l pre ⟨xA, xC, xl⟩ X hlB ⟨⟨μ1, h1, h2⟩, h3, h4, h5⟩ ⟨hx1, hx2, hx3⟩ hlen
            have hzX := h4.size
            have HCX : Hid (CS W4 X) := HC5.out.trans h4
            have HX3 := Lib.hid (HCX.out.box HX3.out)
            have HX7 := Lib.hid (HCX.out.box HX7.out)
            have hxs : ∀ s ∈ xl.map Int.toNat, s < f.slips.length := fun s hs => by
              obtain ⟨y, hy, rfl⟩ := List.mem_map.1 hs
              have := hx3 y hy
              simp only [slipsF, List.mem_map, List.mem_range] at this
              obtain ⟨j, hj, rfl⟩ := this
              simpa using hj
            have hxn : natsC (xl.map Int.toNat) = xl := by
              rw [natsC, List.map_map]
              conv => rhs; rw [← List.map_id xl]
              apply List.map_congr_left
              intro y hy
              have := hx3 y hy
              simp only [slipsF, List.mem_map, List.mem_range] at this
              obtain ⟨j, hj, rfl⟩ := this
              simp
            obtain ⟨sx, hsx⟩ : ∃ sx, sx = setF (xl.map Int.toNat) := ⟨_, rfl⟩
            have hsx5 : sx < 512 := by rw [hsx]; exact setF_lt _ (fun s hs => by have := hxs s hs; omega)
            have HXA := Lib.hid hx1
            have SET : Hid (∀ Y, CS X Y → Calls Tryd.prog 77 #[.slice xA xl.length xC] Y fun e w' => e = .returned (vi sx) ∧ Below Y.heap.size Y w') := fun Y hY => by
              have g1 : IntsAt Y Y.heap.size xA xC xl := hY.rows hx1
              have g2 : IntsAt Y Y.heap.size xA (xl.map Int.toNat).length (natsC (xl.map Int.toNat)) := by
                rw [hxn, List.length_map]
                exact g1.short
              have g3 := setOf_any xA xC (xl.map Int.toNat) (fun s hs => by have := hxs s hs; omega) Y g2
              rw [← hsx, List.length_map] at g3
              exact g3
            have hbits := less_fact (allF f) sx (allF_lt H9.out) hsx5
            obtain ⟨cb, hcb⟩ : ∃ cb, cb = canLess f p xl := ⟨_, rfl⟩
            have hcl : canF f p (lessF (allF f) sx) = cb := by rw [hcb, canLess, hsx]
            have CAN := Lib.hid (fun Y hY hM hI => can_any f HV.out oA qA f.slips.length qC bm p (lessF (allF f) sx) hp5.2 (less_lt (allF_lt H9.out) sx) Y μ1 hY hM hI)
            rw [hcl] at CAN
            obtain ⟨lx, hlx⟩ : ∃ lx, lx = lessF (allF f) sx := ⟨_, rfl⟩
            rw [← hlx] at CAN hbits
            obtain ⟨fa, hfa⟩ : ∃ fa, fa = allF f := ⟨_, rfl⟩
            rw [← hfa] at AL hbits
            have HCB := Lib.hid hcb
            have H1 := Lib.hid h1
            have H2 := Lib.hid h2
            have H3 := Lib.hid h3
            have H4 := Lib.hid h4
            have H5 := Lib.hid h5
            have HDX := Lib.hid (HD.out.cs HCX.out)
            clear hcb hcl hlx hsx hxs hxn h1 h2 h3 h4 h5 hx1 hx2 hx3 hfa
            gi_wp2_with fail
            refine' wp_region_box_round (fun w' => CS X w') (fun a b h h' => h.trans (cs_of_below h')) rfl ?hno [0, 1, 2, 3, 4, 5, 6, 7, 8] 1 55 (by kernel_rfl) (by kernel_rfl) rfl (by kernel_rfl) (by kernel_rfl) rfl (by kernel_rfl) ?hl5 (CS.refl _) ?hq5 ?hr5
            case hno => exact fun _ _ h => h
            case hl5 =>
              simp only [List.map_cons, List.map_nil, List.getD_cons_zero, List.getD_cons_succ]
              exact rfl
            case hq5 =>
              intro w0 K
              have Y := K.box HX7.out
              have f0 := Y.cell (j := 0) rfl
              have f1 := Y.cell (j := 1) rfl
              have f2 := Y.cell (j := 2) rfl
              have f3 := Y.cell (j := 3) rfl
              have f4 := Y.cell (j := 4) rfl
              have f5 := Y.cell (j := 5) rfl
              have f6 := Y.cell (j := 6) rfl
              have f7 := Y.cell (j := 7) rfl
              have f8 := Y.cell (j := 8) rfl
              have zf := Y.lt
              have n0 := (K.box HX3.out).cell (j := 0) rfl
              have zn := (K.box HX3.out).lt
              (repeat (go_big_quiet_step (first | (go_at_call 71; refine Calls.grow_of (AL.out _)) | (go_at_call 77; refine Calls.grow_of (SET.out _ (K.trans (cs_of_below (plus_below _ _))))))))
              exact wpQuiet_nil rfl
            case hr5 =>
              refine wpUp_one (i := 9) (by kernel_rfl) rfl rfl (fun wa a1 a2 Ka hKa => ?_)
              go_simp
              refine (CAN.out wa (HDX.out.cs a2) (H1.out.below a1) (H2.out.less hp5.2)).mono ?_
              rintro e X2 ⟨rfl, μ2, hP⟩
              refine hKa _ _ (a2.trans hP.cs) (wpUp_done (by kernel_rfl) (fun W8 g1 g2 => NoPanic.normal ?_))
              have hz1 := a1.size
              have hz2 := hP.cs.size
              have HC8 : Hid (CS X W8) := a2.trans (hP.cs.trans (cs_of_below g1))
              have HBL : Hid (∀ j, j < X.heap.size → j ≠ bm → W8.heap[j]? = X.heap[j]?) := fun j hj hne => by
                rw [g1.block j (by omega), hP.spare.block j (by omega) hne, a1.block j hj]
              have HK8 : Hid (KeepsFrom W5.heap.size X W8) := ⟨HC8.out.size, fun j o hj ho _ => (HBL.out j (Array.getElem?_eq_some_iff.1 ho).1 (by omega)).trans ho⟩
              have HS8 : Hid (Spare W5.heap.size bm W5 W8) := by
                have hc := HC8.out
                exact ⟨hc.os.trans H5.out.os, hc.tape.trans H5.out.tape, hc.output.trans H5.out.output, Nat.le_trans H5.out.size hc.size, fun j hj hne => (HBL.out j (by omega) hne).trans (H5.out.block j hj hne)⟩
              have HM8 : Hid (∃ μ, CrewMap W8 bm μ ∧ Inv f 5 μ) := ⟨μ2, hP.map.below g1, H2.out.widen hP.inv hP.grows hp5.2⟩
              clear hP g1 g2 a1 a2 hKa
              rcases cb with _ | _
              · gi_wp2_with fail
                refine ⟨HK8.out, HC8.out, HM8.out, fun y hy => ?_, H4.out.trans HC8.out, HS8.out⟩
                rcases List.mem_append.1 hy with hy | hy
                · exact H3.out y hy
                · rw [List.mem_singleton] at hy; subst hy; exact HCB.out.symm
              · have Y4 : Hid (CellsBox W8 (w.heap.size + 1 + 1) 22 [.slice none 0 0]) := (HCX.out.trans HC8.out).box HX4.out
                have Y5 : Hid (CellsBox W8 (w.heap.size + 1 + 1 + 1) 30 [vi 0]) := (HCX.out.trans HC8.out).box HX5.out
                have c4 := Y4.out.cell (j := 0) rfl
                have q4 := Y4.out.frozen 0
                have z4 := Y4.out.lt
                have c5 := Y5.out.cell (j := 0) rfl
                have q5 := Y5.out.frozen 0
                have z5 := Y5.out.lt
                have hxc : xl.length ≤ xC := HXA.out.lens.1
                have HXI : Hid (IntsAt W8 W8.heap.size xA xl.length xl) := (HC8.out.rows HXA.out).short
                have HBW : Hid (Below w.heap.size w W8) := HEW.out W8 (H4.out.trans HC8.out) HS8.out
                clear hxc
                have hxc0 : (0 : Int) ≤ xl.length := by omega
                have hxc1 : (xl.length : Int) ≤ xC := by have := HXA.out.lens.1; simp only at this; omega
                have hs2 := HB4.size
                gi_wp2_with fail
                have hs5 : w.heap.size + 1 + 1 + 1 < W4.heap.size := HX5.out.lt
                have hs6 := HC5.out.size
                have HBX1 := box_one (u := .slice xA xl.length xl.length) Y4.out
                have HBY1 := Y5.out.apart ⟨w.heap.size + 1 + 1, 0, none⟩ (.slice xA xl.length xl.length) (by simp)
                refine ⟨⟨by have := HC8.out.size; simp; omega, fun j o hj ho hc => ?_⟩, ⟨by have := HC8.out.size; simp; omega, fun j c t z hj ho => ?_⟩, rfl, pre, ⟨xA, xC, xl⟩, rfl, H3.out, HCB.out.symm, ?_, ?_, ?_, ?_, ?_⟩
                · rw [heap_setCell_other _ _ j _ (by simp only; omega), heap_setCell_other _ _ j _ (by simp only; omega)]
                  exact HK8.out.same j o hj ho hc
                · rw [heap_setCell_other _ _ j _ (by simp only; omega), heap_setCell_other _ _ j _ (by simp only; omega)]
                  exact HC8.out.boxes j c t z ho
                · exact ints_box (ints_box HXI.out Y4.out (.inl (fun n => by simp))) HBY1 (.inr rfl)
                · exact HBX1.apart ⟨w.heap.size + 1 + 1 + 1, 0, none⟩ (vi 0) (by simp)
                · exact box_one HBY1
                · exact (HBW.out.setCell (by simp only; omega) _).setCell (by simp only; omega) _
                · intro D hD
                  obtain ⟨d1, d2, d3⟩ := HDs.out D hD
                  rw [heap_setCell_other _ _ D _ (by simp only; omega), heap_setCell_other _ _ D _ (by simp only; omega), HS8.out.block D d2 (by omega)]
                  exact d3
          case done =>
            rintro D xs W9 hD hS ⟨hcrew, h3, h4, h5⟩ hDf
            have HL9 : Hid (LateO f p bm (k + 1) (D :: Ds) W4 W9) := by
              refine ⟨hcrew, fun j hj y hy => ?_, HC5.out.trans h4, ?_, List.nodup_cons.2 ⟨fun hm => by have := (HDs.out D hm).2.1; omega, HO.out.nodup⟩, fun D' hD' => ?_⟩
              · by_cases e : j = k
                · subst e
                  rw [← hS] at hy
                  obtain ⟨z, hz, rfl⟩ := List.mem_map.1 hy
                  exact h3 z hz
                · exact HO.out.none j (by omega) y hy
              · have hc := HC5.out.trans h4
                exact ⟨hc.os, hc.tape, hc.output, hc.size, fun j hj hne => by rw [h5.block j (by omega) hne, HB5.out.block j (by omega), HO.out.spare.block j hj hne]⟩
              · rcases List.mem_cons.1 hD' with rfl | hD'
                · exact ⟨by omega, hDf⟩
                · obtain ⟨d1, d2, d3⟩ := HDs.out D' hD'
                  exact ⟨d1, (h5.block D' d2 (by omega)).trans d3⟩
            clear hcrew h3 h4 h5 hDf hS
            gi_wp2_with fail
            refine ⟨⟨_, _, _, _, _, _, _, _, k + 1, D :: Ds, ⟨by omega, by go_num, HL9.out⟩, rfl⟩, ?_⟩
            simp [intOf]; omega
          case stop =>
            rintro D c pre X hD ⟨d, r, xs, x, hpre, hcho, hxs⟩ ⟨rfl, d', x', hpre', g1, g2, g3, g4, g5, g6, g7⟩ hDf
            have hdd : xs = d' ∧ x = x' := by
              have h1 := List.append_inj' (hpre.symm.trans hpre') rfl
              exact ⟨h1.1, by simpa using h1.2⟩
            obtain ⟨rfl, rfl⟩ := hdd
            have hlate : lateF f p = x.slips := late_some HO.out.none hlt hcho (fun z hz => by
              rw [← hxs] at hz
              obtain ⟨y, hy, rfl⟩ := List.mem_map.1 hz
              exact g1 y hy) g2
            have hns : (D :: Ds).Nodup := List.nodup_cons.2 ⟨fun hm => by have := (HDs.out D hm).2.1; omega, HO.out.nodup⟩
            have hsz := HW5.out.size
            have hnb : ∀ E ∈ D :: Ds, W4.heap.size ≤ E := fun E hE => by
              rcases List.mem_cons.1 hE with rfl | hE
              · have := HO.out.cs.size; have := HB5.out.size; omega
              · exact (HDs.out E hE).1
            have hmk : ∀ E ∈ D :: Ds, X.heap[E]? = some (.deferred (some [])) := fun E hE => by
              rcases List.mem_cons.1 hE with rfl | hE
              · exact hDf
              · exact g7 E hE
            have HSH : Hid (CS X (shut X (D :: Ds))) := cs_shut _ _ hns hmk
            have o4 := (HSH.out.box g4).cell (j := 0) rfl
            have o5 := (HSH.out.box g5).cell (j := 0) rfl
            have HBS : Hid (Below w.heap.size w (shut X (D :: Ds))) := below_shut _ _ g6 (fun E hE => by have := hnb E hE; have := HB4.size; omega)
            have HXI := Lib.hid (HSH.out.rows g3)
            have EV2 : Hid (RV = (x.slips, 0)) := by unfold Hid; rw [EV.out, Int.toNat_natCast, hlate]
            have HNS := Lib.hid hns
            have HMK := Lib.hid hmk
            have O4 := Lib.hid o4
            have O5 := Lib.hid o5
            clear hlate hns hmk g1 g2 g3 g4 g5 g6 g7 o4 o5 hDf hnb hpre hpre' hcho hxs
            gi_wp2
            refine leaves_marks (D :: Ds) X HNS.out HMK.out ?_
            have o4 := O4.out
            have o5 := O5.out
            refine ⟨.tuple #[.slice x.ad x.slips.length x.slips.length, vi 0], by simp [results, Tryd.results30, go_sem, o4, o5], x.ad, ?_, ?_, HBS.out⟩
            · rw [EV2.out]
            · rw [EV2.out]; exact HXI.out
        · have hke : k = f.slips.length := by omega
          subst hke
          have hlate := late_none HO.out.none
          have EV2 : Hid (RV = (slipsF f, 0)) := by unfold Hid; rw [EV.out, Int.toNat_natCast, hlate]
          have hsl : (slipsF f).length = f.slips.length := by simp [slipsF]
          have HMk : Hid (IntsAt wr wr.heap.size mA f.slips.length (slipsF f)) := HO.out.cs.rows HMI.out
          have Y4 : Hid (CellsBox wr (w.heap.size + 1 + 1) 22 [.slice none 0 0]) := HO.out.cs.box HX4.out
          have Y5 : Hid (CellsBox wr (w.heap.size + 1 + 1 + 1) 30 [vi 0]) := HO.out.cs.box HX5.out
          have c4 := Y4.out.cell (j := 0) rfl
          have q4 := Y4.out.frozen 0
          have z4 := Y4.out.lt
          have c5 := Y5.out.cell (j := 0) rfl
          have q5 := Y5.out.frozen 0
          have z5 := Y5.out.lt
          have HSL := Lib.hid hsl
          clear hsl hlate
          gi_wp2_with fail
          have HBX1 := box_one (u := .slice mA f.slips.length f.slips.length) Y4.out
          have HBY1 := Y5.out.apart ⟨w.heap.size + 1 + 1, 0, none⟩ (.slice mA f.slips.length f.slips.length) (by simp)
          have HBX2 := HBX1.apart ⟨w.heap.size + 1 + 1 + 1, 0, none⟩ (vi 0) (by simp)
          have HBY2 := box_one (u := vi 0) HBY1
          have HI2 := ints_box (ints_box HMk.out Y4.out (.inl (fun n => by simp))) HBY1 (.inr rfl)
          obtain ⟨Z, hZ⟩ : ∃ Z, Z = (wr.setCell ⟨w.heap.size + 1 + 1, 0, none⟩ (.slice mA f.slips.length f.slips.length)).setCell ⟨w.heap.size + 1 + 1 + 1, 0, none⟩ (vi 0) := ⟨_, rfl⟩
          rw [← hZ] at HBX2 HBY2 HI2
          have hoth : ∀ j, j ≠ w.heap.size + 1 + 1 → j ≠ w.heap.size + 1 + 1 + 1 → Z.heap[j]? = wr.heap[j]? := fun j h1 h2 => by
            rw [hZ, heap_setCell_other _ _ j _ (by simp only; omega), heap_setCell_other _ _ j _ (by simp only; omega)]
          have hBZ : Below w.heap.size w Z := by
            have hc := HO.out.cs
            have s2 := HB4.size
            have s3 := HB2.size
            have hW : Below w.heap.size w wr := ⟨hc.os.trans HB4.os, hc.tape.trans HB4.tape, hc.output.trans HB4.output, by have := hc.size; omega, fun j hj => (HO.out.spare.block j (by omega) (by have := HB1.size; omega)).trans (HB4.block j hj)⟩
            rw [hZ]
            exact (hW.setCell (by simp only; omega) _).setCell (by simp only; omega) _
          have hs4 : w.heap.size + 1 + 1 + 1 < W4.heap.size := HX5.out.lt
          have hmk : ∀ E ∈ Ds, Z.heap[E]? = some (.deferred (some [])) := fun E hE => by
            obtain ⟨d1, d2⟩ := HO.out.marks E hE
            rw [hoth E (by omega) (by omega)]
            exact d2
          have HSH := cs_shut _ _ HO.out.nodup hmk
          have o4 := (HSH.box HBX2).cell (j := 0) rfl
          have o5 := (HSH.box HBY2).cell (j := 0) rfl
          refine (?_ : ∀ Z' : World, Z = Z' → bodyPostM _ _ _ _ _ _ _ Z') _ hZ
          rintro _ rfl
          refine leaves_marks Ds Z HO.out.nodup hmk ?_
          refine ⟨.tuple #[.slice mA f.slips.length f.slips.length, vi 0], by simp [results, Tryd.results30, go_sem, o4, o5], mA, ?_, ?_, below_shut _ _ hBZ (fun E hE => by have := (HO.out.marks E hE).1; have := HB4.size; omega)⟩
          · rw [EV2.out, HSL.out]
          · rw [EV2.out]
            have := HSH.rows HI2
            rwa [HSL.out]
end Go.Proofs.YtomgnpfpaodpiaaDoor
/- Contracts of the law's of and floor: the chapter's floor. -/
namespace Go.Proofs.YtomgnpfpaodpiaaDoor
open Go Go.RowKit
set_option maxHeartbeats 4000000
theorem of_is (a b : Int) (w : World) :
    Calls Tryd.prog 51 #[vi a, vi b] w fun e w' => e = .returned (.agg #[vi a, vi b]) ∧ Below w.heap.size w w' := by
  go_enter Tryd.func51, Tryd.ntmps51
  go_wp2
  go_returns
  refine ⟨rfl, ?_⟩
  (repeat (first | exact Below.refl _ _ | refine Below.setCell ?_ (by first | omega | (simp; omega) | (simp; done)) _ | refine Below.alloc ?_ (by first | omega | (simp; omega) | (simp; done)) _ | refine Below.drew ?_ | refine below_drewN ?_ _ | refine Below.trans ?_ (Below.mono (by assumption) (by first | omega | (simp; omega) | (simp; done)))))
def chap (a0 a1 a2 a3 a4 a5 a6 : Option Addr) : Floor := ⟨a0, 3, [10, 25, 40], 1, 2, a1, 3, [(5, 8), (5, 10), (10, 12)], 4, a6, 4,
  [⟨a2, 2, [⟨0, 2⟩, ⟨2, 3⟩], 300⟩, ⟨a3, 1, [⟨1, 4⟩], 200⟩, ⟨a4, 1, [⟨0, 1⟩], 120⟩, ⟨a5, 2, [⟨1, 1⟩, ⟨2, 6⟩], 900⟩]⟩
theorem row_of_box {W : World} {B : Nat} {t : TypeId} {sz : Nat} {m : List (List Value)} (h : CellsBox W B t m.flatten) (hsz : ∀ r ∈ m, r.length = sz) : RowAt W W.heap.size sz (some ⟨B, 0, none⟩) m := fun _ =>
  ⟨B, 0, rfl, h.lt, fun i r hr j u hj hu => by have := h.cell (flat_at m hsz i r hr j u hj hu); simpa using this⟩
theorem CellsBox.aside {B : Nat} : ∀ (vs : List Value) (o : Nat) {W : World} {b : Nat} {t : TypeId} {cs : List Value}, CellsBox W b t cs → b ≠ B → CellsBox (W.setCells B o vs) b t cs
  | [], _, _, _, _, _, h, _ => h
  | v :: vs, o, _, _, _, _, h, hne => CellsBox.aside vs (o + 1) (h.apart ⟨B, o, none⟩ v hne) hne
theorem below_setCells {B C : Nat} {w0 : World} : ∀ (vs : List Value) (o : Nat) {W : World}, Below C w0 W → C ≤ B → Below C w0 (W.setCells B o vs)
  | [], _, _, h, _ => h
  | v :: vs, o, _, h, hle => below_setCells vs (o + 1) (h.setCell hle v) hle
set_option maxRecDepth 100000 in
theorem floor_any (w : World) :
    Calls Tryd.prog 50 #[] w fun e w' => ∃ a0 a1 a2 a3 a4 a5 a6, e = .returned (chap a0 a1 a2 a3 a4 a5 a6).val ∧ FloorAt w' w'.heap.size (chap a0 a1 a2 a3 a4 a5 a6) ∧ Below w.heap.size w w' := by
  go_enter Tryd.func50, Tryd.ntmps50
  go_wp2_with fail
  refine (to_any _ _ _).mono ?_
  rintro e wa ⟨rfl, hba⟩
  have HB : Below w.heap.size w wa := by (repeat (first | exact Below.refl _ _ | refine Below.setCell ?_ (by first | omega | (simp; omega) | (simp; done)) _ | refine Below.alloc ?_ (by first | omega | (simp; omega) | (simp; done)) _ | refine Below.drew ?_ | refine below_drewN ?_ _ | refine Below.trans ?_ (Below.mono (by assumption) (by first | omega | (simp; omega) | (simp; done)))))
  have HR : CellsBox wa w.heap.size 28 [.slice none 0 0, vi 0, vi 0, .slice none 0 0, vi 0, .slice none 0 0] := ((CellsBox.new w 28 [.slice none 0 0, vi 0, vi 0, .slice none 0 0, vi 0, .slice none 0 0]).alloc _).keep hba
  have HI : CellsBox wa (w.heap.size + 1) 3 [vi 10, vi 25, vi 40] := by
    refine CellsBox.keep (b := w.heap.size + 1) (t := 3) (cs := [vi 10, vi 25, vi 40]) ?_ hba
    have := CellsBox.new (w.alloc (.cells #[.slice none 0 0, vi 0, vi 0, .slice none 0 0, vi 0, .slice none 0 0] 28)) 3 [vi 10, vi 25, vi 40]
    simpa using this
  have HZ0 : Hid (w.heap.size < wa.heap.size) := HR.lt
  clear hba
  go_wp2_with fail
  refine (to_any _ _ _).mono ?_
  rintro e wb ⟨rfl, hb⟩
  replace HB : Below w.heap.size w wb := HB.trans (hb.mono HB.size)
  replace HR : CellsBox wb w.heap.size 28 [.slice none 0 0, vi 0, vi 0, .slice none 0 0, vi 0, .slice none 0 0] := HR.keep hb
  replace HI : CellsBox wb (w.heap.size + 1) 3 [vi 10, vi 25, vi 40] := HI.keep hb
  clear hb
  go_wp2_with fail
  refine (to_any _ _ _).mono ?_
  rintro e wc ⟨rfl, hb⟩
  replace HB : Below w.heap.size w wc := HB.trans (hb.mono HB.size)
  replace HR : CellsBox wc w.heap.size 28 [.slice none 0 0, vi 0, vi 0, .slice none 0 0, vi 0, .slice none 0 0] := HR.keep hb
  replace HI : CellsBox wc (w.heap.size + 1) 3 [vi 10, vi 25, vi 40] := HI.keep hb
  clear hb
  go_wp2_with fail
  refine (to_any _ _ _).mono ?_
  rintro e wd ⟨rfl, hb⟩
  replace HB : Below w.heap.size w wd := HB.trans (hb.mono HB.size)
  replace HR : CellsBox wd w.heap.size 28 [.slice none 0 0, vi 0, vi 0, .slice none 0 0, vi 0, .slice none 0 0] := HR.keep hb
  replace HI : CellsBox wd (w.heap.size + 1) 3 [vi 10, vi 25, vi 40] := HI.keep hb
  have Hzd : w.heap.size < wd.heap.size := HR.lt
  clear hb
  go_wp2_with fail
  refine (of_is _ _ _).mono ?_
  rintro e we ⟨rfl, hb⟩
  have HS : CellsBox we wd.heap.size 24 [vi 5, vi 8, vi 5, vi 10, vi 10, vi 12] := (CellsBox.new wd 24 [vi 5, vi 8, vi 5, vi 10, vi 10, vi 12]).keep hb
  replace HB : Below w.heap.size w we := (HB.alloc HB.size _).trans (hb.mono (by have := HB.size; rw [World.size_alloc]; omega)); simp
  replace HR : CellsBox we w.heap.size 28 [.slice none 0 0, vi 0, vi 0, .slice none 0 0, vi 0, .slice none 0 0] := (HR.alloc _).keep hb
  replace HI : CellsBox we (w.heap.size + 1) 3 [vi 10, vi 25, vi 40] := (HI.alloc _).keep hb
  clear hb
  go_wp2_with fail
  refine (of_is _ _ _).mono ?_
  rintro e wf ⟨rfl, hb⟩
  replace HB : Below w.heap.size w wf := HB.trans (hb.mono HB.size)
  replace HR : CellsBox wf w.heap.size 28 [.slice none 0 0, vi 0, vi 0, .slice none 0 0, vi 0, .slice none 0 0] := HR.keep hb
  replace HI : CellsBox wf (w.heap.size + 1) 3 [vi 10, vi 25, vi 40] := HI.keep hb
  replace HS : CellsBox wf wd.heap.size 24 [vi 5, vi 8, vi 5, vi 10, vi 10, vi 12] := HS.keep hb
  have Hzf : w.heap.size < wf.heap.size := HR.lt
  clear hb
  go_wp2_with fail
  refine (of_is _ _ _).mono ?_
  rintro e wg ⟨rfl, hb⟩
  have H2 : CellsBox wg wf.heap.size 64 [vi 0, vi 2, vi 2, vi 3] := (CellsBox.new wf 64 [vi 0, vi 2, vi 2, vi 3]).keep hb
  replace HB : Below w.heap.size w wg := (HB.alloc HB.size _).trans (hb.mono (by have := HB.size; rw [World.size_alloc]; omega)); simp
  replace HR : CellsBox wg w.heap.size 28 [.slice none 0 0, vi 0, vi 0, .slice none 0 0, vi 0, .slice none 0 0] := (HR.alloc _).keep hb
  replace HI : CellsBox wg (w.heap.size + 1) 3 [vi 10, vi 25, vi 40] := (HI.alloc _).keep hb
  replace HS : CellsBox wg wd.heap.size 24 [vi 5, vi 8, vi 5, vi 10, vi 10, vi 12] := (HS.alloc _).keep hb
  have Hzg : w.heap.size < wg.heap.size := HR.lt
  clear hb
  go_wp2_with fail
  refine (of_is _ _ _).mono ?_
  rintro e wh ⟨rfl, hb⟩
  have H3 : CellsBox wh wg.heap.size 64 [vi 1, vi 4] := (CellsBox.new wg 64 [vi 1, vi 4]).keep hb
  replace HB : Below w.heap.size w wh := (HB.alloc HB.size _).trans (hb.mono (by have := HB.size; rw [World.size_alloc]; omega)); simp
  replace HR : CellsBox wh w.heap.size 28 [.slice none 0 0, vi 0, vi 0, .slice none 0 0, vi 0, .slice none 0 0] := (HR.alloc _).keep hb
  replace HI : CellsBox wh (w.heap.size + 1) 3 [vi 10, vi 25, vi 40] := (HI.alloc _).keep hb
  replace HS : CellsBox wh wd.heap.size 24 [vi 5, vi 8, vi 5, vi 10, vi 10, vi 12] := (HS.alloc _).keep hb
  replace H2 : CellsBox wh wf.heap.size 64 [vi 0, vi 2, vi 2, vi 3] := (H2.alloc _).keep hb
  have Hzh : w.heap.size < wh.heap.size := HR.lt
  clear hb
  go_wp2_with fail
  refine (of_is _ _ _).mono ?_
  rintro e wi ⟨rfl, hb⟩
  have H4 : CellsBox wi wh.heap.size 64 [vi 0, vi 1] := (CellsBox.new wh 64 [vi 0, vi 1]).keep hb
  replace HB : Below w.heap.size w wi := (HB.alloc HB.size _).trans (hb.mono (by have := HB.size; rw [World.size_alloc]; omega)); simp
  replace HR : CellsBox wi w.heap.size 28 [.slice none 0 0, vi 0, vi 0, .slice none 0 0, vi 0, .slice none 0 0] := (HR.alloc _).keep hb
  replace HI : CellsBox wi (w.heap.size + 1) 3 [vi 10, vi 25, vi 40] := (HI.alloc _).keep hb
  replace HS : CellsBox wi wd.heap.size 24 [vi 5, vi 8, vi 5, vi 10, vi 10, vi 12] := (HS.alloc _).keep hb
  replace H2 : CellsBox wi wf.heap.size 64 [vi 0, vi 2, vi 2, vi 3] := (H2.alloc _).keep hb
  replace H3 : CellsBox wi wg.heap.size 64 [vi 1, vi 4] := (H3.alloc _).keep hb
  clear hb
  go_wp2_with fail
  refine (of_is _ _ _).mono ?_
  rintro e wj ⟨rfl, hb⟩
  replace HB : Below w.heap.size w wj := HB.trans (hb.mono HB.size)
  replace HR : CellsBox wj w.heap.size 28 [.slice none 0 0, vi 0, vi 0, .slice none 0 0, vi 0, .slice none 0 0] := HR.keep hb
  replace HI : CellsBox wj (w.heap.size + 1) 3 [vi 10, vi 25, vi 40] := HI.keep hb
  replace HS : CellsBox wj wd.heap.size 24 [vi 5, vi 8, vi 5, vi 10, vi 10, vi 12] := HS.keep hb
  replace H2 : CellsBox wj wf.heap.size 64 [vi 0, vi 2, vi 2, vi 3] := H2.keep hb
  replace H3 : CellsBox wj wg.heap.size 64 [vi 1, vi 4] := H3.keep hb
  replace H4 : CellsBox wj wh.heap.size 64 [vi 0, vi 1] := H4.keep hb
  clear hb
  obtain ⟨cs, hcs⟩ : ∃ cs : List Value, cs = [.slice (some ⟨w.heap.size + 1, 0, none⟩) 3 3, vi 1, vi 2, .slice (some ⟨wd.heap.size, 0, none⟩) 3 3, vi 4, .slice (some ⟨wj.heap.size + 1, 0, none⟩) 4 4] := ⟨_, rfl⟩
  obtain ⟨V, hV⟩ : ∃ V, V = (wj.alloc (.cells #[vi 1, vi 1, vi 2, vi 6] 64)).alloc (.cells #[.slice (some ⟨wf.heap.size, 0, none⟩) 2 2, vi 300, .slice (some ⟨wg.heap.size, 0, none⟩) 1 1, vi 200, .slice (some ⟨wh.heap.size, 0, none⟩) 1 1, vi 120, .slice (some ⟨wj.heap.size, 0, none⟩) 2 2, vi 900] 52) := ⟨_, rfl⟩
  have VR : CellsBox V w.heap.size 28 [.slice none 0 0, vi 0, vi 0, .slice none 0 0, vi 0, .slice none 0 0] := by rw [hV]; exact (HR.alloc _).alloc _
  have VI : CellsBox V (w.heap.size + 1) 3 [vi 10, vi 25, vi 40] := by rw [hV]; exact (HI.alloc _).alloc _
  have VS : CellsBox V wd.heap.size 24 [vi 5, vi 8, vi 5, vi 10, vi 10, vi 12] := by rw [hV]; exact (HS.alloc _).alloc _
  have V2 : CellsBox V wf.heap.size 64 [vi 0, vi 2, vi 2, vi 3] := by rw [hV]; exact (H2.alloc _).alloc _
  have V3 : CellsBox V wg.heap.size 64 [vi 1, vi 4] := by rw [hV]; exact (H3.alloc _).alloc _
  have V4 : CellsBox V wh.heap.size 64 [vi 0, vi 1] := by rw [hV]; exact (H4.alloc _).alloc _
  have V5 : CellsBox V wj.heap.size 64 [vi 1, vi 1, vi 2, vi 6] := by rw [hV]; exact (CellsBox.new wj _ _).alloc _
  have V6 : CellsBox V (wj.heap.size + 1) 52 [.slice (some ⟨wf.heap.size, 0, none⟩) 2 2, vi 300, .slice (some ⟨wg.heap.size, 0, none⟩) 1 1, vi 200, .slice (some ⟨wh.heap.size, 0, none⟩) 1 1, vi 120, .slice (some ⟨wj.heap.size, 0, none⟩) 2 2, vi 900] := by
    rw [hV]
    have := CellsBox.new (wj.alloc (.cells #[vi 1, vi 1, vi 2, vi 6] 64)) 52 [.slice (some ⟨wf.heap.size, 0, none⟩) 2 2, vi 300, .slice (some ⟨wg.heap.size, 0, none⟩) 1 1, vi 200, .slice (some ⟨wh.heap.size, 0, none⟩) 1 1, vi 120, .slice (some ⟨wj.heap.size, 0, none⟩) 2 2, vi 900]
    rwa [World.size_alloc] at this
  have VB : Below w.heap.size w V := by rw [hV]; exact (HB.alloc HB.size _).alloc (by have := HB.size; rw [World.size_alloc]; omega) _
  have hth : V.there w.heap.size 0 cs.toArray.size := by
    intro j hj
    rw [hcs] at hj
    have hj6 : j < 6 := by simpa using hj
    rw [Nat.zero_add]
    refine ⟨?_, VR.frozen j⟩
    obtain rfl | rfl | rfl | rfl | rfl | rfl : j = 0 ∨ j = 1 ∨ j = 2 ∨ j = 3 ∨ j = 4 ∨ j = 5 := by omega
    all_goals (rw [VR.cell rfl]; rfl)
  have HTH := Lib.hid hth
  have HZ : Hid (w.heap.size < wd.heap.size ∧ w.heap.size < wf.heap.size ∧ w.heap.size < wg.heap.size ∧ w.heap.size < wh.heap.size ∧ w.heap.size < wj.heap.size) := ⟨Hzd, Hzf, Hzg, Hzh, HR.lt⟩
  have HCS := Lib.hid hcs
  have HVV := Lib.hid hV
  have hlen : cs.toArray.size = 6 := by rw [hcs]; rfl
  have h1c : cs.toArray.all (·.oneCell') = true := by rw [hcs]; simp [Value.oneCell']
  clear HR HI HS H2 H3 H4 hth hV hcs
  go_wp2_with (with_reducible refine wpList_store_mid rfl 28 _ _ rfl w.heap.size 0 cs.toArray ?hx ?hy ?ht ?hi ?h1 ?_)
  case hx => rfl
  case hy => rw [HCS.out]; rfl
  case ht => rw [← HVV.out]; exact HTH.out
  case hi => rw [hlen]; kernel_rfl
  case h1 => exact h1c
  have HZR : CellsBox (V.setCells w.heap.size 0 cs) w.heap.size 28 [.slice (some ⟨w.heap.size + 1, 0, none⟩) 3 3, vi 1, vi 2, .slice (some ⟨wd.heap.size, 0, none⟩) 3 3, vi 4, .slice (some ⟨wj.heap.size + 1, 0, none⟩) 4 4] := by
    rw [HCS.out]
    exact (((((VR.store 0 (.slice (some ⟨w.heap.size + 1, 0, none⟩) 3 3)).store 1 (vi 1)).store 2 (vi 2)).store 3 (.slice (some ⟨wd.heap.size, 0, none⟩) 3 3)).store 4 (vi 4)).store 5 (.slice (some ⟨wj.heap.size + 1, 0, none⟩) 4 4)
  have zj := HB.size
  have zI := VI.lt
  have ZI := CellsBox.aside (B := w.heap.size) cs 0 VI (by omega)
  have ZS := CellsBox.aside (B := w.heap.size) cs 0 VS (by have := VR.lt; have := HZ.out; omega)
  have Z2 := CellsBox.aside (B := w.heap.size) cs 0 V2 (by have := HZ.out; omega)
  have Z3 := CellsBox.aside (B := w.heap.size) cs 0 V3 (by have := HZ.out; omega)
  have Z4 := CellsBox.aside (B := w.heap.size) cs 0 V4 (by have := HZ.out; omega)
  have Z5 := CellsBox.aside (B := w.heap.size) cs 0 V5 (by have := HZ.out; omega)
  have Z6 := CellsBox.aside (B := w.heap.size) cs 0 V6 (by omega)
  have ZB := below_setCells (B := w.heap.size) cs 0 VB (Nat.le_refl _)
  rw [← HVV.out]
  clear HVV HTH HCS h1c hlen VR VI VS V2 V3 V4 V5 V6 VB
  obtain ⟨F, hF⟩ : ∃ F, F = V.setCells w.heap.size 0 cs := ⟨_, rfl⟩
  rw [← hF] at HZR ZI ZS Z2 Z3 Z4 Z5 Z6 ZB
  rw [show V.setCells w.heap.size 0 cs.toArray.toList = F from by rw [hF]]
  clear hF
  have q0 := HZR.cell (j := 0) rfl
  have q1 := HZR.cell (j := 1) rfl
  have q2 := HZR.cell (j := 2) rfl
  have q3 := HZR.cell (j := 3) rfl
  have q4 := HZR.cell (j := 4) rfl
  have q5 := HZR.cell (j := 5) rfl
  go_wp2_with fail
  refine bodyPost_ret (v := .agg #[.slice (some ⟨w.heap.size + 1, 0, none⟩) 3 3, vi 1, vi 2, .slice (some ⟨wd.heap.size, 0, none⟩) 3 3, vi 4, .slice (some ⟨wj.heap.size + 1, 0, none⟩) 4 4]) (by simp [results, Tryd.results50, go_sem, q0, q1, q2, q3, q4, q5]) rfl ?_
  refine ⟨some ⟨w.heap.size + 1, 0, none⟩, some ⟨wd.heap.size, 0, none⟩, some ⟨wf.heap.size, 0, none⟩, some ⟨wg.heap.size, 0, none⟩, some ⟨wh.heap.size, 0, none⟩, some ⟨wj.heap.size, 0, none⟩, some ⟨wj.heap.size + 1, 0, none⟩, rfl, ?_, ZB⟩
  refine ⟨⟨Nat.le_refl _, by first | (simp [chap]; done) | (simp; done), by first | (simp [chap]; done) | (simp; done), row_of_box (t := 3) ZI (by intro r hr; obtain ⟨p, _, rfl⟩ := List.mem_map.1 hr; rfl)⟩, ⟨Nat.le_refl _, by first | (simp [chap]; done) | (simp; done), by first | (simp [chap]; done) | (simp; done), row_of_box (t := 24) ZS (by intro r hr; obtain ⟨p, _, rfl⟩ := List.mem_map.1 hr; rfl)⟩,
    ⟨Nat.le_refl _, by first | (simp [chap]; done) | (simp; done), by first | (simp [chap]; done) | (simp; done), row_of_box (t := 52) Z6 (by intro r hr; obtain ⟨p, _, rfl⟩ := List.mem_map.1 hr; rfl)⟩, fun s hs => ?_⟩
  simp only [chap, List.mem_cons, List.not_mem_nil, or_false] at hs
  rcases hs with rfl | rfl | rfl | rfl
  · exact ⟨Nat.le_refl _, by first | (simp [chap]; done) | (simp; done), by first | (simp [chap]; done) | (simp; done), row_of_box (t := 64) Z2 (by intro r hr; obtain ⟨p, _, rfl⟩ := List.mem_map.1 hr; rfl)⟩
  · exact ⟨Nat.le_refl _, by first | (simp [chap]; done) | (simp; done), by first | (simp [chap]; done) | (simp; done), row_of_box (t := 64) Z3 (by intro r hr; obtain ⟨p, _, rfl⟩ := List.mem_map.1 hr; rfl)⟩
  · exact ⟨Nat.le_refl _, by first | (simp [chap]; done) | (simp; done), by first | (simp [chap]; done) | (simp; done), row_of_box (t := 64) Z4 (by intro r hr; obtain ⟨p, _, rfl⟩ := List.mem_map.1 hr; rfl)⟩
  · exact ⟨Nat.le_refl _, by first | (simp [chap]; done) | (simp; done), by first | (simp [chap]; done) | (simp; done), row_of_box (t := 64) Z5 (by intro r hr; obtain ⟨p, _, rfl⟩ := List.mem_map.1 hr; rfl)⟩
end Go.Proofs.YtomgnpfpaodpiaaDoor
/- Slips done one behind the other: plain mathematics. -/
namespace Go.Proofs.YtomgnpfpaodpiaaDoor.PM
/-- are slips, one behind the other from a second on, done in time -/
def inT (sec till : Nat → Int) : Int → List Nat → Prop
  | _, [] => True
  | t, s :: l => t + sec s ≤ till s ∧ inT sec till (t + sec s) l
variable {sec till : Nat → Int}
theorem inT_early (hs : ∀ s, 0 ≤ sec s) : ∀ (l : List Nat) (t t' : Int), t' ≤ t → inT sec till t l → inT sec till t' l
  | [], _, _, _, _ => trivial
  | s :: l, t, t', h, k => ⟨by have := k.1; omega, inT_early hs l _ _ (by omega) k.2⟩
/-- a slip may be left out -/
theorem inT_sub (hs : ∀ s, 0 ≤ sec s) : ∀ {a b : List Nat}, a.Sublist b → ∀ t, inT sec till t b → inT sec till t a
  | _, _, .slnil, _, _ => trivial
  | _, _, .cons (l₂ := b) s h, t, k => inT_early hs _ _ _ (by have := hs s; omega) (inT_sub hs h _ k.2)
  | _, _, .cons_cons s h, t, k => ⟨k.1, inT_sub hs h _ k.2⟩
/-- a slip that must be done no sooner may go behind others -/
theorem inT_later (hs : ∀ s, 0 ≤ sec s) (s : Nat) : ∀ (a b : List Nat) (t : Int), (∀ x ∈ a, till x ≤ till s) → inT sec till t (s :: (a ++ b)) → inT sec till t (a ++ s :: b)
  | [], b, t, _, h => h
  | x :: a, b, t, hx, h => by
    obtain ⟨h1, h2, h3⟩ := h
    have hx1 := hx x (by simp)
    have h0 := hs s
    refine ⟨by omega, inT_later hs s a b (t + sec x) (fun y hy => hx y (by simp [hy])) ⟨by omega, ?_⟩⟩
    rwa [show t + sec x + sec s = t + sec s + sec x by omega]
/-- in its place among slips that are in their order -/
def put (key : Nat → Nat → Bool) (s : Nat) : List Nat → List Nat
  | [] => [s]
  | x :: l => if key x s then x :: put key s l else s :: x :: l
theorem put_split (key : Nat → Nat → Bool) (s : Nat) : ∀ l : List Nat, ∃ a b, l = a ++ b ∧ put key s l = a ++ s :: b ∧ ∀ x ∈ a, key x s = true
  | [] => ⟨[], [], rfl, rfl, by simp⟩
  | x :: l => by
    rw [put]
    split
    · rename_i h
      obtain ⟨a, b, e, p, k⟩ := put_split key s l
      refine ⟨x :: a, b, by rw [e]; rfl, by rw [p]; rfl, fun y hy => ?_⟩
      rcases List.mem_cons.1 hy with rfl | hy
      · exact h
      · exact k y hy
    · exact ⟨[], x :: l, rfl, rfl, by simp⟩
def sortP (key : Nat → Nat → Bool) : List Nat → List Nat
  | [] => []
  | s :: l => put key s (sortP key l)
theorem inT_sort (hs : ∀ s, 0 ≤ sec s) (key : Nat → Nat → Bool) (hk : ∀ x s, key x s = true → till x ≤ till s) : ∀ (l : List Nat) (t : Int), inT sec till t l → inT sec till t (sortP key l)
  | [], _, _ => trivial
  | s :: l, t, h => by
    rw [sortP]
    obtain ⟨a, b, e, p, k⟩ := put_split key s (sortP key l)
    rw [p]
    refine inT_later hs s a b t (fun x hx => hk x s (k x hx)) ?_
    rw [← e]
    exact ⟨h.1, inT_sort hs key hk l _ h.2⟩
theorem put_perm (key : Nat → Nat → Bool) (s : Nat) (l : List Nat) : (put key s l).Perm (s :: l) := by
  obtain ⟨a, b, e, p, _⟩ := put_split key s l
  rw [p, e]
  exact List.perm_middle
theorem sortP_perm (key : Nat → Nat → Bool) : ∀ l : List Nat, (sortP key l).Perm l
  | [] => List.Perm.refl _
  | s :: l => (put_perm key s _).trans ((sortP_perm key l).cons s)
theorem put_sorted (key : Nat → Nat → Bool) (tot : ∀ x y, key x y = false → key y x = true) (tr : ∀ x y z, key x y = true → key y z = true → key x z = true) (s : Nat) : ∀ l : List Nat, l.Pairwise (fun x y => key x y = true) → (put key s l).Pairwise (fun x y => key x y = true)
  | [], _ => by simp [put]
  | x :: l, h => by
    obtain ⟨h1, h2⟩ := List.pairwise_cons.1 h
    rw [put]
    split
    · rename_i hx
      refine List.pairwise_cons.2 ⟨fun y hy => ?_, put_sorted key tot tr s l h2⟩
      rcases List.mem_cons.1 ((put_perm key s l).mem_iff.1 hy) with rfl | hy
      · exact hx
      · exact h1 y hy
    · rename_i hx
      have hx := tot x s (by simpa using hx)
      refine List.pairwise_cons.2 ⟨fun y hy => ?_, h⟩
      rcases List.mem_cons.1 hy with rfl | hy
      · exact hx
      · exact tr _ _ _ hx (h1 y hy)
theorem sortP_sorted (key : Nat → Nat → Bool) (tot : ∀ x y, key x y = false → key y x = true) (tr : ∀ x y z, key x y = true → key y z = true → key x z = true) : ∀ l : List Nat, (sortP key l).Pairwise (fun x y => key x y = true)
  | [] => by simp [sortP]
  | s :: l => put_sorted key tot tr s _ (sortP_sorted key tot tr l)
/-- lists in their order with the same slips are the same -/
theorem sorted_unique (key : Nat → Nat → Bool) (anti : ∀ x y, key x y = true → key y x = true → x = y) : ∀ {a b : List Nat}, a.Perm b → a.Pairwise (fun x y => key x y = true) → b.Pairwise (fun x y => key x y = true) → a = b := by
  intro a
  induction a with
  | nil => intro b h _ _; exact (List.nil_perm.1 h).symm
  | cons x a ih =>
    intro b h ha hb
    cases b with
    | nil => exact absurd h (by intro h; have := h.length_eq; simp at this)
    | cons y b =>
      obtain ⟨a1, a2⟩ := List.pairwise_cons.1 ha
      obtain ⟨b1, b2⟩ := List.pairwise_cons.1 hb
      have hxy : x = y := by
        have hx : x ∈ y :: b := h.mem_iff.1 (by simp)
        have hy : y ∈ x :: a := h.mem_iff.2 (by simp)
        rcases List.mem_cons.1 hx with e | hx
        · exact e
        rcases List.mem_cons.1 hy with e | hy
        · exact e.symm
        exact anti _ _ (a1 y hy) (b1 x hx)
      subst hxy
      rw [ih ((List.perm_cons x).1 h) a2 b2]
end Go.Proofs.YtomgnpfpaodpiaaDoor.PM
/- Sets of slips as numbers: plain mathematics. -/
namespace Go.Proofs.YtomgnpfpaodpiaaDoor.PM
theorem setF_fold : ∀ (l : List Nat) (m i : Nat), (l.foldl (fun m s => m ||| 2 ^ s) m).testBit i = (m.testBit i || decide (i ∈ l))
  | [], m, i => by simp
  | s :: l, m, i => by
    rw [List.foldl_cons, setF_fold l, Nat.testBit_or, Nat.testBit_two_pow]
    by_cases h : i = s
    · subst h; simp
    · have h2 : s ≠ i := fun e => h e.symm
      simp [h, h2]
theorem setF_bit (l : List Nat) (i : Nat) : (setF l).testBit i = decide (i ∈ l) := by rw [setF, setF_fold]; simp
theorem or_setF (to : Nat) (l : List Nat) : l.foldl (fun m s => m ||| 2 ^ s) to = to ||| setF l := by
  apply Nat.eq_of_testBit_eq
  intro i
  rw [setF_fold, Nat.testBit_or, setF_bit]
theorem setF_cons (s : Nat) (l : List Nat) : setF (s :: l) = 2 ^ s ||| setF l := by
  rw [setF, List.foldl_cons, or_setF, Nat.zero_or]
theorem less_bit (m x i : Nat) : (lessF m x).testBit i = (m.testBit i && !(x.testBit i)) := by
  rw [lessF, Nat.testBit_xor, Nat.testBit_and]
  cases m.testBit i <;> simp
theorem setF_zero {l : List Nat} : setF l = 0 ↔ l = [] := by
  constructor
  · intro h
    cases l with
    | nil => rfl
    | cons s l =>
      have := setF_bit (s :: l) s
      rw [h] at this
      simp at this
  · rintro rfl; rfl
theorem setF_perm {a b : List Nat} (h : ∀ i, i ∈ a ↔ i ∈ b) : setF a = setF b := by
  apply Nat.eq_of_testBit_eq
  intro i
  rw [setF_bit, setF_bit]
  simp [h i]
theorem less_self (m : Nat) : lessF m m = 0 := by rw [lessF, Nat.and_self, Nat.xor_self]
theorem less_zero (m : Nat) : lessF m 0 = m := by rw [lessF, Nat.and_zero, Nat.xor_zero]
/-- a set has only slips of another one -/
def Part (x m : Nat) : Prop := ∀ i, x.testBit i = true → m.testBit i = true
theorem Part.less (m x : Nat) : Part (lessF m x) m := fun i h => by rw [less_bit, Bool.and_eq_true] at h; exact h.1
theorem Part.trans {a b c : Nat} (h : Part a b) (k : Part b c) : Part a c := fun i hi => k i (h i hi)
theorem part_le {x m : Nat} (h : Part x m) : x ≤ m := by
  have : x &&& m = x := by
    apply Nat.eq_of_testBit_eq
    intro i
    rw [Nat.testBit_and]
    cases hx : x.testBit i with
    | false => simp
    | true => simp [h i hx]
  rw [← this]
  exact Nat.and_le_right
theorem add_or : ∀ a b : Nat, a &&& b = 0 → a + b = a ||| b := by
  intro a
  induction a using Nat.strongRecOn with
  | _ a ih =>
    intro b h
    by_cases h0 : a = 0
    · subst h0; simp
    have h1 : a / 2 &&& b / 2 = 0 := by rw [← Nat.and_div_two, h]
    have h2 := ih (a / 2) (by omega) (b / 2) h1
    have h3 : (a ||| b) / 2 = a / 2 ||| b / 2 := Nat.or_div_two
    have h4 : ¬ (a % 2 = 1 ∧ b % 2 = 1) := by
      rw [← Nat.and_mod_two_eq_one, h]; simp
    have h5 : (a ||| b) % 2 = 1 ↔ a % 2 = 1 ∨ b % 2 = 1 := Nat.or_mod_two_eq_one
    omega
theorem less_sub {x m : Nat} (h : Part x m) : lessF m x = m - x := by
  have hd : lessF m x &&& x = 0 := by
    apply Nat.eq_of_testBit_eq
    intro i
    rw [Nat.testBit_and, less_bit]
    cases m.testBit i <;> cases x.testBit i <;> simp
  have ho : lessF m x ||| x = m := by
    apply Nat.eq_of_testBit_eq
    intro i
    rw [Nat.testBit_or, less_bit]
    cases hx : x.testBit i with
    | false => simp
    | true => simp [h i hx]
  have : lessF m x + x = m := by
    rw [add_or _ _ hd, ho]
  omega
theorem less_lt {m x : Nat} (h : Part x m) (hx : x ≠ 0) : lessF m x < m := by
  have := part_le h
  rw [less_sub h]
  omega
end Go.Proofs.YtomgnpfpaodpiaaDoor.PM
/- So many lists of slips, each in time: plain mathematics. -/
namespace Go.Proofs.YtomgnpfpaodpiaaDoor.PM
def okG (sec till : Nat → Int) (m : Nat) (t : Int) (s : Nat) : Bool := m.testBit s && decide (t + sec s ≤ till s)
def loopG (sec till : Nat → Int) (m : Nat) : Nat → Int → List Nat → List Nat
  | to, _, [] => if to = 0 then [] else [to]
  | to, t, s :: rest => (if okG sec till m t s then loopG sec till m (to ||| 2 ^ s) (t + sec s) rest else []) ++ loopG sec till m to t rest
variable {sec till : Nat → Int}
theorem loop_mem (m : Nat) : ∀ (rest : List Nat) (to : Nat) (t : Int) (x : Nat), x ∈ loopG sec till m to t rest ↔ x ≠ 0 ∧ ∃ sub : List Nat, sub.Sublist rest ∧ (∀ s ∈ sub, m.testBit s = true) ∧ inT sec till t sub ∧ x = to ||| setF sub
  | [], to, t, x => by
    rw [loopG]
    constructor
    · intro h
      split at h
      · simp at h
      · rw [List.mem_singleton] at h; subst h
        exact ⟨by assumption, [], .slnil, by simp, trivial, by simp [setF]⟩
    · rintro ⟨hx, sub, h1, h2, h3, h4⟩
      obtain rfl := List.sublist_nil.1 h1
      simp [setF] at h4
      subst h4
      rw [if_neg hx]; simp
  | s :: rest, to, t, x => by
    rw [loopG, List.mem_append]
    constructor
    · rintro (h | h)
      · split at h
        · rename_i hok
          rw [okG, Bool.and_eq_true, decide_eq_true_eq] at hok
          obtain ⟨hx, sub, h1, h2, h3, h4⟩ := (loop_mem m rest _ _ x).1 h
          refine ⟨hx, s :: sub, .cons_cons _ h1, ?_, ⟨hok.2, h3⟩, ?_⟩
          · intro y hy
            rcases List.mem_cons.1 hy with rfl | hy
            · exact hok.1
            · exact h2 y hy
          · rw [h4, setF_cons, Nat.or_assoc]
        · simp at h
      · obtain ⟨hx, sub, h1, h2, h3, h4⟩ := (loop_mem m rest _ _ x).1 h
        exact ⟨hx, sub, .cons _ h1, h2, h3, h4⟩
    · rintro ⟨hx, sub, h1, h2, h3, h4⟩
      cases h1 with
      | cons _ h1 => exact .inr ((loop_mem m rest _ _ x).2 ⟨hx, sub, h1, h2, h3, h4⟩)
      | cons_cons _ h1 =>
        rename_i sub
        have hok : okG sec till m t s = true := by rw [okG, h2 s (by simp)]; simpa using h3.1
        rw [if_pos hok]
        refine .inl ((loop_mem m rest _ _ x).2 ⟨hx, sub, h1, fun y hy => h2 y (by simp [hy]), h3.2, ?_⟩)
        rw [h4, setF_cons, Nat.or_assoc]
/-- so many lists of slips, each in time, that together have just those of a set -/
def Fit (sec till : Nat → Int) : Nat → Nat → Prop
  | 0, m => m = 0
  | p + 1, m => ∃ l : List Nat, l.Nodup ∧ (∀ s ∈ l, m.testBit s = true) ∧ inT sec till 0 l ∧ Fit sec till p (lessF m (setF l))
def canG (sec till : Nat → Int) (ord : List Nat) : Nat → Nat → Bool
  | 0, m => m == 0
  | p + 1, m => m == 0 || (loopG sec till m 0 0 ord).any fun x => canG sec till ord p (lessF m x)
theorem fit_zero : ∀ p : Nat, Fit sec till p 0
  | 0 => rfl
  | p + 1 => ⟨[], by simp, by simp, trivial, by rw [show setF [] = 0 from rfl, less_zero]; exact fit_zero p⟩
theorem fit_more : ∀ {p m : Nat}, Fit sec till p m → Fit sec till (p + 1) m
  | _, m, h => ⟨[], by simp, by simp, trivial, by rw [show setF [] = 0 from rfl, less_zero]; exact h⟩
theorem fit_le {p q m : Nat} (h : Fit sec till p m) (hq : p ≤ q) : Fit sec till q m := by
  induction hq with
  | refl => exact h
  | step _ ih => exact fit_more ih
/-- an order of slips: those that must be done sooner first -/
structure Ord (till : Nat → Int) (key : Nat → Nat → Bool) : Prop where
  tot : ∀ x y, key x y = false → key y x = true
  tr : ∀ x y z, key x y = true → key y z = true → key x z = true
  anti : ∀ x y, key x y = true → key y x = true → x = y
  till : ∀ x s, key x s = true → till x ≤ till s
/-- the slips of a desk in their order -/
structure Desk (key : Nat → Nat → Bool) (n : Nat) (ord : List Nat) : Prop where
  perm : ord.Perm (List.range n)
  sorted : ord.Pairwise (fun x y => key x y = true)
theorem Desk.nodup {key : Nat → Nat → Bool} {n : Nat} {ord : List Nat} (h : Desk key n ord) : ord.Nodup := h.perm.nodup_iff.2 List.nodup_range
theorem Desk.mem {key : Nat → Nat → Bool} {n : Nat} {ord : List Nat} (h : Desk key n ord) (s : Nat) : s ∈ ord ↔ s < n := by rw [h.perm.mem_iff, List.mem_range]
/-- some slips of the desk, in its order -/
def pick (x : Nat) (ord : List Nat) : List Nat := ord.filter fun s => x.testBit s
theorem Desk.pick_sort {key : Nat → Nat → Bool} {n : Nat} {ord : List Nat} (h : Desk key n ord) (hk : Ord till key) {l : List Nat} (hn : l.Nodup) (hl : ∀ s ∈ l, s < n) : pick (setF l) ord = sortP key l := by
  refine sorted_unique key hk.anti ?_ (h.sorted.sublist List.filter_sublist) (sortP_sorted key hk.tot hk.tr l)
  refine List.Perm.trans ?_ (sortP_perm key l).symm
  refine (List.perm_ext_iff_of_nodup (h.nodup.sublist List.filter_sublist) hn).2 fun s => ?_
  simp only [pick, List.mem_filter, setF_bit, h.mem, decide_eq_true_eq]
  exact ⟨fun k => k.2, fun k => ⟨hl s k, k⟩⟩
theorem can_more {ord : List Nat} : ∀ (p m : Nat), canG sec till ord p m = true → canG sec till ord (p + 1) m = true
  | 0, m, h => by
    rw [canG] at h
    rw [canG, h]; rfl
  | p + 1, m, h => by
    rw [canG, Bool.or_eq_true, List.any_eq_true] at h ⊢
    rcases h with h | ⟨x, hx, h⟩
    · exact .inl h
    · exact .inr ⟨x, hx, can_more p _ h⟩
theorem can_fit {key : Nat → Nat → Bool} {n : Nat} {ord : List Nat} (h : Desk key n ord) (hk : Ord till key) (hs : ∀ s, 0 ≤ sec s) : ∀ (p m : Nat), (∀ i, m.testBit i = true → i < n) → (canG sec till ord p m = true ↔ Fit sec till p m)
  | 0, m, _ => by simp [canG, Fit]
  | p + 1, m, hm => by
    have hm' : ∀ x i, (lessF m x).testBit i = true → i < n := fun x i hi => hm i (Part.less m x i hi)
    rw [canG, Bool.or_eq_true, List.any_eq_true]
    constructor
    · rintro (h0 | ⟨x, hx, hc⟩)
      · have : m = 0 := by simpa using h0
        subst this; exact fit_zero _
      · obtain ⟨_, sub, h1, h2, h3, h4⟩ := (loop_mem m ord 0 0 x).1 hx
        rw [Nat.zero_or] at h4
        subst h4
        exact ⟨sub, h.nodup.sublist h1, h2, h3, (can_fit h hk hs p _ (hm' _)).1 hc⟩
    · rintro ⟨l, h1, h2, h3, h4⟩
      by_cases hl : l = []
      · subst hl
        rw [show setF [] = 0 from rfl, less_zero] at h4
        have := can_more p m ((can_fit h hk hs p m hm).2 h4)
        rwa [canG, Bool.or_eq_true, List.any_eq_true] at this
      · right
        have hsort := h.pick_sort hk h1 (fun s hs => hm s (h2 s hs))
        have hset : setF (sortP key l) = setF l := setF_perm fun i => (sortP_perm key l).mem_iff
        refine ⟨setF l, (loop_mem m ord 0 0 _).2 ⟨fun e => hl (setF_zero.1 e), sortP key l, ?_, ?_, inT_sort hs key hk.till l 0 h3, by rw [Nat.zero_or, hset]⟩, (can_fit h hk hs p _ (hm' _)).2 h4⟩
        · rw [← hsort]; exact List.filter_sublist
        · intro s hs
          exact h2 s ((sortP_perm key l).mem_iff.1 hs)
end Go.Proofs.YtomgnpfpaodpiaaDoor.PM
/- How few pickers there must be: plain mathematics. -/
namespace Go.Proofs.YtomgnpfpaodpiaaDoor.PM
variable {sec till : Nat → Int}
/-- the least number of pickers for a set, of the parts from one on downwards -/
def bestG (can : Nat → Bool) (out : Nat → Int) (set : Nat) (part : Nat) (best : Int) : Int :=
  if h : part = 0 then best else bestG can out set ((part - 1) &&& set) (if can part then min best (1 + out (set - part)) else best)
termination_by part
decreasing_by
  have := @Nat.and_le_left (part - 1) set
  omega
/-- for each set below a number how few pickers have it in time -/
def outG (can : Nat → Bool) : Nat → List Int
  | 0 => []
  | 1 => [0]
  | k + 2 => outG can (k + 1) ++ [bestG can (fun i => (outG can (k + 1))[i]?.getD 0) (k + 1) (k + 1) 99]
def fewG (can : Nat → Bool) (m : Nat) : Int := (outG can (m + 1))[m]?.getD 0
end Go.Proofs.YtomgnpfpaodpiaaDoor.PM
/- The first of the fewest slips that are late: plain mathematics. -/
namespace Go.Proofs.YtomgnpfpaodpiaaDoor.PM
/-- does a list come before another one, element by element -/
def aheadB : List Int → List Int → Bool
  | a :: l, b :: r => if a = b then aheadB l r else decide (a < b)
  | [], _ :: _ => true
  | _, [] => false
/-- is a list of slips told rather than another one -/
def prefB (a b : List Int) : Bool := decide (a.length < b.length) || (decide (a.length = b.length) && aheadB a b)
theorem ahead_irr : ∀ a : List Int, aheadB a a = false
  | [] => rfl
  | a :: l => by rw [aheadB, if_pos rfl, ahead_irr l]
theorem ahead_trans : ∀ a b c : List Int, aheadB a b = true → aheadB b c = true → aheadB a c = true
  | [], _, [], h, k => by cases ‹List Int› <;> simp [aheadB] at h k
  | [], _, _ :: _, _, _ => rfl
  | _ :: _, [], _, h, _ => by simp [aheadB] at h
  | _ :: _, _ :: _, [], _, k => by simp [aheadB] at k
  | a :: l, b :: r, c :: s, h, k => by
    rw [aheadB] at h k ⊢
    by_cases h1 : a = b
    · subst h1
      rw [if_pos rfl] at h
      by_cases h2 : a = c
      · subst h2
        rw [if_pos rfl] at k ⊢
        exact ahead_trans l r s h k
      · rw [if_neg h2] at k ⊢
        exact k
    · rw [if_neg h1, decide_eq_true_eq] at h
      by_cases h2 : b = c
      · subst h2
        rw [if_neg h1, decide_eq_true_eq]; exact h
      · rw [if_neg h2, decide_eq_true_eq] at k
        rw [if_neg (by omega), decide_eq_true_eq]; omega
theorem pref_iff (a b : List Int) : prefB a b = true ↔ a.length < b.length ∨ (a.length = b.length ∧ aheadB a b = true) := by simp [prefB]
/-- the first one of all that do -/
structure Best (U : List Int → Prop) (P : List Int → Bool) (y : List Int) : Prop where
  in_ : U y
  ok : P y = true
  first : ∀ z, U z → P z = true → prefB z y = false
theorem cho_mem : ∀ (rest ch : List Int) (m : Nat) (y : List Int), y ∈ choF m rest ch ↔ ch.length ≤ m ∧ ∃ sub : List Int, sub.Sublist rest ∧ y = ch ++ sub ∧ y.length = m
  | [], ch, m, y => by
    rw [choF]
    constructor
    · intro h
      split at h
      · rw [List.mem_singleton] at h; subst h
        exact ⟨by omega, [], .slnil, by simp, by assumption⟩
      · simp [chL] at h
    · rintro ⟨_, sub, h1, h2, h3⟩
      obtain rfl := List.sublist_nil.1 h1
      rw [List.append_nil] at h2
      subst h2
      rw [if_pos h3]; simp
  | x :: rest, ch, m, y => by
    by_cases hc : ch.length = m
    · rw [choF, if_pos hc, List.mem_singleton]
      constructor
      · rintro rfl; exact ⟨by omega, [], List.nil_sublist _, by simp, hc⟩
      · rintro ⟨_, sub, h1, h2, h3⟩
        have : sub = [] := by
          have := congrArg List.length h2
          rw [List.length_append] at this
          exact List.length_eq_zero_iff.1 (by omega)
        rw [h2, this, List.append_nil]
    · have e : choF m (x :: rest) ch = choF m rest (ch ++ [x]) ++ chL m rest ch := by rw [choF, if_neg hc, chL_cons]
      have e2 : chL m rest ch = choF m rest ch := by rw [choF, if_neg hc]
      rw [e, e2, List.mem_append, cho_mem rest, cho_mem rest]
      constructor
      · rintro (⟨h0, sub, h1, h2, h3⟩ | ⟨h0, sub, h1, h2, h3⟩)
        · exact ⟨by simp at h0; omega, x :: sub, .cons_cons _ h1, by rw [h2]; simp, h3⟩
        · exact ⟨h0, sub, .cons _ h1, h2, h3⟩
      · rintro ⟨h0, sub, h1, h2, h3⟩
        cases h1 with
        | cons _ h1 => exact .inr ⟨h0, sub, h1, h2, h3⟩
        | cons_cons _ h1 =>
          rename_i sub
          exact .inl ⟨by simp; omega, sub, h1, by rw [h2]; simp, h3⟩
theorem ahead_pre : ∀ (ch : List Int) (x z : Int) (u v : List Int), x < z → aheadB (ch ++ x :: u) (ch ++ z :: v) = true
  | [], x, z, u, v, h => by
    rw [List.nil_append, List.nil_append, aheadB, if_neg (by omega), decide_eq_true_eq]; exact h
  | c :: ch, x, z, u, v, h => by
    rw [List.cons_append, List.cons_append, aheadB, if_pos rfl]
    exact ahead_pre ch x z u v h
theorem cho_sorted : ∀ (rest ch : List Int) (m : Nat), rest.Pairwise (· < ·) → (choF m rest ch).Pairwise (fun a b => aheadB a b = true)
  | [], ch, m, _ => by
    rw [choF]
    split
    · simp
    · simp [chL]
  | x :: rest, ch, m, h => by
    obtain ⟨h1, h2⟩ := List.pairwise_cons.1 h
    by_cases hc : ch.length = m
    · rw [choF, if_pos hc]; simp
    · have e : choF m (x :: rest) ch = choF m rest (ch ++ [x]) ++ chL m rest ch := by rw [choF, if_neg hc, chL_cons]
      have e2 : chL m rest ch = choF m rest ch := by rw [choF, if_neg hc]
      rw [e, e2, List.pairwise_append]
      refine ⟨cho_sorted rest _ m h2, cho_sorted rest ch m h2, fun a ha b hb => ?_⟩
      obtain ⟨_, s1, g1, g2, g3⟩ := (cho_mem _ _ _ _).1 ha
      obtain ⟨_, s2, k1, k2, k3⟩ := (cho_mem _ _ _ _).1 hb
      subst g2 k2
      cases s2 with
      | nil => exact absurd (by simpa using k3) hc
      | cons z s2 =>
        have hz : z ∈ rest := k1.subset (by simp)
        rw [List.append_assoc]
        exact ahead_pre ch x z s1 s2 (h1 z hz)
/-- the fewest slips that are late, the first list of them -/
def lateG (P : List Int → Bool) (n : Nat) (l : List Int) : List Int := ((List.range n).findSome? fun many => (choF many l []).find? P).getD l
theorem late_best (P : List Int → Bool) (l : List Int) (hl : l.Pairwise (· < ·)) (hP : P l = true) : Best (fun y => y.Sublist l) P (lateG P l.length l) := by
  have inU : ∀ {many : Nat} {y : List Int}, y ∈ choF many l [] ↔ y.Sublist l ∧ y.length = many := fun {many y} => by
    rw [cho_mem]
    constructor
    · rintro ⟨_, sub, h1, h2, h3⟩
      rw [List.nil_append] at h2; subst h2; exact ⟨h1, h3⟩
    · rintro ⟨h1, h2⟩; exact ⟨by simp, y, h1, rfl, h2⟩
  rw [lateG]
  cases hf : (List.range l.length).findSome? fun many => (choF many l []).find? P with
  | none =>
    rw [List.findSome?_eq_none_iff] at hf
    refine ⟨List.Sublist.refl _, hP, fun z h1 h2 => ?_⟩
    cases hb : prefB z l with
    | false => rw [Option.getD_none]; exact hb
    | true =>
      exfalso
      rw [pref_iff] at hb
      have hz : z.length < l.length := by
        rcases hb with hb | ⟨hb, hb'⟩
        · exact hb
        · have := h1.eq_of_length hb
          subst this
          rw [ahead_irr] at hb'; cases hb'
      have := hf z.length (List.mem_range.2 hz)
      rw [List.find?_eq_none] at this
      exact this z (inU.2 ⟨h1, rfl⟩) h2
  | some y =>
    rw [List.findSome?_eq_some_iff] at hf
    obtain ⟨l1, many, l2, e, hy, hb⟩ := hf
    have hmany : many = l1.length := by
      have h1 : (List.range l.length)[l1.length]? = some many := by rw [e, List.getElem?_append_right (Nat.le_refl _), Nat.sub_self]; rfl
      obtain ⟨h2, h3⟩ := List.getElem?_eq_some_iff.1 h1
      rw [List.getElem_range] at h3
      exact h3.symm
    have hl1 : l1 = List.range many := by
      have h1 : l1 = (List.range l.length).take l1.length := by rw [e, List.take_left]
      have h2 : l1.length ≤ l.length := by have := congrArg List.length e; simp at this; omega
      rw [h1, List.take_range, Nat.min_eq_left h2, hmany]
    rw [List.find?_eq_some_iff_append] at hy
    obtain ⟨hP1, l3, l4, hs, hall⟩ := hy
    have hyU : y.Sublist l ∧ y.length = many := inU.1 (by rw [hs]; simp)
    refine ⟨hyU.1, hP1, fun z h1 h2 => ?_⟩
    rw [Option.getD_some]
    cases hb2 : prefB z y with
    | false => rfl
    | true =>
      exfalso
      rw [pref_iff] at hb2
      rcases hb2 with h3 | ⟨h3, h4⟩
      · have := hb z.length (by rw [hl1, List.mem_range]; omega)
        rw [List.find?_eq_none] at this
        exact this z (inU.2 ⟨h1, rfl⟩) h2
      · have hz : z ∈ choF many l [] := inU.2 ⟨h1, by omega⟩
        rw [hs, List.mem_append, List.mem_cons] at hz
        rcases hz with hz | rfl | hz
        · have := hall z hz; rw [h2] at this; cases this
        · rw [ahead_irr] at h4; cases h4
        · have hso := cho_sorted l [] many hl
          rw [hs] at hso
          have h5 := (List.pairwise_cons.1 (List.pairwise_append.1 hso).2.1).1 z hz
          have h6 := ahead_trans _ _ _ h4 h5
          rw [ahead_irr] at h6; cases h6
/-- the same, found by going over some lists one by one -/
def passB (P : List Int → Bool) (best y : List Int) : List Int := if P y && prefB y best then y else best
end Go.Proofs.YtomgnpfpaodpiaaDoor.PM
/- How many steps pieces take: plain mathematics. -/
namespace Go.Proofs.YtomgnpfpaodpiaaDoor.PM
/-- how many steps pieces take, the farthest first, so many at once -/
def stD (C : Nat) : Nat → List Int → Int
  | 0, _ => 0
  | _ + 1, [] => 0
  | n + 1, d :: D => 2 * d + stD C n ((d :: D).drop C)
def cnt (h : Int) (D : List Int) : Nat := D.countP fun d => decide (h ≤ d)
def upD (x C : Nat) : Nat := (x + C - 1) / C
/-- added up from 1 on -/
def sumH (g : Nat → Int) : Nat → Int
  | 0 => 0
  | h + 1 => sumH g h + g (h + 1)
theorem cnt_le (h : Int) (a : List Int) : cnt h a ≤ a.length := List.countP_le_length
end Go.Proofs.YtomgnpfpaodpiaaDoor.PM
