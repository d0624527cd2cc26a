/- The law SlipEnds holds of every floor and number. -/
import Derived.Test.YtomgnpfpaodpiaaDoorJ11
import Derived.Test.YtomgnpfpaodpiaaDoorJ13
import Derived.Deep.CutRange
import Derived.Test.YtomgnpfpaodpiaaDoorJ14
import Derived.Test.YtomgnpfpaodpiaaDoorJ07
set_option linter.unusedVariables false
set_option linter.unusedSimpArgs false
namespace Go.Proofs.YtomgnpfpaodpiaaDoor
open Go Go.RowKit
set_option maxHeartbeats 8000000
theorem two_cells {w : World} {b : Nat} {x y : Value} (h0 : w.cell? ⟨b, 0, none⟩ = some x) (h1 : w.cell? ⟨b, 1, none⟩ = some y) : ∀ j u, [x, y][j]? = some u → w.cell? ((⟨b, 0, none⟩ : Addr).add j) = some u := by
  intro j u hj
  rcases j with _ | _ | j
  · simp at hj; subst hj; exact h0
  · simp at hj; subst hj; exact h1
  · simp at hj
theorem own_beside {w : World} {base n sz : Nat} {e : TypeId} {v : Value} {xs : List Value} (h : w.ownsRow base e sz v n xs) {p : Addr} (hp : p.block < base) (u : Value) : (w.setCell p u).ownsRow base e sz v n xs := by
  refine ⟨h.1, ?_⟩
  rcases h.2 with h0 | ⟨g, c, cur, rfl, g1, g2, g3⟩
  · exact .inl h0
  · refine .inr ⟨g, c, cur, rfl, g1, ?_, g3⟩
    rw [heap_setCell_other _ _ g _ (by omega)]
    exact g2
theorem own_ne {v u : Value} (h : ∀ g, v.ownBlock = some g → u.ownBlock ≠ some g) : u.ownBlock = none ∨ u.ownBlock ≠ v.ownBlock := by
  cases hu : u.ownBlock with
  | none => exact .inl rfl
  | some g =>
    right
    intro e
    exact h g e.symm hu
theorem own_apart {v v5 u : Value} {n : Nat} (h : ∀ g, v.ownBlock = some g → u.ownBlock ≠ some g) (hf : v5.ownBlock = v.ownBlock ∨ ∀ k, v5.ownBlock = some k → n ≤ k) (hu : ∀ g, u.ownBlock = some g → g < n) : ∀ g, v5.ownBlock = some g → u.ownBlock ≠ some g := by
  intro g hg e
  rcases hf with h1 | h1
  · exact h g (h1 ▸ hg) e
  · have := h1 g hg
    have := hu g e
    omega
theorem wp_append_at (w : World) {o : Oper} {a : Act} {K : Act → World → Prop} {Q : Exit → Act → World → Prop} (s x : Operand) (t : TypeId)
    (ho : o.op = .call { callee := .builtin .append, args := #[s, x], argTypes := #[t, t] }) (d : Nat) (hd : o.dst = some d)
    (base : Nat) (e : TypeId) (i : TypeInfo) (z : Value) (size bytes : Nat) (ht : Tryd.prog.underlying t = some (.slice e)) (hi : Tryd.prog.info? e = some i) (hz : i.zero = some z)
    (hsize : i.size = size) (hby : i.bytes = bytes) (hzs : z.cells.size = size) (hsz : 0 < size)
    (v : Value) (n : Nat) (xs : List Value) (hs : a.eval s = v) (hown : w.ownsRow base e size v n xs)
    (ad : Addr) (m c : Nat) (news : List Value) (hx : a.eval x = .slice (some ad) m c) (hl : news.length = m * size) (hnews : ∀ j u, news[j]? = some u → w.cell? (ad.add j) = some u) (h1 : ∀ u ∈ news, u.oneCell' = true)
    (h63 : n + m ≤ maxLen) (hbytes : (n + m) * bytes ≤ 140737488355328) (hbase : base ≤ w.heap.size)
    (h : ∀ v' w', w'.ownsRow base e size v' (n + m) (xs ++ news) → w.grownBy w' v.ownBlock → (v'.ownBlock = v.ownBlock ∨ ∀ k, v'.ownBlock = some k → w.heap.size ≤ k) → K { a with tmps := a.tmps.setIfInBounds d v' } w') : o.wp Tryd.prog a w K Q := by
  refine wp_append_fresh w s x t ho base e i z size bytes ht hi hz hsize hby hzs hsz v n xs hs hown ad m c news hx hl hnews h1 h63 hbytes hbase ?_
  intro v' w' h2 h3 h4
  have := h v' w' h2 h3 h4
  rw [hd]
  exact this
set_option maxRecDepth 100000 in
theorem slipEnds_some (f : Floor) (n : Int) (hv : validB f = true) (h0 : 0 < f.slips.length) (hn : -9223372036854775808 ≤ n ∧ n ≤ 9223372036854775807) (w : World) (hl : Lim w) (h : FloorAt w w.heap.size f) :
    Calls Tryd.prog 9 #[f.val, vi n] w fun e w' => e = .returned (.bool true) ∧ Below w.heap.size w w' := by
  have HL := Lib.hid hl
  have HF := Lib.hid h
  have h9 := (fine hv).slips9
  have SO := Lib.hid (fun (W : World) h1 h2 => sound_is hv W h1 h2)
  obtain ⟨s0, s1⟩ := spin_range n f.slips.length (by omega)
  obtain ⟨k, hk⟩ : ∃ k : Nat, spinI n f.slips.length = k := ⟨(spinI n f.slips.length).toNat, by omega⟩
  have hkl : k < f.slips.length := by omega
  obtain ⟨s, hs⟩ : ∃ s, f.slips[k]? = some s := ⟨_, List.getElem?_eq_getElem hkl⟩
  have SP : Hid (∀ W : World, Calls Tryd.prog 36 #[vi n, vi f.slips.length] W fun e w' => e = .returned (vi k) ∧ W = w') := fun W => by
    have := spin_any n f.slips.length W hn.1 hn.2 (by omega)
    rwa [hk] at this
  have hslip : ∀ x : Floor, validB x = true → x.slips = f.slips → checkSlipV x k = 0 := fun x hx hxs => by
    unfold checkSlipV
    rw [if_pos hx, if_pos]
    unfold slipB
    rw [hxs]
    simp
    omega
  obtain ⟨a, b, hab⟩ : ∃ a b, takesF f s = (a, b) := ⟨_, _, rfl⟩
  obtain ⟨st, hst⟩ : ∃ st, stepsF f s = st := ⟨_, rfl⟩
  have C1 : Hid (∀ W : World, Lim W → FloorAt W W.heap.size f → Calls Tryd.prog 20 #[f.val, vi k] W fun e w' => e = .returned (.tuple #[.agg #[vi a, vi b], vi 0]) ∧ Below W.heap.size W w') := fun W h1 h2 => by
    have := Takes_any f k W h1 h2
    have e1 : TakesV f k = (a, b) := by unfold TakesV; rw [if_pos (hslip f hv rfl), Int.toNat_natCast, hs]; exact hab
    rwa [e1, hslip f hv rfl] at this
  have C2 : Hid (∀ W : World, Lim W → FloorAt W W.heap.size f → Calls Tryd.prog 18 #[f.val, vi k] W fun e w' => e = .returned (.tuple #[vi st, vi 0]) ∧ Below W.heap.size W w') := fun W h1 h2 => by
    have := Steps_any f k W h1 h2
    have e1 : StepsV f k = st := by unfold StepsV; rw [if_pos (hslip f hv rfl), Int.toNat_natCast, hs]; exact hst
    rwa [e1, hslip f hv rfl] at this
  have C3 : Hid (∀ (A : Option Addr) (C : Nat) (W : World), Lim W → FloorAt W W.heap.size (endF false f A C) → Calls Tryd.prog 20 #[(endF false f A C).val, vi k] W fun e w' => e = .returned (.tuple #[.agg #[vi a, vi a], vi 0]) ∧ Below W.heap.size W w') := fun A C W h1 h2 => by
    have := Takes_any (endF false f A C) k W h1 h2
    have hx := hslip _ (end_valid hv false A C) rfl
    have e1 : TakesV (endF false f A C) k = (a, a) := by
      unfold TakesV
      rw [if_pos hx, Int.toNat_natCast, show (endF false f A C).slips[k]? = some s from hs]
      show takesF (endF false f A C) s = _
      rw [end_takes, hab]; rfl
    rwa [e1, hx] at this
  have C4 : Hid (∀ (A : Option Addr) (C : Nat) (W : World), Lim W → FloorAt W W.heap.size (endF true f A C) → Calls Tryd.prog 20 #[(endF true f A C).val, vi k] W fun e w' => e = .returned (.tuple #[.agg #[vi b, vi b], vi 0]) ∧ Below W.heap.size W w') := fun A C W h1 h2 => by
    have := Takes_any (endF true f A C) k W h1 h2
    have hx := hslip _ (end_valid hv true A C) rfl
    have e1 : TakesV (endF true f A C) k = (b, b) := by
      unfold TakesV
      rw [if_pos hx, Int.toNat_natCast, show (endF true f A C).slips[k]? = some s from hs]
      show takesF (endF true f A C) s = _
      rw [end_takes, hab]; rfl
    rwa [e1, hx] at this
  have hsl := ((valid_parts hv).2.2.2.2.2.2 k s hs).2
  have hstr := stepsF_range (fine hv) (List.mem_of_getElem? hs)
  rw [hst] at hstr
  have HPX : Hid (∀ (i : Nat) (x : SLine), s.lines[i]? = some x → ∃ (j : Nat) (q : Int × Int), x.shelf = j ∧ j < f.picks.length ∧ f.picks[j]? = some q ∧ (0 ≤ q.1 ∧ q.1 ≤ 300) ∧ (1 ≤ x.many ∧ x.many ≤ 20) ∧ (0 ≤ x.many * q.1 ∧ x.many * q.1 ≤ 6000) ∧ (0 ≤ secsKLo f s.lines 0 i ∧ secsKLo f s.lines 0 i ≤ 20000000) ∧ secsKLo f s.lines 0 (i + 1) = secsKLo f s.lines 0 i + x.many * q.1) := fun i x hx => by
    have hk := (List.getElem?_eq_some_iff.1 hx).1
    obtain ⟨l1, l2, l3⟩ := linesB_ok hsl
    obtain ⟨g1, g2, g3, g4⟩ := l3 i x hx
    have hpl := (fine hv).picksl
    have hj : x.shelf.toNat < f.picks.length := by omega
    have e := List.getElem?_eq_getElem hj
    have pk := picks_ok hv x.shelf.toNat
    rw [e] at pk
    simp only [Option.getD_some] at pk
    have r := secsLo_range hv hsl (steps := 0) (by omega) i (by omega)
    refine ⟨x.shelf.toNat, f.picks[x.shelf.toNat], by omega, hj, e, by omega, ⟨g3, g4⟩, ⟨Int.mul_nonneg (by omega) (by omega), Int.mul_le_mul g4 (by omega : f.picks[x.shelf.toNat].1 ≤ 300) (by omega) (by omega)⟩, by omega, ?_⟩
    simp only [secsKLo, hx, e, Option.getD_some]
  have HS0 : Hid (secsKLo f s.lines 0 0 = 0) := by unfold Hid; simp [secsKLo]
  have HAS : Hid (a = st * f.slo + secsKLo f s.lines 0 s.lines.length) := by
    unfold Hid
    rw [← lo_split]
    unfold takesF secsFLo at hab
    rw [hst] at hab
    exact (congrArg Prod.fst hab).symm
  have hzr := secsLo_range hv hsl (steps := 0) (by omega) s.lines.length (Nat.le_refl _)
  have hl12 := (linesB_ok hsl).2.1
  have hmr : 0 ≤ st * f.slo ∧ st * f.slo ≤ 2400000 := by
    have := (fine hv).step
    exact ⟨Int.mul_nonneg (by omega) (by omega), Int.mul_le_mul hstr.2 (by omega : f.slo ≤ 10) (by omega) (by omega)⟩
  obtain ⟨SS, hSS⟩ : ∃ SS, SS = secsKLo f s.lines 0 := ⟨_, rfl⟩
  rw [← hSS] at HPX HS0 HAS hzr
  clear hSS hsl
  obtain ⟨bs, os, hsA, hbs, r0, -⟩ := row2 h.slips.row hs rfl
  have HSA := Lib.hid hsA
  have HR0 : Hid (w.cell? ⟨bs, os + k * 2, none⟩ = some (.slice s.ad s.lines.length s.cap)) := r0
  have HSL := Lib.hid (h.each s (List.mem_of_getElem? hs))
  have hlc := (h.each s (List.mem_of_getElem? hs)).lens
  clear hsA r0
  have C3 : Hid (∀ (A : Option Addr) (C : Nat) (W : World), Lim W → FloorAt W W.heap.size (endF false f A C) → Calls Tryd.prog 20 #[.agg #[.slice f.fA f.far.length f.fC, vi f.slo, vi f.slo, .slice A f.picks.length C, vi f.carry, .slice f.sA f.slips.length f.sC], vi k] W fun e w' => e = .returned (.tuple #[.agg #[vi a, vi a], vi 0]) ∧ Below W.heap.size W w') := fun A C W h1 h2 => by
    have := C3.out A C W h1 h2
    have e : (endF false f A C).val = .agg #[.slice f.fA f.far.length f.fC, vi f.slo, vi f.slo, .slice A f.picks.length C, vi f.carry, .slice f.sA f.slips.length f.sC] := by
      show Value.agg #[.slice f.fA f.far.length f.fC, vi f.slo, vi f.slo, .slice A (f.picks.map (oneE false)).length C, vi f.carry, .slice f.sA f.slips.length f.sC] = _
      rw [List.length_map]
    rwa [e] at this
  have C4 : Hid (∀ (A : Option Addr) (C : Nat) (W : World), Lim W → FloorAt W W.heap.size (endF true f A C) → Calls Tryd.prog 20 #[.agg #[.slice f.fA f.far.length f.fC, vi f.shi, vi f.shi, .slice A f.picks.length C, vi f.carry, .slice f.sA f.slips.length f.sC], vi k] W fun e w' => e = .returned (.tuple #[.agg #[vi b, vi b], vi 0]) ∧ Below W.heap.size W w') := fun A C W h1 h2 => by
    have := C4.out A C W h1 h2
    have e : (endF true f A C).val = .agg #[.slice f.fA f.far.length f.fC, vi f.shi, vi f.shi, .slice A f.picks.length C, vi f.carry, .slice f.sA f.slips.length f.sC] := by
      show Value.agg #[.slice f.fA f.far.length f.fC, vi f.shi, vi f.shi, .slice A (f.picks.map (oneE true)).length C, vi f.carry, .slice f.sA f.slips.length f.sC] = _
      rw [List.length_map]
    rwa [e] at this
  have hkI : (k : Int) < f.slips.length := by omega
  have h0k : (0 : Int) ≤ k := by omega
  have hzz : ((f.slips.length : Int) == 0) = false := beq_eq_false_iff_ne.2 (by omega)
  have HV := Lib.hid hv
  have HS := Lib.hid hs
  have HAB := Lib.hid hab
  have HST := Lib.hid hst
  have h1l := h.picks.lens
  have h12 : f.picks.length ≤ 12 := by have := valid_parts hv; omega
  clear hl h hs hk hab hst hslip hv s0 s1 hn
  have X0 := CellsBox.new w 28 f.cells
  have hb0 : Below w.heap.size w (w.alloc (.cells f.cells.toArray 28)) := below1 _ _
  show Calls Tryd.prog 9 #[.agg #[.slice f.fA f.far.length f.fC, vi f.slo, vi f.shi, .slice f.pA f.picks.length f.pC, vi f.carry, .slice f.sA f.slips.length f.sC], vi n] w _
  go_enter Tryd.func9, Tryd.ntmps9
  go_upto_region 1 with fail
  refine (?_ : ∀ V : World, CellsBox V w.heap.size 28 f.cells → Below w.heap.size w V → Code.wp _ _ _ _ V) _ X0 hb0
  clear X0 hb0
  intro V X0 HB
  have HX := Lib.hid X0
  (have a0 := X0.cell (j := 0) rfl; have a1 := X0.cell (j := 1) rfl; have a2 := X0.cell (j := 2) rfl; have a3 := X0.cell (j := 3) rfl; have a4 := X0.cell (j := 4) rfl; have a5 := X0.cell (j := 5) rfl; have za := X0.lt)
  clear X0
  go_wp2_with fail
  refine (SO.out _ (HL.out.next HB) (HF.out.to HB)).mono ?_
  rintro e W1 ⟨rfl, hb⟩
  (replace HX := Lib.hid (HX.out.keep hb); replace HB : Below w.heap.size w W1 := HB.trans (hb.mono HB.size); clear hb a0 a1 a2 a3 a4 a5 za; (have a0 := HX.out.cell (j := 0) rfl; have a1 := HX.out.cell (j := 1) rfl; have a2 := HX.out.cell (j := 2) rfl; have a3 := HX.out.cell (j := 3) rfl; have a4 := HX.out.cell (j := 4) rfl; have a5 := HX.out.cell (j := 5) rfl; have za := HX.out.lt))
  go_wp2_with fail
  refine (SP.out _).mono ?_
  rintro e W2 ⟨rfl, rfl⟩
  go_wp2_with fail
  refine (C1.out _ (HL.out.next HB) (HF.out.to HB)).mono ?_
  rintro e W3 ⟨rfl, hb⟩
  (replace HX := Lib.hid (HX.out.keep hb); replace HB : Below w.heap.size w W3 := HB.trans (hb.mono HB.size); clear hb a0 a1 a2 a3 a4 a5 za; (have a0 := HX.out.cell (j := 0) rfl; have a1 := HX.out.cell (j := 1) rfl; have a2 := HX.out.cell (j := 2) rfl; have a3 := HX.out.cell (j := 3) rfl; have a4 := HX.out.cell (j := 4) rfl; have a5 := HX.out.cell (j := 5) rfl; have za := HX.out.lt))
  go_wp2_with fail
  have hbA := below1 W3 (.cells #[vi a, vi b] 24)
  have HS1 := CellsBox.new W3 24 [vi a, vi b]
  have HBA := HB.trans (hbA.mono HB.size)
  refine (C2.out _ (HL.out.next HBA) (HF.out.to HBA)).mono ?_
  rintro e W4 ⟨rfl, hb⟩
  have HS1 := Lib.hid (HS1.keep hb)
  replace hb := gr_trans hbA hb
  obtain ⟨b6, hb6⟩ : ∃ b6, b6 = W3.heap.size := ⟨_, rfl⟩
  have hb6w : w.heap.size ≤ b6 := by have := HB.size; omega
  rw [← hb6] at HS1 ⊢
  (replace HX := Lib.hid (HX.out.keep hb); replace HB : Below w.heap.size w W4 := HB.trans (hb.mono HB.size); clear hb a0 a1 a2 a3 a4 a5 za; (have a0 := HX.out.cell (j := 0) rfl; have a1 := HX.out.cell (j := 1) rfl; have a2 := HX.out.cell (j := 2) rfl; have a3 := HX.out.cell (j := 3) rfl; have a4 := HX.out.cell (j := 4) rfl; have a5 := HX.out.cell (j := 5) rfl; have za := HX.out.lt))
  clear hbA HBA hb6
  go_upto_region 6 with fail
  have L1 := (CellsBox.new W4 28 f.cells).alloc (.cells f.cells.toArray 28)
  have L2 := CellsBox.new (W4.alloc (.cells f.cells.toArray 28)) 28 f.cells
  have LB := (below1 W4 (.cells f.cells.toArray 28)).alloc (below1 W4 (.cells f.cells.toArray 28)).size (.cells f.cells.toArray 28)
  rw [show (W4.alloc (.cells f.cells.toArray 28)).heap.size = W4.heap.size + 1 by simp] at L2
  have hw4 : w.heap.size < W4.heap.size := HX.out.lt
  have hb64 : b6 < W4.heap.size := HS1.out.lt
  go_cut [10, 11] from 46 to 47 (fun s10 s11 wx => ∃ b c : Nat, s10 = .pointer (some ⟨b, 0, none⟩) ∧ s11 = .pointer (some ⟨c, 0, none⟩) ∧ b ≠ c ∧ W4.heap.size ≤ b ∧ W4.heap.size ≤ c ∧ CellsBox wx b 28 f.cells ∧ CellsBox wx c 28 f.cells ∧ Below W4.heap.size W4 wx)
  case first =>
    have HL1 := Lib.hid L1
    have HL2 := Lib.hid L2
    have HLB := Lib.hid LB
    clear L1 L2 LB
    go_region_with (fail)
    all_goals
      go_wp2_with fail
      go_meet
      first
        | exact ⟨W4.heap.size, W4.heap.size + 1, rfl, rfl, by omega, by omega, by omega, HL1.out, HL2.out, by repeat (first | exact HLB.out | refine Below.drew ?_)⟩
        | exact ⟨W4.heap.size + 1, W4.heap.size, rfl, rfl, by omega, by omega, by omega, HL2.out, HL1.out, by repeat (first | exact HLB.out | refine Below.drew ?_)⟩
  obtain ⟨bx, by_, rfl, rfl, hxy, hbx, hby, hX, hY, hb⟩ := hcut
  have HXB := Lib.hid hX
  have HYB := Lib.hid hY
  clear hX hY L1 L2 LB
  replace HS1 := Lib.hid (HS1.out.keep hb)
  have hwb := HB.size
  (replace HX := Lib.hid (HX.out.keep hb); replace HB : Below w.heap.size w wc := HB.trans (hb.mono HB.size); clear hb a0 a1 a2 a3 a4 a5 za; (have a0 := HX.out.cell (j := 0) rfl; have a1 := HX.out.cell (j := 1) rfl; have a2 := HX.out.cell (j := 2) rfl; have a3 := HX.out.cell (j := 3) rfl; have a4 := HX.out.cell (j := 4) rfl; have a5 := HX.out.cell (j := 5) rfl; have za := HX.out.lt))
  go_wp2_with fail
  have hST7 : Stays (fun w' => CellsBox w' w.heap.size 28 f.cells ∧ Below w.heap.size w w') := fun a b h h' => ⟨h.1.keep h', h.2.trans (h'.mono h.2.size)⟩
  have hxw : w.heap.size < bx := by have := HX.out.lt; omega
  have hyw : w.heap.size < by_ := by have := HX.out.lt; omega
  refine' wp_region_box (fun w' => CellsBox w' w.heap.size 28 f.cells ∧ Below w.heap.size w w') hST7 [0, 1, 2, 3, 4, 5, 6, 7, 8, 9, 10, 11, 12, 13, 14] 3 207 (by kernel_rfl) (by kernel_rfl) rfl (by kernel_rfl) (by kernel_rfl) rfl (by kernel_rfl) ?hl7 ⟨HX.out, HB⟩ ?hq7 ?hr7
  case hl7 =>
    simp only [List.map_cons, List.map_nil, List.getD_cons_zero, List.getD_cons_succ]
    exact rfl
  case hq7 =>
    intro w0 K
    have f1 := K.1.cell (j := 1) rfl
    have f2 := K.1.cell (j := 2) rfl
    have zf := K.1.lt
    (repeat (go_big_quiet_step ((go_at_call 44; refine Calls.grow_of (to_any _ _ _)))))
    exact wpQuiet_nil rfl
  refine wpUp_one (i := 15) (by kernel_rfl) rfl rfl (fun wa u1 u2 Ka hKa => ?_)
  have XA := HXB.out.keep u1
  have YA := HYB.out.keep u1
  have SA := HS1.out.keep u1
  have x1 := XA.cell (j := 1) rfl
  have x2 := XA.cell (j := 2) rfl
  have q1 := XA.frozen 1
  have q2 := XA.frozen 2
  have zx := XA.lt
  go_simp
  have XA2 := (XA.store 1 (vi f.slo)).store 2 (vi f.slo)
  have YA2 := (YA.apart ⟨bx, 1, none⟩ (vi f.slo) (by simp only; omega)).apart ⟨bx, 2, none⟩ (vi f.slo) (by simp only; omega)
  have SA2 := (SA.apart ⟨bx, 1, none⟩ (vi f.slo) (by simp only; omega)).apart ⟨bx, 2, none⟩ (vi f.slo) (by simp only; omega)
  have FA2 := (u2.1.apart ⟨bx, 1, none⟩ (vi f.slo) (by simp only; omega)).apart ⟨bx, 2, none⟩ (vi f.slo) (by simp only; omega)
  have BA2 := (u2.2.setCell (p := ⟨bx, 1, none⟩) (by simp only; omega) (vi f.slo)).setCell (p := ⟨bx, 2, none⟩) (by simp only; omega) (vi f.slo)
  refine hKa _ _ ⟨FA2, BA2⟩ ?_
  clear x1 x2 q1 q2 zx
  refine wpUp_one (i := 16) (by kernel_rfl) rfl rfl (fun wb v1 v2 Kb hKb => ?_)
  go_simp
  refine hKb _ _ v2 ?_
  refine wpUp_one (i := 17) (by kernel_rfl) rfl rfl (fun wd y1 y2 Kd hKd => ?_)
  have hk := gr_trans v1 y1
  have XB := XA2.keep hk
  have YB := YA2.keep hk
  have SB := SA2.keep hk
  have x1 := YB.cell (j := 1) rfl
  have x2 := YB.cell (j := 2) rfl
  have q1 := YB.frozen 1
  have q2 := YB.frozen 2
  have zx := YB.lt
  go_simp
  have XB2 := (XB.apart ⟨by_, 1, none⟩ (vi f.shi) (by simp only; omega)).apart ⟨by_, 2, none⟩ (vi f.shi) (by simp only; omega)
  have YB2 := (YB.store 1 (vi f.shi)).store 2 (vi f.shi)
  have SB2 := (SB.apart ⟨by_, 1, none⟩ (vi f.shi) (by simp only; omega)).apart ⟨by_, 2, none⟩ (vi f.shi) (by simp only; omega)
  have FB2 := (y2.1.apart ⟨by_, 1, none⟩ (vi f.shi) (by simp only; omega)).apart ⟨by_, 2, none⟩ (vi f.shi) (by simp only; omega)
  have BB2 := (y2.2.setCell (p := ⟨by_, 1, none⟩) (by simp only; omega) (vi f.shi)).setCell (p := ⟨by_, 2, none⟩) (by simp only; omega) (vi f.shi)
  refine hKd _ _ ⟨FB2, BB2⟩ (wpUp_done (by kernel_rfl) (fun W8 g1 g2 => NoPanic.normal ?_))
  have X8 := XB2.keep g1
  have Y8 := YB2.keep g1
  have S8 := SB2.keep g1
  have F8 := g2.1
  have B8 := g2.2
  clear hKa hKb hKd u1 u2 v1 v2 y1 y2 hk XA YA SA XA2 YA2 SA2 FA2 BA2 XB YB SB XB2 YB2 SB2 FB2 BB2 x1 x2 q1 q2 zx g1 g2 a0 a1 a2 a3 a4 a5 za HX HB HXB HYB HS1
  have x3 := X8.cell (j := 3) rfl
  have qx := X8.frozen 3
  have zx := X8.lt
  have y3 := Y8.cell (j := 3) rfl
  have qy := Y8.frozen 3
  have zy := Y8.lt
  have P1 := Lib.hid ((X8.store 3 (.slice none 0 0)).apart ⟨by_, 3, none⟩ (.slice none 0 0) (by simp only; omega))
  have P2 := Lib.hid ((Y8.apart ⟨bx, 3, none⟩ (.slice none 0 0) (by simp only; omega)).store 3 (.slice none 0 0))
  have P3 := Lib.hid ((S8.apart ⟨bx, 3, none⟩ (.slice none 0 0) (by simp only; omega)).apart ⟨by_, 3, none⟩ (.slice none 0 0) (by simp only; omega))
  have P4 := Lib.hid ((F8.apart ⟨bx, 3, none⟩ (.slice none 0 0) (by simp only; omega)).apart ⟨by_, 3, none⟩ (.slice none 0 0) (by simp only; omega))
  have P5 := Lib.hid ((B8.setCell (p := ⟨bx, 3, none⟩) (by simp only; omega) (.slice none 0 0)).setCell (p := ⟨by_, 3, none⟩) (by simp only; omega) (.slice none 0 0))
  clear X8 Y8 S8 F8 B8
  go_wp2_with fail
  refine (?_ : ∀ W7 : World, CellsBox W7 bx 28 [.slice f.fA f.far.length f.fC, vi f.slo, vi f.slo, .slice none 0 0, vi f.carry, .slice f.sA f.slips.length f.sC] → CellsBox W7 by_ 28 [.slice f.fA f.far.length f.fC, vi f.shi, vi f.shi, .slice none 0 0, vi f.carry, .slice f.sA f.slips.length f.sC] → CellsBox W7 b6 24 [vi a, vi b] → CellsBox W7 w.heap.size 28 f.cells → Below w.heap.size w W7 → Code.wp _ _ _ _ W7) _ P1.out P2.out P3.out P4.out P5.out
  clear P1 P2 P3 P4 P5 x3 qx zx y3 qy zy
  intro W7 X7 Y7 S7 F7 B7
  obtain ⟨base, hbase⟩ : ∃ base, base = W7.heap.size := ⟨_, rfl⟩
  have g1 : bx < base := by have := X7.lt; omega
  have g2 : by_ < base := by have := Y7.lt; omega
  have g3 : b6 < base := by have := S7.lt; omega
  have g4 : w.heap.size < base := by have := F7.lt; omega
  have g5 : base ≤ W7.heap.size := by omega
  clear hbase
  obtain ⟨i0, hi, hy0, hy1, hy2⟩ := info_parts info_span
  go_loopw [12] (fun i wr => ∃ (t : Nat) (v u : Value), t ≤ f.picks.length ∧ i = .int .i64 t ∧ Below w.heap.size w wr ∧ base ≤ wr.heap.size ∧ Hid (CellsBox wr bx 28 [.slice f.fA f.far.length f.fC, vi f.slo, vi f.slo, v, vi f.carry, .slice f.sA f.slips.length f.sC]) ∧ Hid (CellsBox wr by_ 28 [.slice f.fA f.far.length f.fC, vi f.shi, vi f.shi, u, vi f.carry, .slice f.sA f.slips.length f.sC]) ∧ Hid (CellsBox wr b6 24 [vi a, vi b]) ∧ Hid (CellsBox wr w.heap.size 28 f.cells) ∧ Hid (wr.ownsRow base 24 2 v t (flatS ((f.picks.take t).map (oneE false)))) ∧ Hid (wr.ownsRow base 24 2 u t (flatS ((f.picks.take t).map (oneE true)))) ∧ Hid (∀ g, v.ownBlock = some g → u.ownBlock ≠ some g)) (fun i _ => f.picks.length - (intOf i).toNat)
  case atStart => exact ⟨0, _, _, Nat.zero_le _, rfl, B7, g5, X7, Y7, S7, F7, World.ownsRow_nil _ _ _ _, World.ownsRow_nil _ _ _ _, fun g e => by cases e⟩
  clear X7 Y7 S7 F7 B7 g5
  obtain ⟨t, v, u, hk, rfl, HB, hsz, HXB, HYB, HS1, HX, HO1, HO2, HNE⟩ := hrel
  by_cases hlt : t < f.picks.length
  · obtain ⟨p, hp⟩ : ∃ p, f.picks[t]? = some p := ⟨_, List.getElem?_eq_getElem hlt⟩
    obtain ⟨pb, po, hpA, hpb, p0, p1⟩ := row2 HF.out.picks.row hp rfl
    have HPA := Lib.hid hpA
    have HP0 := Lib.hid p0
    have HP1 := Lib.hid p1
    have p0r : wr.cell? ⟨pb, po + t * 2, none⟩ = some (vi p.1) := (HB.cell hpb).trans p0
    have zpr := cell_lt p0r
    have hkI' : (t : Int) < f.picks.length := by omega
    have h0k' : (0 : Int) ≤ t := by omega
    have HT1 : Hid (flatS ((f.picks.take (t + 1)).map (oneE false)) = flatS ((f.picks.take t).map (oneE false)) ++ [vi p.1, vi p.1]) := by
      unfold Hid
      obtain ⟨hk2, rfl⟩ := List.getElem?_eq_some_iff.1 hp
      rw [List.take_succ_eq_append_getElem hk2, List.map_append]
      simp [flatS, spanC, oneE]
    have HT2 : Hid (flatS ((f.picks.take (t + 1)).map (oneE true)) = flatS ((f.picks.take t).map (oneE true)) ++ [vi p.2, vi p.2]) := by
      unfold Hid
      obtain ⟨hk2, rfl⟩ := List.getElem?_eq_some_iff.1 hp
      rw [List.take_succ_eq_append_getElem hk2, List.map_append]
      simp [flatS, spanC, oneE]
    have a3 := HX.out.cell (j := 3) rfl
    have za := HX.out.lt
    clear hp hpA p0 p1
    go_wp2_with fail
    have hST : Stays (fun w' => CellsBox w' w.heap.size 28 f.cells ∧ Below w.heap.size w w' ∧ base ≤ w'.heap.size) := fun a b h h' => ⟨h.1.keep h', h.2.1.trans (h'.mono h.2.1.size), by have := h'.size; omega⟩
    refine' wp_region_box (fun w' => CellsBox w' w.heap.size 28 f.cells ∧ Below w.heap.size w w' ∧ base ≤ w'.heap.size) hST [0, 2, 3, 4, 5, 6, 7, 8, 9, 10, 11, 12, 13, 14, 17, 19, 20, 21, 22, 23, 24, 25, 26, 27, 28, 29, 30] 11 207 (by kernel_rfl) (by kernel_rfl) rfl (by kernel_rfl) (by kernel_rfl) rfl (by kernel_rfl) ?hl12 ⟨HX.out, HB, hsz⟩ ?hq12 ?hr12
    case hl12 =>
      simp only [List.map_cons, List.map_nil, List.getD_cons_zero, List.getD_cons_succ]
      exact rfl
    case hq12 =>
      intro w0 K
      have a3 := K.1.cell (j := 3) rfl
      rw [HPA.out] at a3
      have za := K.1.lt
      have p0k : w0.cell? ⟨pb, po + t * 2, none⟩ = some (vi p.1) := (K.2.1.cell hpb).trans HP0.out
      have p1k : w0.cell? ⟨pb, po + t * 2 + 1, none⟩ = some (vi p.2) := (K.2.1.cell hpb).trans HP1.out
      have zpk := cell_lt p0k
      (repeat (go_big_quiet_step ((go_at_call 44; refine Calls.grow_of (to_any _ _ _)))))
      exact wpQuiet_nil rfl
    clear a3 za p0r zpr
    have HBc := Below.refl wr.heap.size wr
    refine' wpUp_three (i := 1) (j := 15) (k := 18) (by kernel_rfl) rfl rfl rfl rfl rfl rfl (fun w1 u1 c1 K1 hK1 => ?g1) (fun w1 u1 c1 K1 hK1 => ?g2) (fun w1 u1 c1 K1 hK1 => ?g3)
    case' g1 =>
      replace HBc : Below wr.heap.size wr w1 := gr_trans HBc u1
      have HQ := HXB.out.keep HBc
      have q3 := HQ.cell (j := 3) rfl
      have zq := HQ.lt
      go_simp
      refine hK1 _ _ c1 ?_
      clear HQ q3 zq
      refine' wpUp_two (i := 15) (j := 18) (by kernel_rfl) rfl rfl rfl rfl (fun w2 u2 c2 K2 hK2 => ?g4) (fun w2 u2 c2 K2 hK2 => ?g5)
      case' g4 =>
        replace HBc : Below wr.heap.size wr w2 := gr_trans HBc u2
        go_simp
        obtain ⟨V2, hV⟩ : ∃ V, V = w2.alloc (.cells #[vi p.1, vi p.1] 24) := ⟨_, rfl⟩
        have hbV : Below w2.heap.size w2 V2 := by rw [hV]; exact below1 _ _
        have HCV : CellsBox V2 w2.heap.size 24 [vi p.1, vi p.1] := by rw [hV]; exact CellsBox.new w2 _ _
        rw [← hV]
        refine hK2 _ _ (hST _ _ c2 hbV) ?_
        replace HBc := gr_trans HBc hbV
        obtain ⟨bA, hbA⟩ : ∃ bA, bA = w2.heap.size := ⟨_, rfl⟩
        rw [← hbA] at HCV ⊢
        clear hV hbA hbV
        refine' wpUp_two (i := 16) (j := 18) (by kernel_rfl) rfl rfl rfl rfl (fun w3 u3 c3 K3 hK3 => ?g6) (fun w3 u3 c3 K3 hK3 => ?g7)
        case' g6 =>
          replace HBc : Below wr.heap.size wr w3 := gr_trans HBc u3
          replace HCV := HCV.keep u3
          have hown7 := own_keep HO1.out HBc
          have hown6 := own_keep HO2.out HBc
          have X7 := HXB.out.keep HBc
          have Y7 := HYB.out.keep HBc
          have S7 := HS1.out.keep HBc
          have d0 := HCV.cell (j := 0) rfl
          have d1 := HCV.cell (j := 1) rfl
          refine wp_append_at _ _ _ _ (by rfl) 89 (by rfl) base 24 i0 _ 2 16 Tryd.underlying25 hi hy0 hy1 hy2 rfl (by omega) v t _ (by rfl) hown7 ⟨bA, 0, none⟩ 1 1 [vi p.1, vi p.1] (by rfl) (by rfl) (two_cells d0 d1) (by intro u hu; simp at hu; rcases hu with rfl | rfl <;> rfl) (by unfold maxLen; omega) (by omega) (by have := c3.2.2; omega) ?_
          intro v5 w8 hown8 hgrow hfr
          have hlt7 := fun j e => (hown7.lt j e).1
          have F18 : CellsBox w8 w.heap.size 28 f.cells := (hgrow.block _ c3.1.lt (fun e => by have := hlt7 _ e.symm; omega)).trans c3.1
          have FX8 : CellsBox w8 bx 28 [.slice f.fA f.far.length f.fC, vi f.slo, vi f.slo, v, vi f.carry, .slice f.sA f.slips.length f.sC] := (hgrow.block _ X7.lt (fun e => by have := hlt7 _ e.symm; omega)).trans X7
          have FY8 : CellsBox w8 by_ 28 [.slice f.fA f.far.length f.fC, vi f.shi, vi f.shi, u, vi f.carry, .slice f.sA f.slips.length f.sC] := (hgrow.block _ Y7.lt (fun e => by have := hlt7 _ e.symm; omega)).trans Y7
          have S18 : CellsBox w8 b6 24 [vi a, vi b] := (hgrow.block _ S7.lt (fun e => by have := hlt7 _ e.symm; omega)).trans S7
          have O28 : w8.ownsRow base 24 2 u t (flatS ((f.picks.take t).map (oneE true))) := hown6.kept hgrow (own_ne HNE.out)
          have B8 : Below w.heap.size w w8 := Below.grown c3.2.1 hgrow c3.2.1.size (fun j e => by have := hlt7 j e; omega)
          have S8 : base ≤ w8.heap.size := by have := hgrow.size; have := c3.2.2; omega
          have NE8 : ∀ g, v5.ownBlock = some g → u.ownBlock ≠ some g := own_apart HNE.out hfr (fun g e => (hown6.lt g e).2)
          simp only [List.setIfInBounds_toArray, List.set_cons_zero, List.set_cons_succ]
          refine hK3 _ _ ⟨F18, B8, S8⟩ ?_
          clear HBc HCV hgrow hfr hlt7 X7 Y7 S7 d0 d1 hown7 hown6
          have HBc := Below.refl w8.heap.size w8
          refine' wpUp_more hST [31, 34] 6 207 (by kernel_rfl) (by kernel_rfl) (by kernel_rfl) rfl (by kernel_rfl) rfl ?hla7 ⟨F18, B8, S8⟩ ?hqa7 ?hra7
          case hla7 =>
            simp only [List.map_cons, List.map_nil, List.getD_cons_zero, List.getD_cons_succ]
            exact rfl
          case hqa7 =>
            intro w0 hw0
            (repeat (go_big_quiet_step ((go_at_call 44; refine Calls.grow_of (to_any _ _ _)))))
            exact wpQuiet_nil rfl
          case' hra7 =>
            refine' wpUp_two (i := 18) (j := 32) (by kernel_rfl) rfl rfl rfl rfl (fun w4 u4 c4 K4 hK4 => ?g9) (fun w4 u4 c4 K4 hK4 => ?g10)
            case' g9 =>
              replace HBc : Below w8.heap.size w8 w4 := gr_trans HBc u4
              have HQ := FY8.keep HBc
              have q3 := HQ.cell (j := 3) rfl
              have zq := HQ.lt
              go_simp
              refine hK4 _ _ c4 ?_
              clear HQ q3 zq
              refine' wpUp_one (i := 32) (by kernel_rfl) rfl rfl (fun w5 u5 c5 K5 hK5 => ?g11)
              case' g11 =>
                replace HBc : Below w8.heap.size w8 w5 := gr_trans HBc u5
                go_simp
                obtain ⟨V5, hV⟩ : ∃ V, V = w5.alloc (.cells #[vi p.2, vi p.2] 24) := ⟨_, rfl⟩
                have hbV : Below w5.heap.size w5 V5 := by rw [hV]; exact below1 _ _
                have HCV : CellsBox V5 w5.heap.size 24 [vi p.2, vi p.2] := by rw [hV]; exact CellsBox.new w5 _ _
                rw [← hV]
                refine hK5 _ _ (hST _ _ c5 hbV) ?_
                replace HBc := gr_trans HBc hbV
                obtain ⟨bA, hbA⟩ : ∃ bA, bA = w5.heap.size := ⟨_, rfl⟩
                rw [← hbA] at HCV ⊢
                clear hV hbA hbV
                refine wpUp_one (i := 33) (by kernel_rfl) rfl rfl (fun w6 u6 c6 K6 hK6 => ?_)
                replace HBc : Below w8.heap.size w8 w6 := gr_trans HBc u6
                replace HCV := HCV.keep u6
                have Hv7 := own_keep hown8 HBc
                have Hu7 := own_keep O28 HBc
                have X7 := FX8.keep HBc
                have Y7 := FY8.keep HBc
                have S7 := S18.keep HBc
                have d0 := HCV.cell (j := 0) rfl
                have d1 := HCV.cell (j := 1) rfl
                refine wp_append_at _ _ _ _ (by rfl) 106 (by rfl) base 24 i0 _ 2 16 Tryd.underlying25 hi hy0 hy1 hy2 rfl (by omega) u t _ (by rfl) Hu7 ⟨bA, 0, none⟩ 1 1 [vi p.2, vi p.2] (by rfl) (by rfl) (two_cells d0 d1) (by intro u hu; simp at hu; rcases hu with rfl | rfl <;> rfl) (by unfold maxLen; omega) (by omega) (by have := c6.2.2; omega) ?_
                intro z5 w9 hown9 hgrow hfr
                have hlt7 := fun j e => (Hu7.lt j e).1
                have F19 : CellsBox w9 w.heap.size 28 f.cells := (hgrow.block _ c6.1.lt (fun e => by have := hlt7 _ e.symm; omega)).trans c6.1
                have X9 : CellsBox w9 bx 28 [.slice f.fA f.far.length f.fC, vi f.slo, vi f.slo, v, vi f.carry, .slice f.sA f.slips.length f.sC] := (hgrow.block _ X7.lt (fun e => by have := hlt7 _ e.symm; omega)).trans X7
                have Y9 : CellsBox w9 by_ 28 [.slice f.fA f.far.length f.fC, vi f.shi, vi f.shi, u, vi f.carry, .slice f.sA f.slips.length f.sC] := (hgrow.block _ Y7.lt (fun e => by have := hlt7 _ e.symm; omega)).trans Y7
                have S19 : CellsBox w9 b6 24 [vi a, vi b] := (hgrow.block _ S7.lt (fun e => by have := hlt7 _ e.symm; omega)).trans S7
                have O19 := Hv7.kept hgrow (own_ne (fun g e e2 => NE8 g e2 e))
                have B9 : Below w.heap.size w w9 := Below.grown c6.2.1 hgrow c6.2.1.size (fun j e => by have := hlt7 j e; omega)
                have S9 : base ≤ w9.heap.size := by have := hgrow.size; have := c6.2.2; omega
                have NE9 : ∀ g, z5.ownBlock = some g → v5.ownBlock ≠ some g := own_apart (fun g e e2 => NE8 g e2 e) hfr (fun g e => (Hv7.lt g e).2)
                simp only [List.setIfInBounds_toArray, List.set_cons_zero, List.set_cons_succ]
                refine hK6 _ _ ⟨F19, B9, S9⟩ ?_
                clear HBc HCV hgrow hfr hlt7 X7 Y7 S7 d0 d1 Hv7 Hu7 FX8 FY8 S18 O28 hown8 NE8 F18 B8 S8
                refine wpUp_one (i := 35) (by kernel_rfl) rfl rfl (fun wp up cp Kp hKp => ?_)
                obtain ⟨A5, c5, rfl, -, -⟩ := own_form O19
                obtain ⟨A6, c6, rfl, -, -⟩ := own_form hown9
                have XA := X9.keep up
                have YA := Y9.keep up
                have SA := S19.keep up
                have OA := own_keep O19 up
                have UA := own_keep hown9 up
                have x3 := XA.cell (j := 3) rfl
                have qx := XA.frozen 3
                have zx := XA.lt
                go_simp
                have XA2 := XA.store 3 (.slice A5 (t + 1) c5)
                have YA2 := YA.apart ⟨bx, 3, none⟩ (.slice A5 (t + 1) c5) (by simp only; omega)
                have SA2 := SA.apart ⟨bx, 3, none⟩ (.slice A5 (t + 1) c5) (by simp only; omega)
                have FA2 := cp.1.apart ⟨bx, 3, none⟩ (.slice A5 (t + 1) c5) (by simp only; omega)
                have BA2 := cp.2.1.setCell (p := ⟨bx, 3, none⟩) (by simp only; omega) (.slice A5 (t + 1) c5)
                have OA2 := own_beside OA (p := ⟨bx, 3, none⟩) (by simp only; omega) (.slice A5 (t + 1) c5)
                have UA2 := own_beside UA (p := ⟨bx, 3, none⟩) (by simp only; omega) (.slice A5 (t + 1) c5)
                have ZA2 : base ≤ (wp.setCell ⟨bx, 3, none⟩ (.slice A5 (t + 1) c5)).heap.size := by have := cp.2.2; simpa using this
                refine hKp _ _ ⟨FA2, BA2, ZA2⟩ ?_
                clear x3 qx zx XA YA SA OA UA up X9 Y9 S19 O19 hown9 F19 B9 S9
                refine wpUp_one (i := 36) (by kernel_rfl) rfl rfl (fun wq uq cq Kq hKq => ?_)
                go_simp
                refine hKq _ _ cq ?_
                refine wpUp_one (i := 37) (by kernel_rfl) rfl rfl (fun ws us cs Ks hKs => ?_)
                have hk2 := gr_trans uq us
                have XB := XA2.keep hk2
                have YB := YA2.keep hk2
                have SB := SA2.keep hk2
                have OB := own_keep OA2 hk2
                have UB := own_keep UA2 hk2
                have x3 := YB.cell (j := 3) rfl
                have qx := YB.frozen 3
                have zx := YB.lt
                go_simp
                have XB2 := XB.apart ⟨by_, 3, none⟩ (.slice A6 (t + 1) c6) (by simp only; omega)
                have YB2 := YB.store 3 (.slice A6 (t + 1) c6)
                have SB2 := SB.apart ⟨by_, 3, none⟩ (.slice A6 (t + 1) c6) (by simp only; omega)
                have FB2 := cs.1.apart ⟨by_, 3, none⟩ (.slice A6 (t + 1) c6) (by simp only; omega)
                have BB2 := cs.2.1.setCell (p := ⟨by_, 3, none⟩) (by simp only; omega) (.slice A6 (t + 1) c6)
                have OB2 := own_beside OB (p := ⟨by_, 3, none⟩) (by simp only; omega) (.slice A6 (t + 1) c6)
                have UB2 := own_beside UB (p := ⟨by_, 3, none⟩) (by simp only; omega) (.slice A6 (t + 1) c6)
                have ZB2 : base ≤ (ws.setCell ⟨by_, 3, none⟩ (.slice A6 (t + 1) c6)).heap.size := by have := cs.2.2; simpa using this
                refine hKs _ _ ⟨FB2, BB2, ZB2⟩ (wpUp_done (by kernel_rfl) (fun W8 g1 g2 => NoPanic.normal ?_))
                have X9 := Lib.hid (XB2.keep g1)
                have Y9 := Lib.hid (YB2.keep g1)
                have S9 := Lib.hid (SB2.keep g1)
                have O9 := Lib.hid (own_keep OB2 g1)
                have U9 := Lib.hid (own_keep UB2 g1)
                have F9 := Lib.hid g2.1
                have B9 := g2.2.1
                have Z9 := g2.2.2
                have N9 : Hid (∀ g, (Value.slice A5 (t + 1) c5).ownBlock = some g → (Value.slice A6 (t + 1) c6).ownBlock ≠ some g) := fun g e e2 => NE9 g e2 e
                clear hKp hKq hKs uq us hk2 x3 qx zx XA2 YA2 SA2 FA2 BA2 OA2 UA2 ZA2 XB YB SB OB UB XB2 YB2 SB2 FB2 BB2 OB2 UB2 ZB2 g1 g2 NE9 cp cq cs HXB HYB HS1 HX HO1 HO2 HNE
                go_wp2_with fail
                go_roundw
                case rel => exact ⟨t + 1, .slice A5 (t + 1) c5, .slice A6 (t + 1) c6, by omega, by go_num, B9, Z9, X9, Y9, S9, F9, by unfold Hid; rw [HT1.out]; exact O9.out, by unfold Hid; rw [HT2.out]; exact U9.out, N9⟩
                case measure => simp [intOf]; omega
            case' g10 =>
              replace HBc : Below w8.heap.size w8 w4 := gr_trans HBc u4
              go_simp
              obtain ⟨V4, hV⟩ : ∃ V, V = w4.alloc (.cells #[vi p.2, vi p.2] 24) := ⟨_, rfl⟩
              have hbV : Below w4.heap.size w4 V4 := by rw [hV]; exact below1 _ _
              have HCV : CellsBox V4 w4.heap.size 24 [vi p.2, vi p.2] := by rw [hV]; exact CellsBox.new w4 _ _
              rw [← hV]
              refine hK4 _ _ (hST _ _ c4 hbV) ?_
              replace HBc := gr_trans HBc hbV
              obtain ⟨bA, hbA⟩ : ∃ bA, bA = w4.heap.size := ⟨_, rfl⟩
              rw [← hbA] at HCV ⊢
              clear hV hbA hbV
              refine' wpUp_one (i := 18) (by kernel_rfl) rfl rfl (fun w5 u5 c5 K5 hK5 => ?g12)
              case' g12 =>
                replace HBc : Below w8.heap.size w8 w5 := gr_trans HBc u5
                replace HCV := HCV.keep u5
                have HQ := FY8.keep HBc
                have q3 := HQ.cell (j := 3) rfl
                have zq := HQ.lt
                go_simp
                refine hK5 _ _ c5 ?_
                clear HQ q3 zq
                refine wpUp_one (i := 33) (by kernel_rfl) rfl rfl (fun w6 u6 c6 K6 hK6 => ?_)
                replace HBc : Below w8.heap.size w8 w6 := gr_trans HBc u6
                replace HCV := HCV.keep u6
                have Hv7 := own_keep hown8 HBc
                have Hu7 := own_keep O28 HBc
                have X7 := FX8.keep HBc
                have Y7 := FY8.keep HBc
                have S7 := S18.keep HBc
                have d0 := HCV.cell (j := 0) rfl
                have d1 := HCV.cell (j := 1) rfl
                refine wp_append_at _ _ _ _ (by rfl) 106 (by rfl) base 24 i0 _ 2 16 Tryd.underlying25 hi hy0 hy1 hy2 rfl (by omega) u t _ (by rfl) Hu7 ⟨bA, 0, none⟩ 1 1 [vi p.2, vi p.2] (by rfl) (by rfl) (two_cells d0 d1) (by intro u hu; simp at hu; rcases hu with rfl | rfl <;> rfl) (by unfold maxLen; omega) (by omega) (by have := c6.2.2; omega) ?_
                intro z5 w9 hown9 hgrow hfr
                have hlt7 := fun j e => (Hu7.lt j e).1
                have F19 : CellsBox w9 w.heap.size 28 f.cells := (hgrow.block _ c6.1.lt (fun e => by have := hlt7 _ e.symm; omega)).trans c6.1
                have X9 : CellsBox w9 bx 28 [.slice f.fA f.far.length f.fC, vi f.slo, vi f.slo, v, vi f.carry, .slice f.sA f.slips.length f.sC] := (hgrow.block _ X7.lt (fun e => by have := hlt7 _ e.symm; omega)).trans X7
                have Y9 : CellsBox w9 by_ 28 [.slice f.fA f.far.length f.fC, vi f.shi, vi f.shi, u, vi f.carry, .slice f.sA f.slips.length f.sC] := (hgrow.block _ Y7.lt (fun e => by have := hlt7 _ e.symm; omega)).trans Y7
                have S19 : CellsBox w9 b6 24 [vi a, vi b] := (hgrow.block _ S7.lt (fun e => by have := hlt7 _ e.symm; omega)).trans S7
                have O19 := Hv7.kept hgrow (own_ne (fun g e e2 => NE8 g e2 e))
                have B9 : Below w.heap.size w w9 := Below.grown c6.2.1 hgrow c6.2.1.size (fun j e => by have := hlt7 j e; omega)
                have S9 : base ≤ w9.heap.size := by have := hgrow.size; have := c6.2.2; omega
                have NE9 : ∀ g, z5.ownBlock = some g → v5.ownBlock ≠ some g := own_apart (fun g e e2 => NE8 g e2 e) hfr (fun g e => (Hv7.lt g e).2)
                simp only [List.setIfInBounds_toArray, List.set_cons_zero, List.set_cons_succ]
                refine hK6 _ _ ⟨F19, B9, S9⟩ ?_
                clear HBc HCV hgrow hfr hlt7 X7 Y7 S7 d0 d1 Hv7 Hu7 FX8 FY8 S18 O28 hown8 NE8 F18 B8 S8
                refine wpUp_one (i := 35) (by kernel_rfl) rfl rfl (fun wp up cp Kp hKp => ?_)
                obtain ⟨A5, c5, rfl, -, -⟩ := own_form O19
                obtain ⟨A6, c6, rfl, -, -⟩ := own_form hown9
                have XA := X9.keep up
                have YA := Y9.keep up
                have SA := S19.keep up
                have OA := own_keep O19 up
                have UA := own_keep hown9 up
                have x3 := XA.cell (j := 3) rfl
                have qx := XA.frozen 3
                have zx := XA.lt
                go_simp
                have XA2 := XA.store 3 (.slice A5 (t + 1) c5)
                have YA2 := YA.apart ⟨bx, 3, none⟩ (.slice A5 (t + 1) c5) (by simp only; omega)
                have SA2 := SA.apart ⟨bx, 3, none⟩ (.slice A5 (t + 1) c5) (by simp only; omega)
                have FA2 := cp.1.apart ⟨bx, 3, none⟩ (.slice A5 (t + 1) c5) (by simp only; omega)
                have BA2 := cp.2.1.setCell (p := ⟨bx, 3, none⟩) (by simp only; omega) (.slice A5 (t + 1) c5)
                have OA2 := own_beside OA (p := ⟨bx, 3, none⟩) (by simp only; omega) (.slice A5 (t + 1) c5)
                have UA2 := own_beside UA (p := ⟨bx, 3, none⟩) (by simp only; omega) (.slice A5 (t + 1) c5)
                have ZA2 : base ≤ (wp.setCell ⟨bx, 3, none⟩ (.slice A5 (t + 1) c5)).heap.size := by have := cp.2.2; simpa using this
                refine hKp _ _ ⟨FA2, BA2, ZA2⟩ ?_
                clear x3 qx zx XA YA SA OA UA up X9 Y9 S19 O19 hown9 F19 B9 S9
                refine wpUp_one (i := 36) (by kernel_rfl) rfl rfl (fun wq uq cq Kq hKq => ?_)
                go_simp
                refine hKq _ _ cq ?_
                refine wpUp_one (i := 37) (by kernel_rfl) rfl rfl (fun ws us cs Ks hKs => ?_)
                have hk2 := gr_trans uq us
                have XB := XA2.keep hk2
                have YB := YA2.keep hk2
                have SB := SA2.keep hk2
                have OB := own_keep OA2 hk2
                have UB := own_keep UA2 hk2
                have x3 := YB.cell (j := 3) rfl
                have qx := YB.frozen 3
                have zx := YB.lt
                go_simp
                have XB2 := XB.apart ⟨by_, 3, none⟩ (.slice A6 (t + 1) c6) (by simp only; omega)
                have YB2 := YB.store 3 (.slice A6 (t + 1) c6)
                have SB2 := SB.apart ⟨by_, 3, none⟩ (.slice A6 (t + 1) c6) (by simp only; omega)
                have FB2 := cs.1.apart ⟨by_, 3, none⟩ (.slice A6 (t + 1) c6) (by simp only; omega)
                have BB2 := cs.2.1.setCell (p := ⟨by_, 3, none⟩) (by simp only; omega) (.slice A6 (t + 1) c6)
                have OB2 := own_beside OB (p := ⟨by_, 3, none⟩) (by simp only; omega) (.slice A6 (t + 1) c6)
                have UB2 := own_beside UB (p := ⟨by_, 3, none⟩) (by simp only; omega) (.slice A6 (t + 1) c6)
                have ZB2 : base ≤ (ws.setCell ⟨by_, 3, none⟩ (.slice A6 (t + 1) c6)).heap.size := by have := cs.2.2; simpa using this
                refine hKs _ _ ⟨FB2, BB2, ZB2⟩ (wpUp_done (by kernel_rfl) (fun W8 g1 g2 => NoPanic.normal ?_))
                have X9 := Lib.hid (XB2.keep g1)
                have Y9 := Lib.hid (YB2.keep g1)
                have S9 := Lib.hid (SB2.keep g1)
                have O9 := Lib.hid (own_keep OB2 g1)
                have U9 := Lib.hid (own_keep UB2 g1)
                have F9 := Lib.hid g2.1
                have B9 := g2.2.1
                have Z9 := g2.2.2
                have N9 : Hid (∀ g, (Value.slice A5 (t + 1) c5).ownBlock = some g → (Value.slice A6 (t + 1) c6).ownBlock ≠ some g) := fun g e e2 => NE9 g e2 e
                clear hKp hKq hKs uq us hk2 x3 qx zx XA2 YA2 SA2 FA2 BA2 OA2 UA2 ZA2 XB YB SB OB UB XB2 YB2 SB2 FB2 BB2 OB2 UB2 ZB2 g1 g2 NE9 cp cq cs HXB HYB HS1 HX HO1 HO2 HNE
                go_wp2_with fail
                go_roundw
                case rel => exact ⟨t + 1, .slice A5 (t + 1) c5, .slice A6 (t + 1) c6, by omega, by go_num, B9, Z9, X9, Y9, S9, F9, by unfold Hid; rw [HT1.out]; exact O9.out, by unfold Hid; rw [HT2.out]; exact U9.out, N9⟩
                case measure => simp [intOf]; omega
        case' g7 =>
          replace HBc : Below wr.heap.size wr w3 := gr_trans HBc u3
          replace HCV := HCV.keep u3
          have HQ := HYB.out.keep HBc
          have q3 := HQ.cell (j := 3) rfl
          have zq := HQ.lt
          go_simp
          refine hK3 _ _ c3 ?_
          clear HQ q3 zq
          refine' wpUp_one (i := 16) (by kernel_rfl) rfl rfl (fun w4 u4 c4 K4 hK4 => ?g13)
          case' g13 =>
            replace HBc : Below wr.heap.size wr w4 := gr_trans HBc u4
            replace HCV := HCV.keep u4
            have hown7 := own_keep HO1.out HBc
            have hown6 := own_keep HO2.out HBc
            have X7 := HXB.out.keep HBc
            have Y7 := HYB.out.keep HBc
            have S7 := HS1.out.keep HBc
            have d0 := HCV.cell (j := 0) rfl
            have d1 := HCV.cell (j := 1) rfl
            refine wp_append_at _ _ _ _ (by rfl) 89 (by rfl) base 24 i0 _ 2 16 Tryd.underlying25 hi hy0 hy1 hy2 rfl (by omega) v t _ (by rfl) hown7 ⟨bA, 0, none⟩ 1 1 [vi p.1, vi p.1] (by rfl) (by rfl) (two_cells d0 d1) (by intro u hu; simp at hu; rcases hu with rfl | rfl <;> rfl) (by unfold maxLen; omega) (by omega) (by have := c4.2.2; omega) ?_
            intro v5 w8 hown8 hgrow hfr
            have hlt7 := fun j e => (hown7.lt j e).1
            have F18 : CellsBox w8 w.heap.size 28 f.cells := (hgrow.block _ c4.1.lt (fun e => by have := hlt7 _ e.symm; omega)).trans c4.1
            have FX8 : CellsBox w8 bx 28 [.slice f.fA f.far.length f.fC, vi f.slo, vi f.slo, v, vi f.carry, .slice f.sA f.slips.length f.sC] := (hgrow.block _ X7.lt (fun e => by have := hlt7 _ e.symm; omega)).trans X7
            have FY8 : CellsBox w8 by_ 28 [.slice f.fA f.far.length f.fC, vi f.shi, vi f.shi, u, vi f.carry, .slice f.sA f.slips.length f.sC] := (hgrow.block _ Y7.lt (fun e => by have := hlt7 _ e.symm; omega)).trans Y7
            have S18 : CellsBox w8 b6 24 [vi a, vi b] := (hgrow.block _ S7.lt (fun e => by have := hlt7 _ e.symm; omega)).trans S7
            have O28 : w8.ownsRow base 24 2 u t (flatS ((f.picks.take t).map (oneE true))) := hown6.kept hgrow (own_ne HNE.out)
            have B8 : Below w.heap.size w w8 := Below.grown c4.2.1 hgrow c4.2.1.size (fun j e => by have := hlt7 j e; omega)
            have S8 : base ≤ w8.heap.size := by have := hgrow.size; have := c4.2.2; omega
            have NE8 : ∀ g, v5.ownBlock = some g → u.ownBlock ≠ some g := own_apart HNE.out hfr (fun g e => (hown6.lt g e).2)
            simp only [List.setIfInBounds_toArray, List.set_cons_zero, List.set_cons_succ]
            refine hK4 _ _ ⟨F18, B8, S8⟩ ?_
            clear HBc HCV hgrow hfr hlt7 X7 Y7 S7 d0 d1 hown7 hown6
            have HBc := Below.refl w8.heap.size w8
            refine' wpUp_more hST [31, 34] 5 207 (by kernel_rfl) (by kernel_rfl) (by kernel_rfl) rfl (by kernel_rfl) rfl ?hla13 ⟨F18, B8, S8⟩ ?hqa13 ?hra13
            case hla13 =>
              simp only [List.map_cons, List.map_nil, List.getD_cons_zero, List.getD_cons_succ]
              exact rfl
            case hqa13 =>
              intro w0 hw0
              (repeat (go_big_quiet_step ((go_at_call 44; refine Calls.grow_of (to_any _ _ _)))))
              exact wpQuiet_nil rfl
            case' hra13 =>
              refine' wpUp_one (i := 32) (by kernel_rfl) rfl rfl (fun w5 u5 c5 K5 hK5 => ?g15)
              case' g15 =>
                replace HBc : Below w8.heap.size w8 w5 := gr_trans HBc u5
                go_simp
                obtain ⟨V5, hV⟩ : ∃ V, V = w5.alloc (.cells #[vi p.2, vi p.2] 24) := ⟨_, rfl⟩
                have hbV : Below w5.heap.size w5 V5 := by rw [hV]; exact below1 _ _
                have HCV : CellsBox V5 w5.heap.size 24 [vi p.2, vi p.2] := by rw [hV]; exact CellsBox.new w5 _ _
                rw [← hV]
                refine hK5 _ _ (hST _ _ c5 hbV) ?_
                replace HBc := gr_trans HBc hbV
                obtain ⟨bA, hbA⟩ : ∃ bA, bA = w5.heap.size := ⟨_, rfl⟩
                rw [← hbA] at HCV ⊢
                clear hV hbA hbV
                refine wpUp_one (i := 33) (by kernel_rfl) rfl rfl (fun w6 u6 c6 K6 hK6 => ?_)
                replace HBc : Below w8.heap.size w8 w6 := gr_trans HBc u6
                replace HCV := HCV.keep u6
                have Hv7 := own_keep hown8 HBc
                have Hu7 := own_keep O28 HBc
                have X7 := FX8.keep HBc
                have Y7 := FY8.keep HBc
                have S7 := S18.keep HBc
                have d0 := HCV.cell (j := 0) rfl
                have d1 := HCV.cell (j := 1) rfl
                refine wp_append_at _ _ _ _ (by rfl) 106 (by rfl) base 24 i0 _ 2 16 Tryd.underlying25 hi hy0 hy1 hy2 rfl (by omega) u t _ (by rfl) Hu7 ⟨bA, 0, none⟩ 1 1 [vi p.2, vi p.2] (by rfl) (by rfl) (two_cells d0 d1) (by intro u hu; simp at hu; rcases hu with rfl | rfl <;> rfl) (by unfold maxLen; omega) (by omega) (by have := c6.2.2; omega) ?_
                intro z5 w9 hown9 hgrow hfr
                have hlt7 := fun j e => (Hu7.lt j e).1
                have F19 : CellsBox w9 w.heap.size 28 f.cells := (hgrow.block _ c6.1.lt (fun e => by have := hlt7 _ e.symm; omega)).trans c6.1
                have X9 : CellsBox w9 bx 28 [.slice f.fA f.far.length f.fC, vi f.slo, vi f.slo, v, vi f.carry, .slice f.sA f.slips.length f.sC] := (hgrow.block _ X7.lt (fun e => by have := hlt7 _ e.symm; omega)).trans X7
                have Y9 : CellsBox w9 by_ 28 [.slice f.fA f.far.length f.fC, vi f.shi, vi f.shi, u, vi f.carry, .slice f.sA f.slips.length f.sC] := (hgrow.block _ Y7.lt (fun e => by have := hlt7 _ e.symm; omega)).trans Y7
                have S19 : CellsBox w9 b6 24 [vi a, vi b] := (hgrow.block _ S7.lt (fun e => by have := hlt7 _ e.symm; omega)).trans S7
                have O19 := Hv7.kept hgrow (own_ne (fun g e e2 => NE8 g e2 e))
                have B9 : Below w.heap.size w w9 := Below.grown c6.2.1 hgrow c6.2.1.size (fun j e => by have := hlt7 j e; omega)
                have S9 : base ≤ w9.heap.size := by have := hgrow.size; have := c6.2.2; omega
                have NE9 : ∀ g, z5.ownBlock = some g → v5.ownBlock ≠ some g := own_apart (fun g e e2 => NE8 g e2 e) hfr (fun g e => (Hv7.lt g e).2)
                simp only [List.setIfInBounds_toArray, List.set_cons_zero, List.set_cons_succ]
                refine hK6 _ _ ⟨F19, B9, S9⟩ ?_
                clear HBc HCV hgrow hfr hlt7 X7 Y7 S7 d0 d1 Hv7 Hu7 FX8 FY8 S18 O28 hown8 NE8 F18 B8 S8
                refine wpUp_one (i := 35) (by kernel_rfl) rfl rfl (fun wp up cp Kp hKp => ?_)
                obtain ⟨A5, c5, rfl, -, -⟩ := own_form O19
                obtain ⟨A6, c6, rfl, -, -⟩ := own_form hown9
                have XA := X9.keep up
                have YA := Y9.keep up
                have SA := S19.keep up
                have OA := own_keep O19 up
                have UA := own_keep hown9 up
                have x3 := XA.cell (j := 3) rfl
                have qx := XA.frozen 3
                have zx := XA.lt
                go_simp
                have XA2 := XA.store 3 (.slice A5 (t + 1) c5)
                have YA2 := YA.apart ⟨bx, 3, none⟩ (.slice A5 (t + 1) c5) (by simp only; omega)
                have SA2 := SA.apart ⟨bx, 3, none⟩ (.slice A5 (t + 1) c5) (by simp only; omega)
                have FA2 := cp.1.apart ⟨bx, 3, none⟩ (.slice A5 (t + 1) c5) (by simp only; omega)
                have BA2 := cp.2.1.setCell (p := ⟨bx, 3, none⟩) (by simp only; omega) (.slice A5 (t + 1) c5)
                have OA2 := own_beside OA (p := ⟨bx, 3, none⟩) (by simp only; omega) (.slice A5 (t + 1) c5)
                have UA2 := own_beside UA (p := ⟨bx, 3, none⟩) (by simp only; omega) (.slice A5 (t + 1) c5)
                have ZA2 : base ≤ (wp.setCell ⟨bx, 3, none⟩ (.slice A5 (t + 1) c5)).heap.size := by have := cp.2.2; simpa using this
                refine hKp _ _ ⟨FA2, BA2, ZA2⟩ ?_
                clear x3 qx zx XA YA SA OA UA up X9 Y9 S19 O19 hown9 F19 B9 S9
                refine wpUp_one (i := 36) (by kernel_rfl) rfl rfl (fun wq uq cq Kq hKq => ?_)
                go_simp
                refine hKq _ _ cq ?_
                refine wpUp_one (i := 37) (by kernel_rfl) rfl rfl (fun ws us cs Ks hKs => ?_)
                have hk2 := gr_trans uq us
                have XB := XA2.keep hk2
                have YB := YA2.keep hk2
                have SB := SA2.keep hk2
                have OB := own_keep OA2 hk2
                have UB := own_keep UA2 hk2
                have x3 := YB.cell (j := 3) rfl
                have qx := YB.frozen 3
                have zx := YB.lt
                go_simp
                have XB2 := XB.apart ⟨by_, 3, none⟩ (.slice A6 (t + 1) c6) (by simp only; omega)
                have YB2 := YB.store 3 (.slice A6 (t + 1) c6)
                have SB2 := SB.apart ⟨by_, 3, none⟩ (.slice A6 (t + 1) c6) (by simp only; omega)
                have FB2 := cs.1.apart ⟨by_, 3, none⟩ (.slice A6 (t + 1) c6) (by simp only; omega)
                have BB2 := cs.2.1.setCell (p := ⟨by_, 3, none⟩) (by simp only; omega) (.slice A6 (t + 1) c6)
                have OB2 := own_beside OB (p := ⟨by_, 3, none⟩) (by simp only; omega) (.slice A6 (t + 1) c6)
                have UB2 := own_beside UB (p := ⟨by_, 3, none⟩) (by simp only; omega) (.slice A6 (t + 1) c6)
                have ZB2 : base ≤ (ws.setCell ⟨by_, 3, none⟩ (.slice A6 (t + 1) c6)).heap.size := by have := cs.2.2; simpa using this
                refine hKs _ _ ⟨FB2, BB2, ZB2⟩ (wpUp_done (by kernel_rfl) (fun W8 g1 g2 => NoPanic.normal ?_))
                have X9 := Lib.hid (XB2.keep g1)
                have Y9 := Lib.hid (YB2.keep g1)
                have S9 := Lib.hid (SB2.keep g1)
                have O9 := Lib.hid (own_keep OB2 g1)
                have U9 := Lib.hid (own_keep UB2 g1)
                have F9 := Lib.hid g2.1
                have B9 := g2.2.1
                have Z9 := g2.2.2
                have N9 : Hid (∀ g, (Value.slice A5 (t + 1) c5).ownBlock = some g → (Value.slice A6 (t + 1) c6).ownBlock ≠ some g) := fun g e e2 => NE9 g e2 e
                clear hKp hKq hKs uq us hk2 x3 qx zx XA2 YA2 SA2 FA2 BA2 OA2 UA2 ZA2 XB YB SB OB UB XB2 YB2 SB2 FB2 BB2 OB2 UB2 ZB2 g1 g2 NE9 cp cq cs HXB HYB HS1 HX HO1 HO2 HNE
                go_wp2_with fail
                go_roundw
                case rel => exact ⟨t + 1, .slice A5 (t + 1) c5, .slice A6 (t + 1) c6, by omega, by go_num, B9, Z9, X9, Y9, S9, F9, by unfold Hid; rw [HT1.out]; exact O9.out, by unfold Hid; rw [HT2.out]; exact U9.out, N9⟩
                case measure => simp [intOf]; omega
      case' g5 =>
        replace HBc : Below wr.heap.size wr w2 := gr_trans HBc u2
        have HQ := HYB.out.keep HBc
        have q3 := HQ.cell (j := 3) rfl
        have zq := HQ.lt
        go_simp
        refine hK2 _ _ c2 ?_
        clear HQ q3 zq
        refine' wpUp_one (i := 15) (by kernel_rfl) rfl rfl (fun w3 u3 c3 K3 hK3 => ?g16)
        case' g16 =>
          replace HBc : Below wr.heap.size wr w3 := gr_trans HBc u3
          go_simp
          obtain ⟨V3, hV⟩ : ∃ V, V = w3.alloc (.cells #[vi p.1, vi p.1] 24) := ⟨_, rfl⟩
          have hbV : Below w3.heap.size w3 V3 := by rw [hV]; exact below1 _ _
          have HCV : CellsBox V3 w3.heap.size 24 [vi p.1, vi p.1] := by rw [hV]; exact CellsBox.new w3 _ _
          rw [← hV]
          refine hK3 _ _ (hST _ _ c3 hbV) ?_
          replace HBc := gr_trans HBc hbV
          obtain ⟨bA, hbA⟩ : ∃ bA, bA = w3.heap.size := ⟨_, rfl⟩
          rw [← hbA] at HCV ⊢
          clear hV hbA hbV
          refine' wpUp_one (i := 16) (by kernel_rfl) rfl rfl (fun w4 u4 c4 K4 hK4 => ?g17)
          case' g17 =>
            replace HBc : Below wr.heap.size wr w4 := gr_trans HBc u4
            replace HCV := HCV.keep u4
            have hown7 := own_keep HO1.out HBc
            have hown6 := own_keep HO2.out HBc
            have X7 := HXB.out.keep HBc
            have Y7 := HYB.out.keep HBc
            have S7 := HS1.out.keep HBc
            have d0 := HCV.cell (j := 0) rfl
            have d1 := HCV.cell (j := 1) rfl
            refine wp_append_at _ _ _ _ (by rfl) 89 (by rfl) base 24 i0 _ 2 16 Tryd.underlying25 hi hy0 hy1 hy2 rfl (by omega) v t _ (by rfl) hown7 ⟨bA, 0, none⟩ 1 1 [vi p.1, vi p.1] (by rfl) (by rfl) (two_cells d0 d1) (by intro u hu; simp at hu; rcases hu with rfl | rfl <;> rfl) (by unfold maxLen; omega) (by omega) (by have := c4.2.2; omega) ?_
            intro v5 w8 hown8 hgrow hfr
            have hlt7 := fun j e => (hown7.lt j e).1
            have F18 : CellsBox w8 w.heap.size 28 f.cells := (hgrow.block _ c4.1.lt (fun e => by have := hlt7 _ e.symm; omega)).trans c4.1
            have FX8 : CellsBox w8 bx 28 [.slice f.fA f.far.length f.fC, vi f.slo, vi f.slo, v, vi f.carry, .slice f.sA f.slips.length f.sC] := (hgrow.block _ X7.lt (fun e => by have := hlt7 _ e.symm; omega)).trans X7
            have FY8 : CellsBox w8 by_ 28 [.slice f.fA f.far.length f.fC, vi f.shi, vi f.shi, u, vi f.carry, .slice f.sA f.slips.length f.sC] := (hgrow.block _ Y7.lt (fun e => by have := hlt7 _ e.symm; omega)).trans Y7
            have S18 : CellsBox w8 b6 24 [vi a, vi b] := (hgrow.block _ S7.lt (fun e => by have := hlt7 _ e.symm; omega)).trans S7
            have O28 : w8.ownsRow base 24 2 u t (flatS ((f.picks.take t).map (oneE true))) := hown6.kept hgrow (own_ne HNE.out)
            have B8 : Below w.heap.size w w8 := Below.grown c4.2.1 hgrow c4.2.1.size (fun j e => by have := hlt7 j e; omega)
            have S8 : base ≤ w8.heap.size := by have := hgrow.size; have := c4.2.2; omega
            have NE8 : ∀ g, v5.ownBlock = some g → u.ownBlock ≠ some g := own_apart HNE.out hfr (fun g e => (hown6.lt g e).2)
            simp only [List.setIfInBounds_toArray, List.set_cons_zero, List.set_cons_succ]
            refine hK4 _ _ ⟨F18, B8, S8⟩ ?_
            clear HBc HCV hgrow hfr hlt7 X7 Y7 S7 d0 d1 hown7 hown6
            have HBc := Below.refl w8.heap.size w8
            refine' wpUp_more hST [31, 34] 5 207 (by kernel_rfl) (by kernel_rfl) (by kernel_rfl) rfl (by kernel_rfl) rfl ?hla17 ⟨F18, B8, S8⟩ ?hqa17 ?hra17
            case hla17 =>
              simp only [List.map_cons, List.map_nil, List.getD_cons_zero, List.getD_cons_succ]
              exact rfl
            case hqa17 =>
              intro w0 hw0
              (repeat (go_big_quiet_step ((go_at_call 44; refine Calls.grow_of (to_any _ _ _)))))
              exact wpQuiet_nil rfl
            case' hra17 =>
              refine' wpUp_one (i := 32) (by kernel_rfl) rfl rfl (fun w5 u5 c5 K5 hK5 => ?g19)
              case' g19 =>
                replace HBc : Below w8.heap.size w8 w5 := gr_trans HBc u5
                go_simp
                obtain ⟨V5, hV⟩ : ∃ V, V = w5.alloc (.cells #[vi p.2, vi p.2] 24) := ⟨_, rfl⟩
                have hbV : Below w5.heap.size w5 V5 := by rw [hV]; exact below1 _ _
                have HCV : CellsBox V5 w5.heap.size 24 [vi p.2, vi p.2] := by rw [hV]; exact CellsBox.new w5 _ _
                rw [← hV]
                refine hK5 _ _ (hST _ _ c5 hbV) ?_
                replace HBc := gr_trans HBc hbV
                obtain ⟨bA, hbA⟩ : ∃ bA, bA = w5.heap.size := ⟨_, rfl⟩
                rw [← hbA] at HCV ⊢
                clear hV hbA hbV
                refine wpUp_one (i := 33) (by kernel_rfl) rfl rfl (fun w6 u6 c6 K6 hK6 => ?_)
                replace HBc : Below w8.heap.size w8 w6 := gr_trans HBc u6
                replace HCV := HCV.keep u6
                have Hv7 := own_keep hown8 HBc
                have Hu7 := own_keep O28 HBc
                have X7 := FX8.keep HBc
                have Y7 := FY8.keep HBc
                have S7 := S18.keep HBc
                have d0 := HCV.cell (j := 0) rfl
                have d1 := HCV.cell (j := 1) rfl
                refine wp_append_at _ _ _ _ (by rfl) 106 (by rfl) base 24 i0 _ 2 16 Tryd.underlying25 hi hy0 hy1 hy2 rfl (by omega) u t _ (by rfl) Hu7 ⟨bA, 0, none⟩ 1 1 [vi p.2, vi p.2] (by rfl) (by rfl) (two_cells d0 d1) (by intro u hu; simp at hu; rcases hu with rfl | rfl <;> rfl) (by unfold maxLen; omega) (by omega) (by have := c6.2.2; omega) ?_
                intro z5 w9 hown9 hgrow hfr
                have hlt7 := fun j e => (Hu7.lt j e).1
                have F19 : CellsBox w9 w.heap.size 28 f.cells := (hgrow.block _ c6.1.lt (fun e => by have := hlt7 _ e.symm; omega)).trans c6.1
                have X9 : CellsBox w9 bx 28 [.slice f.fA f.far.length f.fC, vi f.slo, vi f.slo, v, vi f.carry, .slice f.sA f.slips.length f.sC] := (hgrow.block _ X7.lt (fun e => by have := hlt7 _ e.symm; omega)).trans X7
                have Y9 : CellsBox w9 by_ 28 [.slice f.fA f.far.length f.fC, vi f.shi, vi f.shi, u, vi f.carry, .slice f.sA f.slips.length f.sC] := (hgrow.block _ Y7.lt (fun e => by have := hlt7 _ e.symm; omega)).trans Y7
                have S19 : CellsBox w9 b6 24 [vi a, vi b] := (hgrow.block _ S7.lt (fun e => by have := hlt7 _ e.symm; omega)).trans S7
                have O19 := Hv7.kept hgrow (own_ne (fun g e e2 => NE8 g e2 e))
                have B9 : Below w.heap.size w w9 := Below.grown c6.2.1 hgrow c6.2.1.size (fun j e => by have := hlt7 j e; omega)
                have S9 : base ≤ w9.heap.size := by have := hgrow.size; have := c6.2.2; omega
                have NE9 : ∀ g, z5.ownBlock = some g → v5.ownBlock ≠ some g := own_apart (fun g e e2 => NE8 g e2 e) hfr (fun g e => (Hv7.lt g e).2)
                simp only [List.setIfInBounds_toArray, List.set_cons_zero, List.set_cons_succ]
                refine hK6 _ _ ⟨F19, B9, S9⟩ ?_
                clear HBc HCV hgrow hfr hlt7 X7 Y7 S7 d0 d1 Hv7 Hu7 FX8 FY8 S18 O28 hown8 NE8 F18 B8 S8
                refine wpUp_one (i := 35) (by kernel_rfl) rfl rfl (fun wp up cp Kp hKp => ?_)
                obtain ⟨A5, c5, rfl, -, -⟩ := own_form O19
                obtain ⟨A6, c6, rfl, -, -⟩ := own_form hown9
                have XA := X9.keep up
                have YA := Y9.keep up
                have SA := S19.keep up
                have OA := own_keep O19 up
                have UA := own_keep hown9 up
                have x3 := XA.cell (j := 3) rfl
                have qx := XA.frozen 3
                have zx := XA.lt
                go_simp
                have XA2 := XA.store 3 (.slice A5 (t + 1) c5)
                have YA2 := YA.apart ⟨bx, 3, none⟩ (.slice A5 (t + 1) c5) (by simp only; omega)
                have SA2 := SA.apart ⟨bx, 3, none⟩ (.slice A5 (t + 1) c5) (by simp only; omega)
                have FA2 := cp.1.apart ⟨bx, 3, none⟩ (.slice A5 (t + 1) c5) (by simp only; omega)
                have BA2 := cp.2.1.setCell (p := ⟨bx, 3, none⟩) (by simp only; omega) (.slice A5 (t + 1) c5)
                have OA2 := own_beside OA (p := ⟨bx, 3, none⟩) (by simp only; omega) (.slice A5 (t + 1) c5)
                have UA2 := own_beside UA (p := ⟨bx, 3, none⟩) (by simp only; omega) (.slice A5 (t + 1) c5)
                have ZA2 : base ≤ (wp.setCell ⟨bx, 3, none⟩ (.slice A5 (t + 1) c5)).heap.size := by have := cp.2.2; simpa using this
                refine hKp _ _ ⟨FA2, BA2, ZA2⟩ ?_
                clear x3 qx zx XA YA SA OA UA up X9 Y9 S19 O19 hown9 F19 B9 S9
                refine wpUp_one (i := 36) (by kernel_rfl) rfl rfl (fun wq uq cq Kq hKq => ?_)
                go_simp
                refine hKq _ _ cq ?_
                refine wpUp_one (i := 37) (by kernel_rfl) rfl rfl (fun ws us cs Ks hKs => ?_)
                have hk2 := gr_trans uq us
                have XB := XA2.keep hk2
                have YB := YA2.keep hk2
                have SB := SA2.keep hk2
                have OB := own_keep OA2 hk2
                have UB := own_keep UA2 hk2
                have x3 := YB.cell (j := 3) rfl
                have qx := YB.frozen 3
                have zx := YB.lt
                go_simp
                have XB2 := XB.apart ⟨by_, 3, none⟩ (.slice A6 (t + 1) c6) (by simp only; omega)
                have YB2 := YB.store 3 (.slice A6 (t + 1) c6)
                have SB2 := SB.apart ⟨by_, 3, none⟩ (.slice A6 (t + 1) c6) (by simp only; omega)
                have FB2 := cs.1.apart ⟨by_, 3, none⟩ (.slice A6 (t + 1) c6) (by simp only; omega)
                have BB2 := cs.2.1.setCell (p := ⟨by_, 3, none⟩) (by simp only; omega) (.slice A6 (t + 1) c6)
                have OB2 := own_beside OB (p := ⟨by_, 3, none⟩) (by simp only; omega) (.slice A6 (t + 1) c6)
                have UB2 := own_beside UB (p := ⟨by_, 3, none⟩) (by simp only; omega) (.slice A6 (t + 1) c6)
                have ZB2 : base ≤ (ws.setCell ⟨by_, 3, none⟩ (.slice A6 (t + 1) c6)).heap.size := by have := cs.2.2; simpa using this
                refine hKs _ _ ⟨FB2, BB2, ZB2⟩ (wpUp_done (by kernel_rfl) (fun W8 g1 g2 => NoPanic.normal ?_))
                have X9 := Lib.hid (XB2.keep g1)
                have Y9 := Lib.hid (YB2.keep g1)
                have S9 := Lib.hid (SB2.keep g1)
                have O9 := Lib.hid (own_keep OB2 g1)
                have U9 := Lib.hid (own_keep UB2 g1)
                have F9 := Lib.hid g2.1
                have B9 := g2.2.1
                have Z9 := g2.2.2
                have N9 : Hid (∀ g, (Value.slice A5 (t + 1) c5).ownBlock = some g → (Value.slice A6 (t + 1) c6).ownBlock ≠ some g) := fun g e e2 => NE9 g e2 e
                clear hKp hKq hKs uq us hk2 x3 qx zx XA2 YA2 SA2 FA2 BA2 OA2 UA2 ZA2 XB YB SB OB UB XB2 YB2 SB2 FB2 BB2 OB2 UB2 ZB2 g1 g2 NE9 cp cq cs HXB HYB HS1 HX HO1 HO2 HNE
                go_wp2_with fail
                go_roundw
                case rel => exact ⟨t + 1, .slice A5 (t + 1) c5, .slice A6 (t + 1) c6, by omega, by go_num, B9, Z9, X9, Y9, S9, F9, by unfold Hid; rw [HT1.out]; exact O9.out, by unfold Hid; rw [HT2.out]; exact U9.out, N9⟩
                case measure => simp [intOf]; omega
    case' g2 =>
      replace HBc : Below wr.heap.size wr w1 := gr_trans HBc u1
      go_simp
      obtain ⟨V1, hV⟩ : ∃ V, V = w1.alloc (.cells #[vi p.1, vi p.1] 24) := ⟨_, rfl⟩
      have hbV : Below w1.heap.size w1 V1 := by rw [hV]; exact below1 _ _
      have HCV : CellsBox V1 w1.heap.size 24 [vi p.1, vi p.1] := by rw [hV]; exact CellsBox.new w1 _ _
      rw [← hV]
      refine hK1 _ _ (hST _ _ c1 hbV) ?_
      replace HBc := gr_trans HBc hbV
      obtain ⟨bA, hbA⟩ : ∃ bA, bA = w1.heap.size := ⟨_, rfl⟩
      rw [← hbA] at HCV ⊢
      clear hV hbA hbV
      refine' wpUp_two (i := 1) (j := 18) (by kernel_rfl) rfl rfl rfl rfl (fun w2 u2 c2 K2 hK2 => ?g20) (fun w2 u2 c2 K2 hK2 => ?g21)
      case' g20 =>
        replace HBc : Below wr.heap.size wr w2 := gr_trans HBc u2
        replace HCV := HCV.keep u2
        have HQ := HXB.out.keep HBc
        have q3 := HQ.cell (j := 3) rfl
        have zq := HQ.lt
        go_simp
        refine hK2 _ _ c2 ?_
        clear HQ q3 zq
        refine' wpUp_two (i := 16) (j := 18) (by kernel_rfl) rfl rfl rfl rfl (fun w3 u3 c3 K3 hK3 => ?g22) (fun w3 u3 c3 K3 hK3 => ?g23)
        case' g22 =>
          replace HBc : Below wr.heap.size wr w3 := gr_trans HBc u3
          replace HCV := HCV.keep u3
          have hown7 := own_keep HO1.out HBc
          have hown6 := own_keep HO2.out HBc
          have X7 := HXB.out.keep HBc
          have Y7 := HYB.out.keep HBc
          have S7 := HS1.out.keep HBc
          have d0 := HCV.cell (j := 0) rfl
          have d1 := HCV.cell (j := 1) rfl
          refine wp_append_at _ _ _ _ (by rfl) 89 (by rfl) base 24 i0 _ 2 16 Tryd.underlying25 hi hy0 hy1 hy2 rfl (by omega) v t _ (by rfl) hown7 ⟨bA, 0, none⟩ 1 1 [vi p.1, vi p.1] (by rfl) (by rfl) (two_cells d0 d1) (by intro u hu; simp at hu; rcases hu with rfl | rfl <;> rfl) (by unfold maxLen; omega) (by omega) (by have := c3.2.2; omega) ?_
          intro v5 w8 hown8 hgrow hfr
          have hlt7 := fun j e => (hown7.lt j e).1
          have F18 : CellsBox w8 w.heap.size 28 f.cells := (hgrow.block _ c3.1.lt (fun e => by have := hlt7 _ e.symm; omega)).trans c3.1
          have FX8 : CellsBox w8 bx 28 [.slice f.fA f.far.length f.fC, vi f.slo, vi f.slo, v, vi f.carry, .slice f.sA f.slips.length f.sC] := (hgrow.block _ X7.lt (fun e => by have := hlt7 _ e.symm; omega)).trans X7
          have FY8 : CellsBox w8 by_ 28 [.slice f.fA f.far.length f.fC, vi f.shi, vi f.shi, u, vi f.carry, .slice f.sA f.slips.length f.sC] := (hgrow.block _ Y7.lt (fun e => by have := hlt7 _ e.symm; omega)).trans Y7
          have S18 : CellsBox w8 b6 24 [vi a, vi b] := (hgrow.block _ S7.lt (fun e => by have := hlt7 _ e.symm; omega)).trans S7
          have O28 : w8.ownsRow base 24 2 u t (flatS ((f.picks.take t).map (oneE true))) := hown6.kept hgrow (own_ne HNE.out)
          have B8 : Below w.heap.size w w8 := Below.grown c3.2.1 hgrow c3.2.1.size (fun j e => by have := hlt7 j e; omega)
          have S8 : base ≤ w8.heap.size := by have := hgrow.size; have := c3.2.2; omega
          have NE8 : ∀ g, v5.ownBlock = some g → u.ownBlock ≠ some g := own_apart HNE.out hfr (fun g e => (hown6.lt g e).2)
          simp only [List.setIfInBounds_toArray, List.set_cons_zero, List.set_cons_succ]
          refine hK3 _ _ ⟨F18, B8, S8⟩ ?_
          clear HBc HCV hgrow hfr hlt7 X7 Y7 S7 d0 d1 hown7 hown6
          have HBc := Below.refl w8.heap.size w8
          refine' wpUp_more hST [31, 34] 6 207 (by kernel_rfl) (by kernel_rfl) (by kernel_rfl) rfl (by kernel_rfl) rfl ?hla23 ⟨F18, B8, S8⟩ ?hqa23 ?hra23
          case hla23 =>
            simp only [List.map_cons, List.map_nil, List.getD_cons_zero, List.getD_cons_succ]
            exact rfl
          case hqa23 =>
            intro w0 hw0
            (repeat (go_big_quiet_step ((go_at_call 44; refine Calls.grow_of (to_any _ _ _)))))
            exact wpQuiet_nil rfl
          case' hra23 =>
            refine' wpUp_two (i := 18) (j := 32) (by kernel_rfl) rfl rfl rfl rfl (fun w4 u4 c4 K4 hK4 => ?g25) (fun w4 u4 c4 K4 hK4 => ?g26)
            case' g25 =>
              replace HBc : Below w8.heap.size w8 w4 := gr_trans HBc u4
              have HQ := FY8.keep HBc
              have q3 := HQ.cell (j := 3) rfl
              have zq := HQ.lt
              go_simp
              refine hK4 _ _ c4 ?_
              clear HQ q3 zq
              refine' wpUp_one (i := 32) (by kernel_rfl) rfl rfl (fun w5 u5 c5 K5 hK5 => ?g27)
              case' g27 =>
                replace HBc : Below w8.heap.size w8 w5 := gr_trans HBc u5
                go_simp
                obtain ⟨V5, hV⟩ : ∃ V, V = w5.alloc (.cells #[vi p.2, vi p.2] 24) := ⟨_, rfl⟩
                have hbV : Below w5.heap.size w5 V5 := by rw [hV]; exact below1 _ _
                have HCV : CellsBox V5 w5.heap.size 24 [vi p.2, vi p.2] := by rw [hV]; exact CellsBox.new w5 _ _
                rw [← hV]
                refine hK5 _ _ (hST _ _ c5 hbV) ?_
                replace HBc := gr_trans HBc hbV
                obtain ⟨bA, hbA⟩ : ∃ bA, bA = w5.heap.size := ⟨_, rfl⟩
                rw [← hbA] at HCV ⊢
                clear hV hbA hbV
                refine wpUp_one (i := 33) (by kernel_rfl) rfl rfl (fun w6 u6 c6 K6 hK6 => ?_)
                replace HBc : Below w8.heap.size w8 w6 := gr_trans HBc u6
                replace HCV := HCV.keep u6
                have Hv7 := own_keep hown8 HBc
                have Hu7 := own_keep O28 HBc
                have X7 := FX8.keep HBc
                have Y7 := FY8.keep HBc
                have S7 := S18.keep HBc
                have d0 := HCV.cell (j := 0) rfl
                have d1 := HCV.cell (j := 1) rfl
                refine wp_append_at _ _ _ _ (by rfl) 106 (by rfl) base 24 i0 _ 2 16 Tryd.underlying25 hi hy0 hy1 hy2 rfl (by omega) u t _ (by rfl) Hu7 ⟨bA, 0, none⟩ 1 1 [vi p.2, vi p.2] (by rfl) (by rfl) (two_cells d0 d1) (by intro u hu; simp at hu; rcases hu with rfl | rfl <;> rfl) (by unfold maxLen; omega) (by omega) (by have := c6.2.2; omega) ?_
                intro z5 w9 hown9 hgrow hfr
                have hlt7 := fun j e => (Hu7.lt j e).1
                have F19 : CellsBox w9 w.heap.size 28 f.cells := (hgrow.block _ c6.1.lt (fun e => by have := hlt7 _ e.symm; omega)).trans c6.1
                have X9 : CellsBox w9 bx 28 [.slice f.fA f.far.length f.fC, vi f.slo, vi f.slo, v, vi f.carry, .slice f.sA f.slips.length f.sC] := (hgrow.block _ X7.lt (fun e => by have := hlt7 _ e.symm; omega)).trans X7
                have Y9 : CellsBox w9 by_ 28 [.slice f.fA f.far.length f.fC, vi f.shi, vi f.shi, u, vi f.carry, .slice f.sA f.slips.length f.sC] := (hgrow.block _ Y7.lt (fun e => by have := hlt7 _ e.symm; omega)).trans Y7
                have S19 : CellsBox w9 b6 24 [vi a, vi b] := (hgrow.block _ S7.lt (fun e => by have := hlt7 _ e.symm; omega)).trans S7
                have O19 := Hv7.kept hgrow (own_ne (fun g e e2 => NE8 g e2 e))
                have B9 : Below w.heap.size w w9 := Below.grown c6.2.1 hgrow c6.2.1.size (fun j e => by have := hlt7 j e; omega)
                have S9 : base ≤ w9.heap.size := by have := hgrow.size; have := c6.2.2; omega
                have NE9 : ∀ g, z5.ownBlock = some g → v5.ownBlock ≠ some g := own_apart (fun g e e2 => NE8 g e2 e) hfr (fun g e => (Hv7.lt g e).2)
                simp only [List.setIfInBounds_toArray, List.set_cons_zero, List.set_cons_succ]
                refine hK6 _ _ ⟨F19, B9, S9⟩ ?_
                clear HBc HCV hgrow hfr hlt7 X7 Y7 S7 d0 d1 Hv7 Hu7 FX8 FY8 S18 O28 hown8 NE8 F18 B8 S8
                refine wpUp_one (i := 35) (by kernel_rfl) rfl rfl (fun wp up cp Kp hKp => ?_)
                obtain ⟨A5, c5, rfl, -, -⟩ := own_form O19
                obtain ⟨A6, c6, rfl, -, -⟩ := own_form hown9
                have XA := X9.keep up
                have YA := Y9.keep up
                have SA := S19.keep up
                have OA := own_keep O19 up
                have UA := own_keep hown9 up
                have x3 := XA.cell (j := 3) rfl
                have qx := XA.frozen 3
                have zx := XA.lt
                go_simp
                have XA2 := XA.store 3 (.slice A5 (t + 1) c5)
                have YA2 := YA.apart ⟨bx, 3, none⟩ (.slice A5 (t + 1) c5) (by simp only; omega)
                have SA2 := SA.apart ⟨bx, 3, none⟩ (.slice A5 (t + 1) c5) (by simp only; omega)
                have FA2 := cp.1.apart ⟨bx, 3, none⟩ (.slice A5 (t + 1) c5) (by simp only; omega)
                have BA2 := cp.2.1.setCell (p := ⟨bx, 3, none⟩) (by simp only; omega) (.slice A5 (t + 1) c5)
                have OA2 := own_beside OA (p := ⟨bx, 3, none⟩) (by simp only; omega) (.slice A5 (t + 1) c5)
                have UA2 := own_beside UA (p := ⟨bx, 3, none⟩) (by simp only; omega) (.slice A5 (t + 1) c5)
                have ZA2 : base ≤ (wp.setCell ⟨bx, 3, none⟩ (.slice A5 (t + 1) c5)).heap.size := by have := cp.2.2; simpa using this
                refine hKp _ _ ⟨FA2, BA2, ZA2⟩ ?_
                clear x3 qx zx XA YA SA OA UA up X9 Y9 S19 O19 hown9 F19 B9 S9
                refine wpUp_one (i := 36) (by kernel_rfl) rfl rfl (fun wq uq cq Kq hKq => ?_)
                go_simp
                refine hKq _ _ cq ?_
                refine wpUp_one (i := 37) (by kernel_rfl) rfl rfl (fun ws us cs Ks hKs => ?_)
                have hk2 := gr_trans uq us
                have XB := XA2.keep hk2
                have YB := YA2.keep hk2
                have SB := SA2.keep hk2
                have OB := own_keep OA2 hk2
                have UB := own_keep UA2 hk2
                have x3 := YB.cell (j := 3) rfl
                have qx := YB.frozen 3
                have zx := YB.lt
                go_simp
                have XB2 := XB.apart ⟨by_, 3, none⟩ (.slice A6 (t + 1) c6) (by simp only; omega)
                have YB2 := YB.store 3 (.slice A6 (t + 1) c6)
                have SB2 := SB.apart ⟨by_, 3, none⟩ (.slice A6 (t + 1) c6) (by simp only; omega)
                have FB2 := cs.1.apart ⟨by_, 3, none⟩ (.slice A6 (t + 1) c6) (by simp only; omega)
                have BB2 := cs.2.1.setCell (p := ⟨by_, 3, none⟩) (by simp only; omega) (.slice A6 (t + 1) c6)
                have OB2 := own_beside OB (p := ⟨by_, 3, none⟩) (by simp only; omega) (.slice A6 (t + 1) c6)
                have UB2 := own_beside UB (p := ⟨by_, 3, none⟩) (by simp only; omega) (.slice A6 (t + 1) c6)
                have ZB2 : base ≤ (ws.setCell ⟨by_, 3, none⟩ (.slice A6 (t + 1) c6)).heap.size := by have := cs.2.2; simpa using this
                refine hKs _ _ ⟨FB2, BB2, ZB2⟩ (wpUp_done (by kernel_rfl) (fun W8 g1 g2 => NoPanic.normal ?_))
                have X9 := Lib.hid (XB2.keep g1)
                have Y9 := Lib.hid (YB2.keep g1)
                have S9 := Lib.hid (SB2.keep g1)
                have O9 := Lib.hid (own_keep OB2 g1)
                have U9 := Lib.hid (own_keep UB2 g1)
                have F9 := Lib.hid g2.1
                have B9 := g2.2.1
                have Z9 := g2.2.2
                have N9 : Hid (∀ g, (Value.slice A5 (t + 1) c5).ownBlock = some g → (Value.slice A6 (t + 1) c6).ownBlock ≠ some g) := fun g e e2 => NE9 g e2 e
                clear hKp hKq hKs uq us hk2 x3 qx zx XA2 YA2 SA2 FA2 BA2 OA2 UA2 ZA2 XB YB SB OB UB XB2 YB2 SB2 FB2 BB2 OB2 UB2 ZB2 g1 g2 NE9 cp cq cs HXB HYB HS1 HX HO1 HO2 HNE
                go_wp2_with fail
                go_roundw
                case rel => exact ⟨t + 1, .slice A5 (t + 1) c5, .slice A6 (t + 1) c6, by omega, by go_num, B9, Z9, X9, Y9, S9, F9, by unfold Hid; rw [HT1.out]; exact O9.out, by unfold Hid; rw [HT2.out]; exact U9.out, N9⟩
                case measure => simp [intOf]; omega
            case' g26 =>
              replace HBc : Below w8.heap.size w8 w4 := gr_trans HBc u4
              go_simp
              obtain ⟨V4, hV⟩ : ∃ V, V = w4.alloc (.cells #[vi p.2, vi p.2] 24) := ⟨_, rfl⟩
              have hbV : Below w4.heap.size w4 V4 := by rw [hV]; exact below1 _ _
              have HCV : CellsBox V4 w4.heap.size 24 [vi p.2, vi p.2] := by rw [hV]; exact CellsBox.new w4 _ _
              rw [← hV]
              refine hK4 _ _ (hST _ _ c4 hbV) ?_
              replace HBc := gr_trans HBc hbV
              obtain ⟨bA, hbA⟩ : ∃ bA, bA = w4.heap.size := ⟨_, rfl⟩
              rw [← hbA] at HCV ⊢
              clear hV hbA hbV
              refine' wpUp_one (i := 18) (by kernel_rfl) rfl rfl (fun w5 u5 c5 K5 hK5 => ?g28)
              case' g28 =>
                replace HBc : Below w8.heap.size w8 w5 := gr_trans HBc u5
                replace HCV := HCV.keep u5
                have HQ := FY8.keep HBc
                have q3 := HQ.cell (j := 3) rfl
                have zq := HQ.lt
                go_simp
                refine hK5 _ _ c5 ?_
                clear HQ q3 zq
                refine wpUp_one (i := 33) (by kernel_rfl) rfl rfl (fun w6 u6 c6 K6 hK6 => ?_)
                replace HBc : Below w8.heap.size w8 w6 := gr_trans HBc u6
                replace HCV := HCV.keep u6
                have Hv7 := own_keep hown8 HBc
                have Hu7 := own_keep O28 HBc
                have X7 := FX8.keep HBc
                have Y7 := FY8.keep HBc
                have S7 := S18.keep HBc
                have d0 := HCV.cell (j := 0) rfl
                have d1 := HCV.cell (j := 1) rfl
                refine wp_append_at _ _ _ _ (by rfl) 106 (by rfl) base 24 i0 _ 2 16 Tryd.underlying25 hi hy0 hy1 hy2 rfl (by omega) u t _ (by rfl) Hu7 ⟨bA, 0, none⟩ 1 1 [vi p.2, vi p.2] (by rfl) (by rfl) (two_cells d0 d1) (by intro u hu; simp at hu; rcases hu with rfl | rfl <;> rfl) (by unfold maxLen; omega) (by omega) (by have := c6.2.2; omega) ?_
                intro z5 w9 hown9 hgrow hfr
                have hlt7 := fun j e => (Hu7.lt j e).1
                have F19 : CellsBox w9 w.heap.size 28 f.cells := (hgrow.block _ c6.1.lt (fun e => by have := hlt7 _ e.symm; omega)).trans c6.1
                have X9 : CellsBox w9 bx 28 [.slice f.fA f.far.length f.fC, vi f.slo, vi f.slo, v, vi f.carry, .slice f.sA f.slips.length f.sC] := (hgrow.block _ X7.lt (fun e => by have := hlt7 _ e.symm; omega)).trans X7
                have Y9 : CellsBox w9 by_ 28 [.slice f.fA f.far.length f.fC, vi f.shi, vi f.shi, u, vi f.carry, .slice f.sA f.slips.length f.sC] := (hgrow.block _ Y7.lt (fun e => by have := hlt7 _ e.symm; omega)).trans Y7
                have S19 : CellsBox w9 b6 24 [vi a, vi b] := (hgrow.block _ S7.lt (fun e => by have := hlt7 _ e.symm; omega)).trans S7
                have O19 := Hv7.kept hgrow (own_ne (fun g e e2 => NE8 g e2 e))
                have B9 : Below w.heap.size w w9 := Below.grown c6.2.1 hgrow c6.2.1.size (fun j e => by have := hlt7 j e; omega)
                have S9 : base ≤ w9.heap.size := by have := hgrow.size; have := c6.2.2; omega
                have NE9 : ∀ g, z5.ownBlock = some g → v5.ownBlock ≠ some g := own_apart (fun g e e2 => NE8 g e2 e) hfr (fun g e => (Hv7.lt g e).2)
                simp only [List.setIfInBounds_toArray, List.set_cons_zero, List.set_cons_succ]
                refine hK6 _ _ ⟨F19, B9, S9⟩ ?_
                clear HBc HCV hgrow hfr hlt7 X7 Y7 S7 d0 d1 Hv7 Hu7 FX8 FY8 S18 O28 hown8 NE8 F18 B8 S8
                refine wpUp_one (i := 35) (by kernel_rfl) rfl rfl (fun wp up cp Kp hKp => ?_)
                obtain ⟨A5, c5, rfl, -, -⟩ := own_form O19
                obtain ⟨A6, c6, rfl, -, -⟩ := own_form hown9
                have XA := X9.keep up
                have YA := Y9.keep up
                have SA := S19.keep up
                have OA := own_keep O19 up
                have UA := own_keep hown9 up
                have x3 := XA.cell (j := 3) rfl
                have qx := XA.frozen 3
                have zx := XA.lt
                go_simp
                have XA2 := XA.store 3 (.slice A5 (t + 1) c5)
                have YA2 := YA.apart ⟨bx, 3, none⟩ (.slice A5 (t + 1) c5) (by simp only; omega)
                have SA2 := SA.apart ⟨bx, 3, none⟩ (.slice A5 (t + 1) c5) (by simp only; omega)
                have FA2 := cp.1.apart ⟨bx, 3, none⟩ (.slice A5 (t + 1) c5) (by simp only; omega)
                have BA2 := cp.2.1.setCell (p := ⟨bx, 3, none⟩) (by simp only; omega) (.slice A5 (t + 1) c5)
                have OA2 := own_beside OA (p := ⟨bx, 3, none⟩) (by simp only; omega) (.slice A5 (t + 1) c5)
                have UA2 := own_beside UA (p := ⟨bx, 3, none⟩) (by simp only; omega) (.slice A5 (t + 1) c5)
                have ZA2 : base ≤ (wp.setCell ⟨bx, 3, none⟩ (.slice A5 (t + 1) c5)).heap.size := by have := cp.2.2; simpa using this
                refine hKp _ _ ⟨FA2, BA2, ZA2⟩ ?_
                clear x3 qx zx XA YA SA OA UA up X9 Y9 S19 O19 hown9 F19 B9 S9
                refine wpUp_one (i := 36) (by kernel_rfl) rfl rfl (fun wq uq cq Kq hKq => ?_)
                go_simp
                refine hKq _ _ cq ?_
                refine wpUp_one (i := 37) (by kernel_rfl) rfl rfl (fun ws us cs Ks hKs => ?_)
                have hk2 := gr_trans uq us
                have XB := XA2.keep hk2
                have YB := YA2.keep hk2
                have SB := SA2.keep hk2
                have OB := own_keep OA2 hk2
                have UB := own_keep UA2 hk2
                have x3 := YB.cell (j := 3) rfl
                have qx := YB.frozen 3
                have zx := YB.lt
                go_simp
                have XB2 := XB.apart ⟨by_, 3, none⟩ (.slice A6 (t + 1) c6) (by simp only; omega)
                have YB2 := YB.store 3 (.slice A6 (t + 1) c6)
                have SB2 := SB.apart ⟨by_, 3, none⟩ (.slice A6 (t + 1) c6) (by simp only; omega)
                have FB2 := cs.1.apart ⟨by_, 3, none⟩ (.slice A6 (t + 1) c6) (by simp only; omega)
                have BB2 := cs.2.1.setCell (p := ⟨by_, 3, none⟩) (by simp only; omega) (.slice A6 (t + 1) c6)
                have OB2 := own_beside OB (p := ⟨by_, 3, none⟩) (by simp only; omega) (.slice A6 (t + 1) c6)
                have UB2 := own_beside UB (p := ⟨by_, 3, none⟩) (by simp only; omega) (.slice A6 (t + 1) c6)
                have ZB2 : base ≤ (ws.setCell ⟨by_, 3, none⟩ (.slice A6 (t + 1) c6)).heap.size := by have := cs.2.2; simpa using this
                refine hKs _ _ ⟨FB2, BB2, ZB2⟩ (wpUp_done (by kernel_rfl) (fun W8 g1 g2 => NoPanic.normal ?_))
                have X9 := Lib.hid (XB2.keep g1)
                have Y9 := Lib.hid (YB2.keep g1)
                have S9 := Lib.hid (SB2.keep g1)
                have O9 := Lib.hid (own_keep OB2 g1)
                have U9 := Lib.hid (own_keep UB2 g1)
                have F9 := Lib.hid g2.1
                have B9 := g2.2.1
                have Z9 := g2.2.2
                have N9 : Hid (∀ g, (Value.slice A5 (t + 1) c5).ownBlock = some g → (Value.slice A6 (t + 1) c6).ownBlock ≠ some g) := fun g e e2 => NE9 g e2 e
                clear hKp hKq hKs uq us hk2 x3 qx zx XA2 YA2 SA2 FA2 BA2 OA2 UA2 ZA2 XB YB SB OB UB XB2 YB2 SB2 FB2 BB2 OB2 UB2 ZB2 g1 g2 NE9 cp cq cs HXB HYB HS1 HX HO1 HO2 HNE
                go_wp2_with fail
                go_roundw
                case rel => exact ⟨t + 1, .slice A5 (t + 1) c5, .slice A6 (t + 1) c6, by omega, by go_num, B9, Z9, X9, Y9, S9, F9, by unfold Hid; rw [HT1.out]; exact O9.out, by unfold Hid; rw [HT2.out]; exact U9.out, N9⟩
                case measure => simp [intOf]; omega
        case' g23 =>
          replace HBc : Below wr.heap.size wr w3 := gr_trans HBc u3
          replace HCV := HCV.keep u3
          have HQ := HYB.out.keep HBc
          have q3 := HQ.cell (j := 3) rfl
          have zq := HQ.lt
          go_simp
          refine hK3 _ _ c3 ?_
          clear HQ q3 zq
          refine' wpUp_one (i := 16) (by kernel_rfl) rfl rfl (fun w4 u4 c4 K4 hK4 => ?g29)
          case' g29 =>
            replace HBc : Below wr.heap.size wr w4 := gr_trans HBc u4
            replace HCV := HCV.keep u4
            have hown7 := own_keep HO1.out HBc
            have hown6 := own_keep HO2.out HBc
            have X7 := HXB.out.keep HBc
            have Y7 := HYB.out.keep HBc
            have S7 := HS1.out.keep HBc
            have d0 := HCV.cell (j := 0) rfl
            have d1 := HCV.cell (j := 1) rfl
            refine wp_append_at _ _ _ _ (by rfl) 89 (by rfl) base 24 i0 _ 2 16 Tryd.underlying25 hi hy0 hy1 hy2 rfl (by omega) v t _ (by rfl) hown7 ⟨bA, 0, none⟩ 1 1 [vi p.1, vi p.1] (by rfl) (by rfl) (two_cells d0 d1) (by intro u hu; simp at hu; rcases hu with rfl | rfl <;> rfl) (by unfold maxLen; omega) (by omega) (by have := c4.2.2; omega) ?_
            intro v5 w8 hown8 hgrow hfr
            have hlt7 := fun j e => (hown7.lt j e).1
            have F18 : CellsBox w8 w.heap.size 28 f.cells := (hgrow.block _ c4.1.lt (fun e => by have := hlt7 _ e.symm; omega)).trans c4.1
            have FX8 : CellsBox w8 bx 28 [.slice f.fA f.far.length f.fC, vi f.slo, vi f.slo, v, vi f.carry, .slice f.sA f.slips.length f.sC] := (hgrow.block _ X7.lt (fun e => by have := hlt7 _ e.symm; omega)).trans X7
            have FY8 : CellsBox w8 by_ 28 [.slice f.fA f.far.length f.fC, vi f.shi, vi f.shi, u, vi f.carry, .slice f.sA f.slips.length f.sC] := (hgrow.block _ Y7.lt (fun e => by have := hlt7 _ e.symm; omega)).trans Y7
            have S18 : CellsBox w8 b6 24 [vi a, vi b] := (hgrow.block _ S7.lt (fun e => by have := hlt7 _ e.symm; omega)).trans S7
            have O28 : w8.ownsRow base 24 2 u t (flatS ((f.picks.take t).map (oneE true))) := hown6.kept hgrow (own_ne HNE.out)
            have B8 : Below w.heap.size w w8 := Below.grown c4.2.1 hgrow c4.2.1.size (fun j e => by have := hlt7 j e; omega)
            have S8 : base ≤ w8.heap.size := by have := hgrow.size; have := c4.2.2; omega
            have NE8 : ∀ g, v5.ownBlock = some g → u.ownBlock ≠ some g := own_apart HNE.out hfr (fun g e => (hown6.lt g e).2)
            simp only [List.setIfInBounds_toArray, List.set_cons_zero, List.set_cons_succ]
            refine hK4 _ _ ⟨F18, B8, S8⟩ ?_
            clear HBc HCV hgrow hfr hlt7 X7 Y7 S7 d0 d1 hown7 hown6
            have HBc := Below.refl w8.heap.size w8
            refine' wpUp_more hST [31, 34] 5 207 (by kernel_rfl) (by kernel_rfl) (by kernel_rfl) rfl (by kernel_rfl) rfl ?hla29 ⟨F18, B8, S8⟩ ?hqa29 ?hra29
            case hla29 =>
              simp only [List.map_cons, List.map_nil, List.getD_cons_zero, List.getD_cons_succ]
              exact rfl
            case hqa29 =>
              intro w0 hw0
              (repeat (go_big_quiet_step ((go_at_call 44; refine Calls.grow_of (to_any _ _ _)))))
              exact wpQuiet_nil rfl
            case' hra29 =>
              refine' wpUp_one (i := 32) (by kernel_rfl) rfl rfl (fun w5 u5 c5 K5 hK5 => ?g31)
              case' g31 =>
                replace HBc : Below w8.heap.size w8 w5 := gr_trans HBc u5
                go_simp
                obtain ⟨V5, hV⟩ : ∃ V, V = w5.alloc (.cells #[vi p.2, vi p.2] 24) := ⟨_, rfl⟩
                have hbV : Below w5.heap.size w5 V5 := by rw [hV]; exact below1 _ _
                have HCV : CellsBox V5 w5.heap.size 24 [vi p.2, vi p.2] := by rw [hV]; exact CellsBox.new w5 _ _
                rw [← hV]
                refine hK5 _ _ (hST _ _ c5 hbV) ?_
                replace HBc := gr_trans HBc hbV
                obtain ⟨bA, hbA⟩ : ∃ bA, bA = w5.heap.size := ⟨_, rfl⟩
                rw [← hbA] at HCV ⊢
                clear hV hbA hbV
                refine wpUp_one (i := 33) (by kernel_rfl) rfl rfl (fun w6 u6 c6 K6 hK6 => ?_)
                replace HBc : Below w8.heap.size w8 w6 := gr_trans HBc u6
                replace HCV := HCV.keep u6
                have Hv7 := own_keep hown8 HBc
                have Hu7 := own_keep O28 HBc
                have X7 := FX8.keep HBc
                have Y7 := FY8.keep HBc
                have S7 := S18.keep HBc
                have d0 := HCV.cell (j := 0) rfl
                have d1 := HCV.cell (j := 1) rfl
                refine wp_append_at _ _ _ _ (by rfl) 106 (by rfl) base 24 i0 _ 2 16 Tryd.underlying25 hi hy0 hy1 hy2 rfl (by omega) u t _ (by rfl) Hu7 ⟨bA, 0, none⟩ 1 1 [vi p.2, vi p.2] (by rfl) (by rfl) (two_cells d0 d1) (by intro u hu; simp at hu; rcases hu with rfl | rfl <;> rfl) (by unfold maxLen; omega) (by omega) (by have := c6.2.2; omega) ?_
                intro z5 w9 hown9 hgrow hfr
                have hlt7 := fun j e => (Hu7.lt j e).1
                have F19 : CellsBox w9 w.heap.size 28 f.cells := (hgrow.block _ c6.1.lt (fun e => by have := hlt7 _ e.symm; omega)).trans c6.1
                have X9 : CellsBox w9 bx 28 [.slice f.fA f.far.length f.fC, vi f.slo, vi f.slo, v, vi f.carry, .slice f.sA f.slips.length f.sC] := (hgrow.block _ X7.lt (fun e => by have := hlt7 _ e.symm; omega)).trans X7
                have Y9 : CellsBox w9 by_ 28 [.slice f.fA f.far.length f.fC, vi f.shi, vi f.shi, u, vi f.carry, .slice f.sA f.slips.length f.sC] := (hgrow.block _ Y7.lt (fun e => by have := hlt7 _ e.symm; omega)).trans Y7
                have S19 : CellsBox w9 b6 24 [vi a, vi b] := (hgrow.block _ S7.lt (fun e => by have := hlt7 _ e.symm; omega)).trans S7
                have O19 := Hv7.kept hgrow (own_ne (fun g e e2 => NE8 g e2 e))
                have B9 : Below w.heap.size w w9 := Below.grown c6.2.1 hgrow c6.2.1.size (fun j e => by have := hlt7 j e; omega)
                have S9 : base ≤ w9.heap.size := by have := hgrow.size; have := c6.2.2; omega
                have NE9 : ∀ g, z5.ownBlock = some g → v5.ownBlock ≠ some g := own_apart (fun g e e2 => NE8 g e2 e) hfr (fun g e => (Hv7.lt g e).2)
                simp only [List.setIfInBounds_toArray, List.set_cons_zero, List.set_cons_succ]
                refine hK6 _ _ ⟨F19, B9, S9⟩ ?_
                clear HBc HCV hgrow hfr hlt7 X7 Y7 S7 d0 d1 Hv7 Hu7 FX8 FY8 S18 O28 hown8 NE8 F18 B8 S8
                refine wpUp_one (i := 35) (by kernel_rfl) rfl rfl (fun wp up cp Kp hKp => ?_)
                obtain ⟨A5, c5, rfl, -, -⟩ := own_form O19
                obtain ⟨A6, c6, rfl, -, -⟩ := own_form hown9
                have XA := X9.keep up
                have YA := Y9.keep up
                have SA := S19.keep up
                have OA := own_keep O19 up
                have UA := own_keep hown9 up
                have x3 := XA.cell (j := 3) rfl
                have qx := XA.frozen 3
                have zx := XA.lt
                go_simp
                have XA2 := XA.store 3 (.slice A5 (t + 1) c5)
                have YA2 := YA.apart ⟨bx, 3, none⟩ (.slice A5 (t + 1) c5) (by simp only; omega)
                have SA2 := SA.apart ⟨bx, 3, none⟩ (.slice A5 (t + 1) c5) (by simp only; omega)
                have FA2 := cp.1.apart ⟨bx, 3, none⟩ (.slice A5 (t + 1) c5) (by simp only; omega)
                have BA2 := cp.2.1.setCell (p := ⟨bx, 3, none⟩) (by simp only; omega) (.slice A5 (t + 1) c5)
                have OA2 := own_beside OA (p := ⟨bx, 3, none⟩) (by simp only; omega) (.slice A5 (t + 1) c5)
                have UA2 := own_beside UA (p := ⟨bx, 3, none⟩) (by simp only; omega) (.slice A5 (t + 1) c5)
                have ZA2 : base ≤ (wp.setCell ⟨bx, 3, none⟩ (.slice A5 (t + 1) c5)).heap.size := by have := cp.2.2; simpa using this
                refine hKp _ _ ⟨FA2, BA2, ZA2⟩ ?_
                clear x3 qx zx XA YA SA OA UA up X9 Y9 S19 O19 hown9 F19 B9 S9
                refine wpUp_one (i := 36) (by kernel_rfl) rfl rfl (fun wq uq cq Kq hKq => ?_)
                go_simp
                refine hKq _ _ cq ?_
                refine wpUp_one (i := 37) (by kernel_rfl) rfl rfl (fun ws us cs Ks hKs => ?_)
                have hk2 := gr_trans uq us
                have XB := XA2.keep hk2
                have YB := YA2.keep hk2
                have SB := SA2.keep hk2
                have OB := own_keep OA2 hk2
                have UB := own_keep UA2 hk2
                have x3 := YB.cell (j := 3) rfl
                have qx := YB.frozen 3
                have zx := YB.lt
                go_simp
                have XB2 := XB.apart ⟨by_, 3, none⟩ (.slice A6 (t + 1) c6) (by simp only; omega)
                have YB2 := YB.store 3 (.slice A6 (t + 1) c6)
                have SB2 := SB.apart ⟨by_, 3, none⟩ (.slice A6 (t + 1) c6) (by simp only; omega)
                have FB2 := cs.1.apart ⟨by_, 3, none⟩ (.slice A6 (t + 1) c6) (by simp only; omega)
                have BB2 := cs.2.1.setCell (p := ⟨by_, 3, none⟩) (by simp only; omega) (.slice A6 (t + 1) c6)
                have OB2 := own_beside OB (p := ⟨by_, 3, none⟩) (by simp only; omega) (.slice A6 (t + 1) c6)
                have UB2 := own_beside UB (p := ⟨by_, 3, none⟩) (by simp only; omega) (.slice A6 (t + 1) c6)
                have ZB2 : base ≤ (ws.setCell ⟨by_, 3, none⟩ (.slice A6 (t + 1) c6)).heap.size := by have := cs.2.2; simpa using this
                refine hKs _ _ ⟨FB2, BB2, ZB2⟩ (wpUp_done (by kernel_rfl) (fun W8 g1 g2 => NoPanic.normal ?_))
                have X9 := Lib.hid (XB2.keep g1)
                have Y9 := Lib.hid (YB2.keep g1)
                have S9 := Lib.hid (SB2.keep g1)
                have O9 := Lib.hid (own_keep OB2 g1)
                have U9 := Lib.hid (own_keep UB2 g1)
                have F9 := Lib.hid g2.1
                have B9 := g2.2.1
                have Z9 := g2.2.2
                have N9 : Hid (∀ g, (Value.slice A5 (t + 1) c5).ownBlock = some g → (Value.slice A6 (t + 1) c6).ownBlock ≠ some g) := fun g e e2 => NE9 g e2 e
                clear hKp hKq hKs uq us hk2 x3 qx zx XA2 YA2 SA2 FA2 BA2 OA2 UA2 ZA2 XB YB SB OB UB XB2 YB2 SB2 FB2 BB2 OB2 UB2 ZB2 g1 g2 NE9 cp cq cs HXB HYB HS1 HX HO1 HO2 HNE
                go_wp2_with fail
                go_roundw
                case rel => exact ⟨t + 1, .slice A5 (t + 1) c5, .slice A6 (t + 1) c6, by omega, by go_num, B9, Z9, X9, Y9, S9, F9, by unfold Hid; rw [HT1.out]; exact O9.out, by unfold Hid; rw [HT2.out]; exact U9.out, N9⟩
                case measure => simp [intOf]; omega
      case' g21 =>
        replace HBc : Below wr.heap.size wr w2 := gr_trans HBc u2
        replace HCV := HCV.keep u2
        have HQ := HYB.out.keep HBc
        have q3 := HQ.cell (j := 3) rfl
        have zq := HQ.lt
        go_simp
        refine hK2 _ _ c2 ?_
        clear HQ q3 zq
        refine' wpUp_one (i := 1) (by kernel_rfl) rfl rfl (fun w3 u3 c3 K3 hK3 => ?g32)
        case' g32 =>
          replace HBc : Below wr.heap.size wr w3 := gr_trans HBc u3
          replace HCV := HCV.keep u3
          have HQ := HXB.out.keep HBc
          have q3 := HQ.cell (j := 3) rfl
          have zq := HQ.lt
          go_simp
          refine hK3 _ _ c3 ?_
          clear HQ q3 zq
          refine' wpUp_one (i := 16) (by kernel_rfl) rfl rfl (fun w4 u4 c4 K4 hK4 => ?g33)
          case' g33 =>
            replace HBc : Below wr.heap.size wr w4 := gr_trans HBc u4
            replace HCV := HCV.keep u4
            have hown7 := own_keep HO1.out HBc
            have hown6 := own_keep HO2.out HBc
            have X7 := HXB.out.keep HBc
            have Y7 := HYB.out.keep HBc
            have S7 := HS1.out.keep HBc
            have d0 := HCV.cell (j := 0) rfl
            have d1 := HCV.cell (j := 1) rfl
            refine wp_append_at _ _ _ _ (by rfl) 89 (by rfl) base 24 i0 _ 2 16 Tryd.underlying25 hi hy0 hy1 hy2 rfl (by omega) v t _ (by rfl) hown7 ⟨bA, 0, none⟩ 1 1 [vi p.1, vi p.1] (by rfl) (by rfl) (two_cells d0 d1) (by intro u hu; simp at hu; rcases hu with rfl | rfl <;> rfl) (by unfold maxLen; omega) (by omega) (by have := c4.2.2; omega) ?_
            intro v5 w8 hown8 hgrow hfr
            have hlt7 := fun j e => (hown7.lt j e).1
            have F18 : CellsBox w8 w.heap.size 28 f.cells := (hgrow.block _ c4.1.lt (fun e => by have := hlt7 _ e.symm; omega)).trans c4.1
            have FX8 : CellsBox w8 bx 28 [.slice f.fA f.far.length f.fC, vi f.slo, vi f.slo, v, vi f.carry, .slice f.sA f.slips.length f.sC] := (hgrow.block _ X7.lt (fun e => by have := hlt7 _ e.symm; omega)).trans X7
            have FY8 : CellsBox w8 by_ 28 [.slice f.fA f.far.length f.fC, vi f.shi, vi f.shi, u, vi f.carry, .slice f.sA f.slips.length f.sC] := (hgrow.block _ Y7.lt (fun e => by have := hlt7 _ e.symm; omega)).trans Y7
            have S18 : CellsBox w8 b6 24 [vi a, vi b] := (hgrow.block _ S7.lt (fun e => by have := hlt7 _ e.symm; omega)).trans S7
            have O28 : w8.ownsRow base 24 2 u t (flatS ((f.picks.take t).map (oneE true))) := hown6.kept hgrow (own_ne HNE.out)
            have B8 : Below w.heap.size w w8 := Below.grown c4.2.1 hgrow c4.2.1.size (fun j e => by have := hlt7 j e; omega)
            have S8 : base ≤ w8.heap.size := by have := hgrow.size; have := c4.2.2; omega
            have NE8 : ∀ g, v5.ownBlock = some g → u.ownBlock ≠ some g := own_apart HNE.out hfr (fun g e => (hown6.lt g e).2)
            simp only [List.setIfInBounds_toArray, List.set_cons_zero, List.set_cons_succ]
            refine hK4 _ _ ⟨F18, B8, S8⟩ ?_
            clear HBc HCV hgrow hfr hlt7 X7 Y7 S7 d0 d1 hown7 hown6
            have HBc := Below.refl w8.heap.size w8
            refine' wpUp_more hST [31, 34] 5 207 (by kernel_rfl) (by kernel_rfl) (by kernel_rfl) rfl (by kernel_rfl) rfl ?hla33 ⟨F18, B8, S8⟩ ?hqa33 ?hra33
            case hla33 =>
              simp only [List.map_cons, List.map_nil, List.getD_cons_zero, List.getD_cons_succ]
              exact rfl
            case hqa33 =>
              intro w0 hw0
              (repeat (go_big_quiet_step ((go_at_call 44; refine Calls.grow_of (to_any _ _ _)))))
              exact wpQuiet_nil rfl
            case' hra33 =>
              refine' wpUp_one (i := 32) (by kernel_rfl) rfl rfl (fun w5 u5 c5 K5 hK5 => ?g35)
              case' g35 =>
                replace HBc : Below w8.heap.size w8 w5 := gr_trans HBc u5
                go_simp
                obtain ⟨V5, hV⟩ : ∃ V, V = w5.alloc (.cells #[vi p.2, vi p.2] 24) := ⟨_, rfl⟩
                have hbV : Below w5.heap.size w5 V5 := by rw [hV]; exact below1 _ _
                have HCV : CellsBox V5 w5.heap.size 24 [vi p.2, vi p.2] := by rw [hV]; exact CellsBox.new w5 _ _
                rw [← hV]
                refine hK5 _ _ (hST _ _ c5 hbV) ?_
                replace HBc := gr_trans HBc hbV
                obtain ⟨bA, hbA⟩ : ∃ bA, bA = w5.heap.size := ⟨_, rfl⟩
                rw [← hbA] at HCV ⊢
                clear hV hbA hbV
                refine wpUp_one (i := 33) (by kernel_rfl) rfl rfl (fun w6 u6 c6 K6 hK6 => ?_)
                replace HBc : Below w8.heap.size w8 w6 := gr_trans HBc u6
                replace HCV := HCV.keep u6
                have Hv7 := own_keep hown8 HBc
                have Hu7 := own_keep O28 HBc
                have X7 := FX8.keep HBc
                have Y7 := FY8.keep HBc
                have S7 := S18.keep HBc
                have d0 := HCV.cell (j := 0) rfl
                have d1 := HCV.cell (j := 1) rfl
                refine wp_append_at _ _ _ _ (by rfl) 106 (by rfl) base 24 i0 _ 2 16 Tryd.underlying25 hi hy0 hy1 hy2 rfl (by omega) u t _ (by rfl) Hu7 ⟨bA, 0, none⟩ 1 1 [vi p.2, vi p.2] (by rfl) (by rfl) (two_cells d0 d1) (by intro u hu; simp at hu; rcases hu with rfl | rfl <;> rfl) (by unfold maxLen; omega) (by omega) (by have := c6.2.2; omega) ?_
                intro z5 w9 hown9 hgrow hfr
                have hlt7 := fun j e => (Hu7.lt j e).1
                have F19 : CellsBox w9 w.heap.size 28 f.cells := (hgrow.block _ c6.1.lt (fun e => by have := hlt7 _ e.symm; omega)).trans c6.1
                have X9 : CellsBox w9 bx 28 [.slice f.fA f.far.length f.fC, vi f.slo, vi f.slo, v, vi f.carry, .slice f.sA f.slips.length f.sC] := (hgrow.block _ X7.lt (fun e => by have := hlt7 _ e.symm; omega)).trans X7
                have Y9 : CellsBox w9 by_ 28 [.slice f.fA f.far.length f.fC, vi f.shi, vi f.shi, u, vi f.carry, .slice f.sA f.slips.length f.sC] := (hgrow.block _ Y7.lt (fun e => by have := hlt7 _ e.symm; omega)).trans Y7
                have S19 : CellsBox w9 b6 24 [vi a, vi b] := (hgrow.block _ S7.lt (fun e => by have := hlt7 _ e.symm; omega)).trans S7
                have O19 := Hv7.kept hgrow (own_ne (fun g e e2 => NE8 g e2 e))
                have B9 : Below w.heap.size w w9 := Below.grown c6.2.1 hgrow c6.2.1.size (fun j e => by have := hlt7 j e; omega)
                have S9 : base ≤ w9.heap.size := by have := hgrow.size; have := c6.2.2; omega
                have NE9 : ∀ g, z5.ownBlock = some g → v5.ownBlock ≠ some g := own_apart (fun g e e2 => NE8 g e2 e) hfr (fun g e => (Hv7.lt g e).2)
                simp only [List.setIfInBounds_toArray, List.set_cons_zero, List.set_cons_succ]
                refine hK6 _ _ ⟨F19, B9, S9⟩ ?_
                clear HBc HCV hgrow hfr hlt7 X7 Y7 S7 d0 d1 Hv7 Hu7 FX8 FY8 S18 O28 hown8 NE8 F18 B8 S8
                refine wpUp_one (i := 35) (by kernel_rfl) rfl rfl (fun wp up cp Kp hKp => ?_)
                obtain ⟨A5, c5, rfl, -, -⟩ := own_form O19
                obtain ⟨A6, c6, rfl, -, -⟩ := own_form hown9
                have XA := X9.keep up
                have YA := Y9.keep up
                have SA := S19.keep up
                have OA := own_keep O19 up
                have UA := own_keep hown9 up
                have x3 := XA.cell (j := 3) rfl
                have qx := XA.frozen 3
                have zx := XA.lt
                go_simp
                have XA2 := XA.store 3 (.slice A5 (t + 1) c5)
                have YA2 := YA.apart ⟨bx, 3, none⟩ (.slice A5 (t + 1) c5) (by simp only; omega)
                have SA2 := SA.apart ⟨bx, 3, none⟩ (.slice A5 (t + 1) c5) (by simp only; omega)
                have FA2 := cp.1.apart ⟨bx, 3, none⟩ (.slice A5 (t + 1) c5) (by simp only; omega)
                have BA2 := cp.2.1.setCell (p := ⟨bx, 3, none⟩) (by simp only; omega) (.slice A5 (t + 1) c5)
                have OA2 := own_beside OA (p := ⟨bx, 3, none⟩) (by simp only; omega) (.slice A5 (t + 1) c5)
                have UA2 := own_beside UA (p := ⟨bx, 3, none⟩) (by simp only; omega) (.slice A5 (t + 1) c5)
                have ZA2 : base ≤ (wp.setCell ⟨bx, 3, none⟩ (.slice A5 (t + 1) c5)).heap.size := by have := cp.2.2; simpa using this
                refine hKp _ _ ⟨FA2, BA2, ZA2⟩ ?_
                clear x3 qx zx XA YA SA OA UA up X9 Y9 S19 O19 hown9 F19 B9 S9
                refine wpUp_one (i := 36) (by kernel_rfl) rfl rfl (fun wq uq cq Kq hKq => ?_)
                go_simp
                refine hKq _ _ cq ?_
                refine wpUp_one (i := 37) (by kernel_rfl) rfl rfl (fun ws us cs Ks hKs => ?_)
                have hk2 := gr_trans uq us
                have XB := XA2.keep hk2
                have YB := YA2.keep hk2
                have SB := SA2.keep hk2
                have OB := own_keep OA2 hk2
                have UB := own_keep UA2 hk2
                have x3 := YB.cell (j := 3) rfl
                have qx := YB.frozen 3
                have zx := YB.lt
                go_simp
                have XB2 := XB.apart ⟨by_, 3, none⟩ (.slice A6 (t + 1) c6) (by simp only; omega)
                have YB2 := YB.store 3 (.slice A6 (t + 1) c6)
                have SB2 := SB.apart ⟨by_, 3, none⟩ (.slice A6 (t + 1) c6) (by simp only; omega)
                have FB2 := cs.1.apart ⟨by_, 3, none⟩ (.slice A6 (t + 1) c6) (by simp only; omega)
                have BB2 := cs.2.1.setCell (p := ⟨by_, 3, none⟩) (by simp only; omega) (.slice A6 (t + 1) c6)
                have OB2 := own_beside OB (p := ⟨by_, 3, none⟩) (by simp only; omega) (.slice A6 (t + 1) c6)
                have UB2 := own_beside UB (p := ⟨by_, 3, none⟩) (by simp only; omega) (.slice A6 (t + 1) c6)
                have ZB2 : base ≤ (ws.setCell ⟨by_, 3, none⟩ (.slice A6 (t + 1) c6)).heap.size := by have := cs.2.2; simpa using this
                refine hKs _ _ ⟨FB2, BB2, ZB2⟩ (wpUp_done (by kernel_rfl) (fun W8 g1 g2 => NoPanic.normal ?_))
                have X9 := Lib.hid (XB2.keep g1)
                have Y9 := Lib.hid (YB2.keep g1)
                have S9 := Lib.hid (SB2.keep g1)
                have O9 := Lib.hid (own_keep OB2 g1)
                have U9 := Lib.hid (own_keep UB2 g1)
                have F9 := Lib.hid g2.1
                have B9 := g2.2.1
                have Z9 := g2.2.2
                have N9 : Hid (∀ g, (Value.slice A5 (t + 1) c5).ownBlock = some g → (Value.slice A6 (t + 1) c6).ownBlock ≠ some g) := fun g e e2 => NE9 g e2 e
                clear hKp hKq hKs uq us hk2 x3 qx zx XA2 YA2 SA2 FA2 BA2 OA2 UA2 ZA2 XB YB SB OB UB XB2 YB2 SB2 FB2 BB2 OB2 UB2 ZB2 g1 g2 NE9 cp cq cs HXB HYB HS1 HX HO1 HO2 HNE
                go_wp2_with fail
                go_roundw
                case rel => exact ⟨t + 1, .slice A5 (t + 1) c5, .slice A6 (t + 1) c6, by omega, by go_num, B9, Z9, X9, Y9, S9, F9, by unfold Hid; rw [HT1.out]; exact O9.out, by unfold Hid; rw [HT2.out]; exact U9.out, N9⟩
                case measure => simp [intOf]; omega
    case' g3 =>
      replace HBc : Below wr.heap.size wr w1 := gr_trans HBc u1
      have HQ := HYB.out.keep HBc
      have q3 := HQ.cell (j := 3) rfl
      have zq := HQ.lt
      go_simp
      refine hK1 _ _ c1 ?_
      clear HQ q3 zq
      refine' wpUp_two (i := 1) (j := 15) (by kernel_rfl) rfl rfl rfl rfl (fun w2 u2 c2 K2 hK2 => ?g36) (fun w2 u2 c2 K2 hK2 => ?g37)
      case' g36 =>
        replace HBc : Below wr.heap.size wr w2 := gr_trans HBc u2
        have HQ := HXB.out.keep HBc
        have q3 := HQ.cell (j := 3) rfl
        have zq := HQ.lt
        go_simp
        refine hK2 _ _ c2 ?_
        clear HQ q3 zq
        refine' wpUp_one (i := 15) (by kernel_rfl) rfl rfl (fun w3 u3 c3 K3 hK3 => ?g38)
        case' g38 =>
          replace HBc : Below wr.heap.size wr w3 := gr_trans HBc u3
          go_simp
          obtain ⟨V3, hV⟩ : ∃ V, V = w3.alloc (.cells #[vi p.1, vi p.1] 24) := ⟨_, rfl⟩
          have hbV : Below w3.heap.size w3 V3 := by rw [hV]; exact below1 _ _
          have HCV : CellsBox V3 w3.heap.size 24 [vi p.1, vi p.1] := by rw [hV]; exact CellsBox.new w3 _ _
          rw [← hV]
          refine hK3 _ _ (hST _ _ c3 hbV) ?_
          replace HBc := gr_trans HBc hbV
          obtain ⟨bA, hbA⟩ : ∃ bA, bA = w3.heap.size := ⟨_, rfl⟩
          rw [← hbA] at HCV ⊢
          clear hV hbA hbV
          refine' wpUp_one (i := 16) (by kernel_rfl) rfl rfl (fun w4 u4 c4 K4 hK4 => ?g39)
          case' g39 =>
            replace HBc : Below wr.heap.size wr w4 := gr_trans HBc u4
            replace HCV := HCV.keep u4
            have hown7 := own_keep HO1.out HBc
            have hown6 := own_keep HO2.out HBc
            have X7 := HXB.out.keep HBc
            have Y7 := HYB.out.keep HBc
            have S7 := HS1.out.keep HBc
            have d0 := HCV.cell (j := 0) rfl
            have d1 := HCV.cell (j := 1) rfl
            refine wp_append_at _ _ _ _ (by rfl) 89 (by rfl) base 24 i0 _ 2 16 Tryd.underlying25 hi hy0 hy1 hy2 rfl (by omega) v t _ (by rfl) hown7 ⟨bA, 0, none⟩ 1 1 [vi p.1, vi p.1] (by rfl) (by rfl) (two_cells d0 d1) (by intro u hu; simp at hu; rcases hu with rfl | rfl <;> rfl) (by unfold maxLen; omega) (by omega) (by have := c4.2.2; omega) ?_
            intro v5 w8 hown8 hgrow hfr
            have hlt7 := fun j e => (hown7.lt j e).1
            have F18 : CellsBox w8 w.heap.size 28 f.cells := (hgrow.block _ c4.1.lt (fun e => by have := hlt7 _ e.symm; omega)).trans c4.1
            have FX8 : CellsBox w8 bx 28 [.slice f.fA f.far.length f.fC, vi f.slo, vi f.slo, v, vi f.carry, .slice f.sA f.slips.length f.sC] := (hgrow.block _ X7.lt (fun e => by have := hlt7 _ e.symm; omega)).trans X7
            have FY8 : CellsBox w8 by_ 28 [.slice f.fA f.far.length f.fC, vi f.shi, vi f.shi, u, vi f.carry, .slice f.sA f.slips.length f.sC] := (hgrow.block _ Y7.lt (fun e => by have := hlt7 _ e.symm; omega)).trans Y7
            have S18 : CellsBox w8 b6 24 [vi a, vi b] := (hgrow.block _ S7.lt (fun e => by have := hlt7 _ e.symm; omega)).trans S7
            have O28 : w8.ownsRow base 24 2 u t (flatS ((f.picks.take t).map (oneE true))) := hown6.kept hgrow (own_ne HNE.out)
            have B8 : Below w.heap.size w w8 := Below.grown c4.2.1 hgrow c4.2.1.size (fun j e => by have := hlt7 j e; omega)
            have S8 : base ≤ w8.heap.size := by have := hgrow.size; have := c4.2.2; omega
            have NE8 : ∀ g, v5.ownBlock = some g → u.ownBlock ≠ some g := own_apart HNE.out hfr (fun g e => (hown6.lt g e).2)
            simp only [List.setIfInBounds_toArray, List.set_cons_zero, List.set_cons_succ]
            refine hK4 _ _ ⟨F18, B8, S8⟩ ?_
            clear HBc HCV hgrow hfr hlt7 X7 Y7 S7 d0 d1 hown7 hown6
            have HBc := Below.refl w8.heap.size w8
            refine' wpUp_more hST [31, 34] 5 207 (by kernel_rfl) (by kernel_rfl) (by kernel_rfl) rfl (by kernel_rfl) rfl ?hla39 ⟨F18, B8, S8⟩ ?hqa39 ?hra39
            case hla39 =>
              simp only [List.map_cons, List.map_nil, List.getD_cons_zero, List.getD_cons_succ]
              exact rfl
            case hqa39 =>
              intro w0 hw0
              (repeat (go_big_quiet_step ((go_at_call 44; refine Calls.grow_of (to_any _ _ _)))))
              exact wpQuiet_nil rfl
            case' hra39 =>
              refine' wpUp_one (i := 32) (by kernel_rfl) rfl rfl (fun w5 u5 c5 K5 hK5 => ?g41)
              case' g41 =>
                replace HBc : Below w8.heap.size w8 w5 := gr_trans HBc u5
                go_simp
                obtain ⟨V5, hV⟩ : ∃ V, V = w5.alloc (.cells #[vi p.2, vi p.2] 24) := ⟨_, rfl⟩
                have hbV : Below w5.heap.size w5 V5 := by rw [hV]; exact below1 _ _
                have HCV : CellsBox V5 w5.heap.size 24 [vi p.2, vi p.2] := by rw [hV]; exact CellsBox.new w5 _ _
                rw [← hV]
                refine hK5 _ _ (hST _ _ c5 hbV) ?_
                replace HBc := gr_trans HBc hbV
                obtain ⟨bA, hbA⟩ : ∃ bA, bA = w5.heap.size := ⟨_, rfl⟩
                rw [← hbA] at HCV ⊢
                clear hV hbA hbV
                refine wpUp_one (i := 33) (by kernel_rfl) rfl rfl (fun w6 u6 c6 K6 hK6 => ?_)
                replace HBc : Below w8.heap.size w8 w6 := gr_trans HBc u6
                replace HCV := HCV.keep u6
                have Hv7 := own_keep hown8 HBc
                have Hu7 := own_keep O28 HBc
                have X7 := FX8.keep HBc
                have Y7 := FY8.keep HBc
                have S7 := S18.keep HBc
                have d0 := HCV.cell (j := 0) rfl
                have d1 := HCV.cell (j := 1) rfl
                refine wp_append_at _ _ _ _ (by rfl) 106 (by rfl) base 24 i0 _ 2 16 Tryd.underlying25 hi hy0 hy1 hy2 rfl (by omega) u t _ (by rfl) Hu7 ⟨bA, 0, none⟩ 1 1 [vi p.2, vi p.2] (by rfl) (by rfl) (two_cells d0 d1) (by intro u hu; simp at hu; rcases hu with rfl | rfl <;> rfl) (by unfold maxLen; omega) (by omega) (by have := c6.2.2; omega) ?_
                intro z5 w9 hown9 hgrow hfr
                have hlt7 := fun j e => (Hu7.lt j e).1
                have F19 : CellsBox w9 w.heap.size 28 f.cells := (hgrow.block _ c6.1.lt (fun e => by have := hlt7 _ e.symm; omega)).trans c6.1
                have X9 : CellsBox w9 bx 28 [.slice f.fA f.far.length f.fC, vi f.slo, vi f.slo, v, vi f.carry, .slice f.sA f.slips.length f.sC] := (hgrow.block _ X7.lt (fun e => by have := hlt7 _ e.symm; omega)).trans X7
                have Y9 : CellsBox w9 by_ 28 [.slice f.fA f.far.length f.fC, vi f.shi, vi f.shi, u, vi f.carry, .slice f.sA f.slips.length f.sC] := (hgrow.block _ Y7.lt (fun e => by have := hlt7 _ e.symm; omega)).trans Y7
                have S19 : CellsBox w9 b6 24 [vi a, vi b] := (hgrow.block _ S7.lt (fun e => by have := hlt7 _ e.symm; omega)).trans S7
                have O19 := Hv7.kept hgrow (own_ne (fun g e e2 => NE8 g e2 e))
                have B9 : Below w.heap.size w w9 := Below.grown c6.2.1 hgrow c6.2.1.size (fun j e => by have := hlt7 j e; omega)
                have S9 : base ≤ w9.heap.size := by have := hgrow.size; have := c6.2.2; omega
                have NE9 : ∀ g, z5.ownBlock = some g → v5.ownBlock ≠ some g := own_apart (fun g e e2 => NE8 g e2 e) hfr (fun g e => (Hv7.lt g e).2)
                simp only [List.setIfInBounds_toArray, List.set_cons_zero, List.set_cons_succ]
                refine hK6 _ _ ⟨F19, B9, S9⟩ ?_
                clear HBc HCV hgrow hfr hlt7 X7 Y7 S7 d0 d1 Hv7 Hu7 FX8 FY8 S18 O28 hown8 NE8 F18 B8 S8
                refine wpUp_one (i := 35) (by kernel_rfl) rfl rfl (fun wp up cp Kp hKp => ?_)
                obtain ⟨A5, c5, rfl, -, -⟩ := own_form O19
                obtain ⟨A6, c6, rfl, -, -⟩ := own_form hown9
                have XA := X9.keep up
                have YA := Y9.keep up
                have SA := S19.keep up
                have OA := own_keep O19 up
                have UA := own_keep hown9 up
                have x3 := XA.cell (j := 3) rfl
                have qx := XA.frozen 3
                have zx := XA.lt
                go_simp
                have XA2 := XA.store 3 (.slice A5 (t + 1) c5)
                have YA2 := YA.apart ⟨bx, 3, none⟩ (.slice A5 (t + 1) c5) (by simp only; omega)
                have SA2 := SA.apart ⟨bx, 3, none⟩ (.slice A5 (t + 1) c5) (by simp only; omega)
                have FA2 := cp.1.apart ⟨bx, 3, none⟩ (.slice A5 (t + 1) c5) (by simp only; omega)
                have BA2 := cp.2.1.setCell (p := ⟨bx, 3, none⟩) (by simp only; omega) (.slice A5 (t + 1) c5)
                have OA2 := own_beside OA (p := ⟨bx, 3, none⟩) (by simp only; omega) (.slice A5 (t + 1) c5)
                have UA2 := own_beside UA (p := ⟨bx, 3, none⟩) (by simp only; omega) (.slice A5 (t + 1) c5)
                have ZA2 : base ≤ (wp.setCell ⟨bx, 3, none⟩ (.slice A5 (t + 1) c5)).heap.size := by have := cp.2.2; simpa using this
                refine hKp _ _ ⟨FA2, BA2, ZA2⟩ ?_
                clear x3 qx zx XA YA SA OA UA up X9 Y9 S19 O19 hown9 F19 B9 S9
                refine wpUp_one (i := 36) (by kernel_rfl) rfl rfl (fun wq uq cq Kq hKq => ?_)
                go_simp
                refine hKq _ _ cq ?_
                refine wpUp_one (i := 37) (by kernel_rfl) rfl rfl (fun ws us cs Ks hKs => ?_)
                have hk2 := gr_trans uq us
                have XB := XA2.keep hk2
                have YB := YA2.keep hk2
                have SB := SA2.keep hk2
                have OB := own_keep OA2 hk2
                have UB := own_keep UA2 hk2
                have x3 := YB.cell (j := 3) rfl
                have qx := YB.frozen 3
                have zx := YB.lt
                go_simp
                have XB2 := XB.apart ⟨by_, 3, none⟩ (.slice A6 (t + 1) c6) (by simp only; omega)
                have YB2 := YB.store 3 (.slice A6 (t + 1) c6)
                have SB2 := SB.apart ⟨by_, 3, none⟩ (.slice A6 (t + 1) c6) (by simp only; omega)
                have FB2 := cs.1.apart ⟨by_, 3, none⟩ (.slice A6 (t + 1) c6) (by simp only; omega)
                have BB2 := cs.2.1.setCell (p := ⟨by_, 3, none⟩) (by simp only; omega) (.slice A6 (t + 1) c6)
                have OB2 := own_beside OB (p := ⟨by_, 3, none⟩) (by simp only; omega) (.slice A6 (t + 1) c6)
                have UB2 := own_beside UB (p := ⟨by_, 3, none⟩) (by simp only; omega) (.slice A6 (t + 1) c6)
                have ZB2 : base ≤ (ws.setCell ⟨by_, 3, none⟩ (.slice A6 (t + 1) c6)).heap.size := by have := cs.2.2; simpa using this
                refine hKs _ _ ⟨FB2, BB2, ZB2⟩ (wpUp_done (by kernel_rfl) (fun W8 g1 g2 => NoPanic.normal ?_))
                have X9 := Lib.hid (XB2.keep g1)
                have Y9 := Lib.hid (YB2.keep g1)
                have S9 := Lib.hid (SB2.keep g1)
                have O9 := Lib.hid (own_keep OB2 g1)
                have U9 := Lib.hid (own_keep UB2 g1)
                have F9 := Lib.hid g2.1
                have B9 := g2.2.1
                have Z9 := g2.2.2
                have N9 : Hid (∀ g, (Value.slice A5 (t + 1) c5).ownBlock = some g → (Value.slice A6 (t + 1) c6).ownBlock ≠ some g) := fun g e e2 => NE9 g e2 e
                clear hKp hKq hKs uq us hk2 x3 qx zx XA2 YA2 SA2 FA2 BA2 OA2 UA2 ZA2 XB YB SB OB UB XB2 YB2 SB2 FB2 BB2 OB2 UB2 ZB2 g1 g2 NE9 cp cq cs HXB HYB HS1 HX HO1 HO2 HNE
                go_wp2_with fail
                go_roundw
                case rel => exact ⟨t + 1, .slice A5 (t + 1) c5, .slice A6 (t + 1) c6, by omega, by go_num, B9, Z9, X9, Y9, S9, F9, by unfold Hid; rw [HT1.out]; exact O9.out, by unfold Hid; rw [HT2.out]; exact U9.out, N9⟩
                case measure => simp [intOf]; omega
      case' g37 =>
        replace HBc : Below wr.heap.size wr w2 := gr_trans HBc u2
        go_simp
        obtain ⟨V2, hV⟩ : ∃ V, V = w2.alloc (.cells #[vi p.1, vi p.1] 24) := ⟨_, rfl⟩
        have hbV : Below w2.heap.size w2 V2 := by rw [hV]; exact below1 _ _
        have HCV : CellsBox V2 w2.heap.size 24 [vi p.1, vi p.1] := by rw [hV]; exact CellsBox.new w2 _ _
        rw [← hV]
        refine hK2 _ _ (hST _ _ c2 hbV) ?_
        replace HBc := gr_trans HBc hbV
        obtain ⟨bA, hbA⟩ : ∃ bA, bA = w2.heap.size := ⟨_, rfl⟩
        rw [← hbA] at HCV ⊢
        clear hV hbA hbV
        refine' wpUp_one (i := 1) (by kernel_rfl) rfl rfl (fun w3 u3 c3 K3 hK3 => ?g42)
        case' g42 =>
          replace HBc : Below wr.heap.size wr w3 := gr_trans HBc u3
          replace HCV := HCV.keep u3
          have HQ := HXB.out.keep HBc
          have q3 := HQ.cell (j := 3) rfl
          have zq := HQ.lt
          go_simp
          refine hK3 _ _ c3 ?_
          clear HQ q3 zq
          refine' wpUp_one (i := 16) (by kernel_rfl) rfl rfl (fun w4 u4 c4 K4 hK4 => ?g43)
          case' g43 =>
            replace HBc : Below wr.heap.size wr w4 := gr_trans HBc u4
            replace HCV := HCV.keep u4
            have hown7 := own_keep HO1.out HBc
            have hown6 := own_keep HO2.out HBc
            have X7 := HXB.out.keep HBc
            have Y7 := HYB.out.keep HBc
            have S7 := HS1.out.keep HBc
            have d0 := HCV.cell (j := 0) rfl
            have d1 := HCV.cell (j := 1) rfl
            refine wp_append_at _ _ _ _ (by rfl) 89 (by rfl) base 24 i0 _ 2 16 Tryd.underlying25 hi hy0 hy1 hy2 rfl (by omega) v t _ (by rfl) hown7 ⟨bA, 0, none⟩ 1 1 [vi p.1, vi p.1] (by rfl) (by rfl) (two_cells d0 d1) (by intro u hu; simp at hu; rcases hu with rfl | rfl <;> rfl) (by unfold maxLen; omega) (by omega) (by have := c4.2.2; omega) ?_
            intro v5 w8 hown8 hgrow hfr
            have hlt7 := fun j e => (hown7.lt j e).1
            have F18 : CellsBox w8 w.heap.size 28 f.cells := (hgrow.block _ c4.1.lt (fun e => by have := hlt7 _ e.symm; omega)).trans c4.1
            have FX8 : CellsBox w8 bx 28 [.slice f.fA f.far.length f.fC, vi f.slo, vi f.slo, v, vi f.carry, .slice f.sA f.slips.length f.sC] := (hgrow.block _ X7.lt (fun e => by have := hlt7 _ e.symm; omega)).trans X7
            have FY8 : CellsBox w8 by_ 28 [.slice f.fA f.far.length f.fC, vi f.shi, vi f.shi, u, vi f.carry, .slice f.sA f.slips.length f.sC] := (hgrow.block _ Y7.lt (fun e => by have := hlt7 _ e.symm; omega)).trans Y7
            have S18 : CellsBox w8 b6 24 [vi a, vi b] := (hgrow.block _ S7.lt (fun e => by have := hlt7 _ e.symm; omega)).trans S7
            have O28 : w8.ownsRow base 24 2 u t (flatS ((f.picks.take t).map (oneE true))) := hown6.kept hgrow (own_ne HNE.out)
            have B8 : Below w.heap.size w w8 := Below.grown c4.2.1 hgrow c4.2.1.size (fun j e => by have := hlt7 j e; omega)
            have S8 : base ≤ w8.heap.size := by have := hgrow.size; have := c4.2.2; omega
            have NE8 : ∀ g, v5.ownBlock = some g → u.ownBlock ≠ some g := own_apart HNE.out hfr (fun g e => (hown6.lt g e).2)
            simp only [List.setIfInBounds_toArray, List.set_cons_zero, List.set_cons_succ]
            refine hK4 _ _ ⟨F18, B8, S8⟩ ?_
            clear HBc HCV hgrow hfr hlt7 X7 Y7 S7 d0 d1 hown7 hown6
            have HBc := Below.refl w8.heap.size w8
            refine' wpUp_more hST [31, 34] 5 207 (by kernel_rfl) (by kernel_rfl) (by kernel_rfl) rfl (by kernel_rfl) rfl ?hla43 ⟨F18, B8, S8⟩ ?hqa43 ?hra43
            case hla43 =>
              simp only [List.map_cons, List.map_nil, List.getD_cons_zero, List.getD_cons_succ]
              exact rfl
            case hqa43 =>
              intro w0 hw0
              (repeat (go_big_quiet_step ((go_at_call 44; refine Calls.grow_of (to_any _ _ _)))))
              exact wpQuiet_nil rfl
            case' hra43 =>
              refine' wpUp_one (i := 32) (by kernel_rfl) rfl rfl (fun w5 u5 c5 K5 hK5 => ?g45)
              case' g45 =>
                replace HBc : Below w8.heap.size w8 w5 := gr_trans HBc u5
                go_simp
                obtain ⟨V5, hV⟩ : ∃ V, V = w5.alloc (.cells #[vi p.2, vi p.2] 24) := ⟨_, rfl⟩
                have hbV : Below w5.heap.size w5 V5 := by rw [hV]; exact below1 _ _
                have HCV : CellsBox V5 w5.heap.size 24 [vi p.2, vi p.2] := by rw [hV]; exact CellsBox.new w5 _ _
                rw [← hV]
                refine hK5 _ _ (hST _ _ c5 hbV) ?_
                replace HBc := gr_trans HBc hbV
                obtain ⟨bA, hbA⟩ : ∃ bA, bA = w5.heap.size := ⟨_, rfl⟩
                rw [← hbA] at HCV ⊢
                clear hV hbA hbV
                refine wpUp_one (i := 33) (by kernel_rfl) rfl rfl (fun w6 u6 c6 K6 hK6 => ?_)
                replace HBc : Below w8.heap.size w8 w6 := gr_trans HBc u6
                replace HCV := HCV.keep u6
                have Hv7 := own_keep hown8 HBc
                have Hu7 := own_keep O28 HBc
                have X7 := FX8.keep HBc
                have Y7 := FY8.keep HBc
                have S7 := S18.keep HBc
                have d0 := HCV.cell (j := 0) rfl
                have d1 := HCV.cell (j := 1) rfl
                refine wp_append_at _ _ _ _ (by rfl) 106 (by rfl) base 24 i0 _ 2 16 Tryd.underlying25 hi hy0 hy1 hy2 rfl (by omega) u t _ (by rfl) Hu7 ⟨bA, 0, none⟩ 1 1 [vi p.2, vi p.2] (by rfl) (by rfl) (two_cells d0 d1) (by intro u hu; simp at hu; rcases hu with rfl | rfl <;> rfl) (by unfold maxLen; omega) (by omega) (by have := c6.2.2; omega) ?_
                intro z5 w9 hown9 hgrow hfr
                have hlt7 := fun j e => (Hu7.lt j e).1
                have F19 : CellsBox w9 w.heap.size 28 f.cells := (hgrow.block _ c6.1.lt (fun e => by have := hlt7 _ e.symm; omega)).trans c6.1
                have X9 : CellsBox w9 bx 28 [.slice f.fA f.far.length f.fC, vi f.slo, vi f.slo, v, vi f.carry, .slice f.sA f.slips.length f.sC] := (hgrow.block _ X7.lt (fun e => by have := hlt7 _ e.symm; omega)).trans X7
                have Y9 : CellsBox w9 by_ 28 [.slice f.fA f.far.length f.fC, vi f.shi, vi f.shi, u, vi f.carry, .slice f.sA f.slips.length f.sC] := (hgrow.block _ Y7.lt (fun e => by have := hlt7 _ e.symm; omega)).trans Y7
                have S19 : CellsBox w9 b6 24 [vi a, vi b] := (hgrow.block _ S7.lt (fun e => by have := hlt7 _ e.symm; omega)).trans S7
                have O19 := Hv7.kept hgrow (own_ne (fun g e e2 => NE8 g e2 e))
                have B9 : Below w.heap.size w w9 := Below.grown c6.2.1 hgrow c6.2.1.size (fun j e => by have := hlt7 j e; omega)
                have S9 : base ≤ w9.heap.size := by have := hgrow.size; have := c6.2.2; omega
                have NE9 : ∀ g, z5.ownBlock = some g → v5.ownBlock ≠ some g := own_apart (fun g e e2 => NE8 g e2 e) hfr (fun g e => (Hv7.lt g e).2)
                simp only [List.setIfInBounds_toArray, List.set_cons_zero, List.set_cons_succ]
                refine hK6 _ _ ⟨F19, B9, S9⟩ ?_
                clear HBc HCV hgrow hfr hlt7 X7 Y7 S7 d0 d1 Hv7 Hu7 FX8 FY8 S18 O28 hown8 NE8 F18 B8 S8
                refine wpUp_one (i := 35) (by kernel_rfl) rfl rfl (fun wp up cp Kp hKp => ?_)
                obtain ⟨A5, c5, rfl, -, -⟩ := own_form O19
                obtain ⟨A6, c6, rfl, -, -⟩ := own_form hown9
                have XA := X9.keep up
                have YA := Y9.keep up
                have SA := S19.keep up
                have OA := own_keep O19 up
                have UA := own_keep hown9 up
                have x3 := XA.cell (j := 3) rfl
                have qx := XA.frozen 3
                have zx := XA.lt
                go_simp
                have XA2 := XA.store 3 (.slice A5 (t + 1) c5)
                have YA2 := YA.apart ⟨bx, 3, none⟩ (.slice A5 (t + 1) c5) (by simp only; omega)
                have SA2 := SA.apart ⟨bx, 3, none⟩ (.slice A5 (t + 1) c5) (by simp only; omega)
                have FA2 := cp.1.apart ⟨bx, 3, none⟩ (.slice A5 (t + 1) c5) (by simp only; omega)
                have BA2 := cp.2.1.setCell (p := ⟨bx, 3, none⟩) (by simp only; omega) (.slice A5 (t + 1) c5)
                have OA2 := own_beside OA (p := ⟨bx, 3, none⟩) (by simp only; omega) (.slice A5 (t + 1) c5)
                have UA2 := own_beside UA (p := ⟨bx, 3, none⟩) (by simp only; omega) (.slice A5 (t + 1) c5)
                have ZA2 : base ≤ (wp.setCell ⟨bx, 3, none⟩ (.slice A5 (t + 1) c5)).heap.size := by have := cp.2.2; simpa using this
                refine hKp _ _ ⟨FA2, BA2, ZA2⟩ ?_
                clear x3 qx zx XA YA SA OA UA up X9 Y9 S19 O19 hown9 F19 B9 S9
                refine wpUp_one (i := 36) (by kernel_rfl) rfl rfl (fun wq uq cq Kq hKq => ?_)
                go_simp
                refine hKq _ _ cq ?_
                refine wpUp_one (i := 37) (by kernel_rfl) rfl rfl (fun ws us cs Ks hKs => ?_)
                have hk2 := gr_trans uq us
                have XB := XA2.keep hk2
                have YB := YA2.keep hk2
                have SB := SA2.keep hk2
                have OB := own_keep OA2 hk2
                have UB := own_keep UA2 hk2
                have x3 := YB.cell (j := 3) rfl
                have qx := YB.frozen 3
                have zx := YB.lt
                go_simp
                have XB2 := XB.apart ⟨by_, 3, none⟩ (.slice A6 (t + 1) c6) (by simp only; omega)
                have YB2 := YB.store 3 (.slice A6 (t + 1) c6)
                have SB2 := SB.apart ⟨by_, 3, none⟩ (.slice A6 (t + 1) c6) (by simp only; omega)
                have FB2 := cs.1.apart ⟨by_, 3, none⟩ (.slice A6 (t + 1) c6) (by simp only; omega)
                have BB2 := cs.2.1.setCell (p := ⟨by_, 3, none⟩) (by simp only; omega) (.slice A6 (t + 1) c6)
                have OB2 := own_beside OB (p := ⟨by_, 3, none⟩) (by simp only; omega) (.slice A6 (t + 1) c6)
                have UB2 := own_beside UB (p := ⟨by_, 3, none⟩) (by simp only; omega) (.slice A6 (t + 1) c6)
                have ZB2 : base ≤ (ws.setCell ⟨by_, 3, none⟩ (.slice A6 (t + 1) c6)).heap.size := by have := cs.2.2; simpa using this
                refine hKs _ _ ⟨FB2, BB2, ZB2⟩ (wpUp_done (by kernel_rfl) (fun W8 g1 g2 => NoPanic.normal ?_))
                have X9 := Lib.hid (XB2.keep g1)
                have Y9 := Lib.hid (YB2.keep g1)
                have S9 := Lib.hid (SB2.keep g1)
                have O9 := Lib.hid (own_keep OB2 g1)
                have U9 := Lib.hid (own_keep UB2 g1)
                have F9 := Lib.hid g2.1
                have B9 := g2.2.1
                have Z9 := g2.2.2
                have N9 : Hid (∀ g, (Value.slice A5 (t + 1) c5).ownBlock = some g → (Value.slice A6 (t + 1) c6).ownBlock ≠ some g) := fun g e e2 => NE9 g e2 e
                clear hKp hKq hKs uq us hk2 x3 qx zx XA2 YA2 SA2 FA2 BA2 OA2 UA2 ZA2 XB YB SB OB UB XB2 YB2 SB2 FB2 BB2 OB2 UB2 ZB2 g1 g2 NE9 cp cq cs HXB HYB HS1 HX HO1 HO2 HNE
                go_wp2_with fail
                go_roundw
                case rel => exact ⟨t + 1, .slice A5 (t + 1) c5, .slice A6 (t + 1) c6, by omega, by go_num, B9, Z9, X9, Y9, S9, F9, by unfold Hid; rw [HT1.out]; exact O9.out, by unfold Hid; rw [HT2.out]; exact U9.out, N9⟩
                case measure => simp [intOf]; omega
  · obtain rfl : t = f.picks.length := by omega
    have Z1 := HO1.out
    have Z2 := HO2.out
    simp only [flatS, List.flatMap_def, List.take_length] at Z1 Z2
    obtain ⟨A5, c5, rfl, hc1, hc2, hr5⟩ := own_rows (m := (f.picks.map (oneE false)).map spanC) (by intro r hr; obtain ⟨q, _, rfl⟩ := List.mem_map.1 hr; rfl) Z1 (by simp) (by omega)
    obtain ⟨A6, c6, rfl, hc3, hc4, hr6⟩ := own_rows (m := (f.picks.map (oneE true)).map spanC) (by intro r hr; obtain ⟨q, _, rfl⟩ := List.mem_map.1 hr; rfl) Z2 (by simp) (by omega)
    have HF1 := HF.out.to HB
    have RFA : RowsAt wr wr.heap.size 2 A5 c5 ((f.picks.map (oneE false)).map spanC) := ⟨by simp; omega, by unfold maxLen at hc2; omega, by simp; omega, hr5.row⟩
    have FA : Hid (FloorAt wr wr.heap.size (endF false f A5 c5)) := ⟨HF1.far, RFA, HF1.slips, HF1.each⟩
    clear RFA
    have RFB : RowsAt wr wr.heap.size 2 A6 c6 ((f.picks.map (oneE true)).map spanC) := ⟨by simp; omega, by unfold maxLen at hc4; omega, by simp; omega, hr6.row⟩
    have FB : Hid (FloorAt wr wr.heap.size (endF true f A6 c6)) := ⟨HF1.far, RFB, HF1.slips, HF1.each⟩
    clear RFB
    clear Z1 Z2 hr5 hr6 HF1 HO1 HO2 HNE
    have a3 := HX.out.cell (j := 3) rfl
    have za := HX.out.lt
    have b0 := HXB.out.cell (j := 0) rfl
    have b1 := HXB.out.cell (j := 1) rfl
    have b2 := HXB.out.cell (j := 2) rfl
    have b3 := HXB.out.cell (j := 3) rfl
    have b4 := HXB.out.cell (j := 4) rfl
    have b5 := HXB.out.cell (j := 5) rfl
    have zb := HXB.out.lt
    go_wp2_with fail
    refine (C3.out A5 c5 _ (HL.out.next HB) FA.out).mono ?_
    rintro e W5 ⟨rfl, hb⟩
    clear a3 za b0 b1 b2 b3 b4 b5 zb FA HXB
    replace HYB := Lib.hid (HYB.out.keep hb)
    replace HS1 := Lib.hid (HS1.out.keep hb)
    replace HX := Lib.hid (HX.out.keep hb)
    replace FB := Lib.hid (FB.out.to hb)
    replace HB := HB.trans (hb.mono HB.size)
    clear hb
    have b0 := HYB.out.cell (j := 0) rfl
    have b1 := HYB.out.cell (j := 1) rfl
    have b2 := HYB.out.cell (j := 2) rfl
    have b3 := HYB.out.cell (j := 3) rfl
    have b4 := HYB.out.cell (j := 4) rfl
    have b5 := HYB.out.cell (j := 5) rfl
    have zb := HYB.out.lt
    go_wp2_with fail
    have hbA := below1 W5 (.cells #[vi a, vi a] 24)
    have HS2 := CellsBox.new W5 24 [vi a, vi a]
    have HBA := HB.trans (hbA.mono HB.size)
    refine (C4.out A6 c6 _ (HL.out.next HBA) (FB.out.to hbA)).mono ?_
    rintro e W6 ⟨rfl, hb⟩
    have HS2 := Lib.hid (HS2.keep hb)
    replace hb := gr_trans hbA hb
    obtain ⟨b13, hb13⟩ : ∃ b, b = W5.heap.size := ⟨_, rfl⟩
    rw [← hb13] at HS2 ⊢
    replace HS1 := Lib.hid (HS1.out.keep hb)
    replace HX := Lib.hid (HX.out.keep hb)
    replace HB := HB.trans (hb.mono HB.size)
    clear hb hbA HBA b0 b1 b2 b3 b4 b5 zb FB HYB hb13
    have hbB := below1 W6 (.cells #[vi b, vi b] 24)
    have HS3 := CellsBox.new W6 24 [vi b, vi b]
    go_wp2_with fail
    obtain ⟨b15, hb15⟩ : ∃ b, b = W6.heap.size := ⟨_, rfl⟩
    rw [← hb15] at HS3 ⊢
    refine (?_ : ∀ V8 : World, CellsBox V8 w.heap.size 28 f.cells → CellsBox V8 b6 24 [vi a, vi b] → CellsBox V8 b13 24 [vi a, vi a] → CellsBox V8 b15 24 [vi b, vi b] → Below w.heap.size w V8 → Code.wp _ _ _ _ V8) _ (HX.out.keep hbB) (HS1.out.keep hbB) (HS2.out.keep hbB) HS3 (HB.trans (hbB.mono HB.size))
    clear hb15 hbB HS3 HS2 HS1 HX HB
    intro V8 X8 S8 T8 U8 B8
    go_loopw [17, 18] (fun x i wr => ∃ m : Nat, m ≤ s.lines.length ∧ i = .int .i64 m ∧ x = vi (SS m) ∧ Below w.heap.size w wr ∧ Hid (CellsBox wr w.heap.size 28 f.cells) ∧ Hid (CellsBox wr b6 24 [vi a, vi b]) ∧ Hid (CellsBox wr b13 24 [vi a, vi a]) ∧ Hid (CellsBox wr b15 24 [vi b, vi b])) (fun _ i _ => s.lines.length - (intOf i).toNat)
    case atStart => exact ⟨0, Nat.zero_le _, rfl, by rw [HS0.out], B8, X8, S8, T8, U8⟩
    clear X8 S8 T8 U8 B8
    obtain ⟨m, hm, rfl, rfl, HB, HX, HS1, HS2, HS3⟩ := hrel
    by_cases hltm : m < s.lines.length
    · obtain ⟨x, hx⟩ : ∃ x, s.lines[m]? = some x := ⟨_, List.getElem?_eq_getElem hltm⟩
      obtain ⟨j, q, hj, hjl, hq, ⟨q1, q2⟩, ⟨m1, m2⟩, ⟨e1, e2⟩, ⟨r1, r2⟩, S1⟩ := HPX.out m x hx
      obtain ⟨bb, off, hlA, hbb, x0, x1⟩ := row2 HSL.out.row hx rfl
      obtain ⟨bp, op, hpA, hbp, y0, y1⟩ := row2 HF.out.picks.row hq rfl
      obtain ⟨xs, xm⟩ := x
      obtain ⟨ql, qh⟩ := q
      simp only at hj q1 q2 m1 m2 e1 e2 S1 x0 x1 y0 y1
      subst hj
      have S1 := Lib.hid S1
      have hmI : (m : Int) < s.lines.length := by omega
      have h0m : (0 : Int) ≤ m := by omega
      have hjI : (j : Int) < f.picks.length := by omega
      have h0j : (0 : Int) ≤ j := by omega
      have R0 := HR0.out
      rw [hlA] at R0
      replace R0 := (HB.cell hbs).trans R0
      replace x0 := (HB.cell hbb).trans x0
      replace x1 := (HB.cell hbb).trans x1
      replace y0 := (HB.cell hbp).trans y0
      have zR := cell_lt R0
      have zbb := cell_lt x0
      have zbp := cell_lt y0
      have a2 := HX.out.cell (j := 3) rfl
      have a5 := HX.out.cell (j := 5) rfl
      have za := HX.out.lt
      rw [hpA] at a2
      rw [HSA.out] at a5
      obtain ⟨sk, hsk⟩ : ∃ sk, sk = SS m := ⟨_, rfl⟩
      rw [← hsk] at r1 r2 S1 ⊢
      clear hx hq hsk y1 hlA hpA HPX HAS HS0 HSL
      go_wp2_with fail
      (refine wp_region_grow_lit (by kernel_rfl) (by kernel_rfl) ?_; (repeat (go_big_quiet_step (fail))); refine wpQuiet_nil ?_; intro w1 hw1; have hb1 := below_of_plus hw1; clear hw1; obtain ⟨⟨hc1, hf1, hs1⟩, hz1⟩ := after hb1; (try simp only [World.size_alloc, World.size_setCell, World.size_drew] at hz1))
      replace HB := HB.trans (hb1.mono HB.size)
      have HX := Lib.hid (HX.out.keep hb1)
      have HS1 := Lib.hid (HS1.out.keep hb1)
      have HS2 := Lib.hid (HS2.out.keep hb1)
      have HS3 := Lib.hid (HS3.out.keep hb1)
      clear hb1 hc1 hf1 hs1 hz1
      go_wp2_with fail
      go_roundw
      case rel => exact ⟨m + 1, by omega, by go_num, by rw [S1.out], HB, HX, HS1, HS2, HS3⟩
      case measure => simp [intOf]; omega
    · obtain rfl : m = s.lines.length := by omega
      obtain ⟨Z, hZ⟩ : ∃ Z, Z = SS s.lines.length := ⟨_, rfl⟩
      have hA := HAS.out
      rw [← hZ] at hzr hA ⊢
      have hga : (a == st * f.slo + Z) = true := by rw [hA]; simp
      clear hZ hA HAS HPX HS0
      have hl := HL.out.next HB
      have R0 := (HB.cell hbs).trans HR0.out
      have zR := cell_lt R0
      have a1 := HX.out.cell (j := 1) rfl
      have a5 := HX.out.cell (j := 5) rfl
      have za := HX.out.lt
      rw [HSA.out] at a5
      have t0 := HS1.out.cell (j := 0) rfl
      have t1 := HS1.out.cell (j := 1) rfl
      have zt := HS1.out.lt
      have u0 := HS2.out.cell (j := 0) rfl
      have u1 := HS2.out.cell (j := 1) rfl
      have zu := HS2.out.lt
      have v0 := HS3.out.cell (j := 0) rfl
      have v1 := HS3.out.cell (j := 1) rfl
      have zv := HS3.out.lt
      go_wp2_with fail
      (refine wp_region_grow_lit (by kernel_rfl) (by kernel_rfl) ?_; (repeat (go_big_quiet_step (first | (go_at_call 44; refine Calls.grow_of (to_any _ _ _)) | (go_at_call 23; refine Calls.grow_of (works_any _ (by repeat (first | assumption | refine Lim.next ?_ (plus_below _ _) | refine Lim.alloc ?_ _ | refine Lim.setCell ?_ (by first | (simp; done) | (simp; omega) | omega) _ | refine Lim.drew ?_))))))); refine wpQuiet_nil ?_; intro w1 hw1; have hb1 := below_of_plus hw1; clear hw1; obtain ⟨⟨hc1, hf1, hs1⟩, hz1⟩ := after hb1; (try simp only [World.size_alloc, World.size_setCell, World.size_drew] at hz1))
      replace HB := HB.trans (hb1.mono HB.size)
      go_wp2_with fail
      go_ret
      exact ⟨rfl, HB⟩
set_option maxRecDepth 100000 in
theorem slipEnds_none (f : Floor) (n : Int) (hno : validB f = false ∨ (validB f = true ∧ f.slips.length = 0)) (w : World) (hl : Lim w) (h : FloorAt w w.heap.size f) :
    Calls Tryd.prog 9 #[f.val, vi n] w fun e w' => e = .returned (.bool true) ∧ Below w.heap.size w w' := by
  have HL := Lib.hid hl
  have HF := Lib.hid h
  have h3l := h.slips.lens
  obtain ⟨b, hb⟩ : ∃ b, validB f = b := ⟨_, rfl⟩
  have SO := Lib.hid (fun (W : World) h1 h2 => sound_is hb W h1 h2)
  rw [hb] at hno
  clear hl h hb
  have X0 := CellsBox.new w 28 f.cells
  have hb0 : Below w.heap.size w (w.alloc (.cells f.cells.toArray 28)) := below1 _ _
  show Calls Tryd.prog 9 #[.agg #[.slice f.fA f.far.length f.fC, vi f.slo, vi f.shi, .slice f.pA f.picks.length f.pC, vi f.carry, .slice f.sA f.slips.length f.sC], vi n] w _
  go_enter Tryd.func9, Tryd.ntmps9
  go_upto_region 1 with fail
  refine (?_ : ∀ V : World, CellsBox V w.heap.size 28 f.cells → Below w.heap.size w V → Code.wp _ _ _ _ V) _ X0 hb0
  clear X0 hb0
  intro V X0 HB
  have HX := Lib.hid X0
  (have a0 := X0.cell (j := 0) rfl; have a1 := X0.cell (j := 1) rfl; have a2 := X0.cell (j := 2) rfl; have a3 := X0.cell (j := 3) rfl; have a4 := X0.cell (j := 4) rfl; have a5 := X0.cell (j := 5) rfl; have za := X0.lt)
  clear X0
  go_wp2_with fail
  refine (SO.out _ (HL.out.next HB) (HF.out.to HB)).mono ?_
  rintro e W1 ⟨rfl, hb⟩
  (replace HX := Lib.hid (HX.out.keep hb); replace HB : Below w.heap.size w W1 := HB.trans (hb.mono HB.size); clear hb a0 a1 a2 a3 a4 a5 za; (have a0 := HX.out.cell (j := 0) rfl; have a1 := HX.out.cell (j := 1) rfl; have a2 := HX.out.cell (j := 2) rfl; have a3 := HX.out.cell (j := 3) rfl; have a4 := HX.out.cell (j := 4) rfl; have a5 := HX.out.cell (j := 5) rfl; have za := HX.out.lt))
  rcases hno with rfl | ⟨rfl, hz⟩
  · go_wp2_with fail
    refine (works_any _ (HL.out.next HB)).mono ?_
    rintro e W ⟨rfl, hb⟩
    (replace HB : Below w.heap.size w W := HB.trans (hb.mono HB.size); clear hb)
    go_wp2_with fail
    go_ret
    exact ⟨rfl, HB⟩
  · have hzz : ((f.slips.length : Int) == 0) = true := by rw [hz]; rfl
    rw [hz] at a5
    clear hz hzz
    go_wp2_with fail
    refine (works_any _ (HL.out.next HB)).mono ?_
    rintro e W ⟨rfl, hb⟩
    (replace HB : Below w.heap.size w W := HB.trans (hb.mono HB.size); clear hb)
    go_wp2_with fail
    go_ret
    exact ⟨rfl, HB⟩
theorem slipEnds_any (f : Floor) (n : Int) (hn : -9223372036854775808 ≤ n ∧ n ≤ 9223372036854775807) (w : World) (hl : Lim w) (h : FloorAt w w.heap.size f) :
    Calls Tryd.prog 9 #[f.val, vi n] w fun e w' => e = .returned (.bool true) ∧ Below w.heap.size w w' := by
  cases hv : validB f with
  | false => exact slipEnds_none f n (.inl hv) w hl h
  | true =>
    by_cases h0 : f.slips.length = 0
    · exact slipEnds_none f n (.inr ⟨hv, h0⟩) w hl h
    · exact slipEnds_some f n hv (by omega) hn w hl h
end Go.Proofs.YtomgnpfpaodpiaaDoor

