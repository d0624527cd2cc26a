/- Contract of the law's until: a floor in which a slip has another Until. -/
import Derived.Test.YtomgnpfpaodpiaaDoorJ11
import Derived.Test.YtomgnpfpaodpiaaDoorJ05
import Derived.Test.YtomgnpfpaodpiaaDoorJ12
import Derived.Deep.CutRange
set_option linter.unusedVariables false
set_option linter.unusedSimpArgs false
namespace Go.Proofs.YtomgnpfpaodpiaaDoor
open Go Go.RowKit
set_option maxHeartbeats 4000000
theorem own_some {w : World} {base n sz : Nat} {e : TypeId} {v : Value} {xs : List Value} (h : w.ownsRow base e sz v n xs) (h0 : 0 < n) : ∃ g cap cur, v = .slice (some ⟨g, 0, none⟩) n cap ∧ base ≤ g ∧ w.heap[g]? = some (.cells cur e (0, 0)) ∧ n ≤ cap ∧ cap ≤ maxLen ∧ cur.size = cap * sz ∧ cur.toList.take (n * sz) = xs := by
  rcases h.2 with ⟨_, e0⟩ | ⟨g, c, cur, rfl, g1, g2, g3, g4, g5, g6⟩
  · omega
  · exact ⟨g, c, cur, rfl, g1, g2, g3, g4, g5, g6⟩
set_option maxRecDepth 100000 in
theorem until_any (f : Floor) (k : Nat) (s : SSlip) (hs : f.slips[k]? = some s) (h9 : f.slips.length ≤ 9) (u : Int) (w : World) (h : FloorAt w w.heap.size f) :
    Calls Tryd.prog 48 #[f.val, vi k, vi u] w fun e w' => ∃ g c, e = .returned (withF f (some ⟨g, 0, none⟩) c k u).val ∧ FloorAt w' w'.heap.size (withF f (some ⟨g, 0, none⟩) c k u) ∧ Below w.heap.size w w' := by
  obtain ⟨i0, hi, hy0, hy1, hy2⟩ := info_parts info_slip
  have hk := (List.getElem?_eq_some_iff.1 hs).1
  have HF := Lib.hid h
  have HWR := Lib.hid (fun (w' : World) (g c : Nat) (rest : List Value) (hb : Below w.heap.size w w') hx hc hm => with_rows (k := k) (u := u) (rest := rest) (g := g) (c := c) h hb hx hc hm h9)
  have hat := flatSl_at f.slips k s hs
  have HAT := Lib.hid hat
  have HSET := Lib.hid (flatSl_set f.slips k u hk)
  have HLEN := Lib.hid (flatSl_len f.slips)
  obtain ⟨sb, so, hsA, hsb, s0, s1⟩ := row2 h.slips.row hs rfl
  have HS0 := Lib.hid s0
  have hkI : (k : Int) < f.slips.length := by omega
  have h0k : (0 : Int) ≤ k := by omega
  have hle := h.slips.lens
  have hnews := row_cells (b := sb) (off := so) (by have := h.slips.row; rwa [hsA] at this) (slips_two f.slips) (by omega) (by simp; omega)
  have HN := Lib.hid hnews
  have hfl : (f.slips.map SSlip.cells).flatten.length = f.slips.length * 2 := by rw [flat_len _ (slips_two f.slips)]; simp
  have HFL := Lib.hid hfl
  have E : Hid (∀ (g c : Nat), (withF f (some ⟨g, 0, none⟩) c k u).val = .agg #[.slice f.fA f.far.length f.fC, vi f.slo, vi f.shi, .slice f.pA f.picks.length f.pC, vi f.carry, .slice (some ⟨g, 0, none⟩) f.slips.length c]) := fun g c => by simp [withF]
  obtain ⟨WF, hWF⟩ : ∃ WF : Nat → Nat → Floor, WF = fun g c => withF f (some ⟨g, 0, none⟩) c k u := ⟨_, rfl⟩
  have eW : ∀ g c, withF f (some ⟨g, 0, none⟩) c k u = WF g c := fun g c => by rw [hWF]
  simp only [eW] at HWR E ⊢
  obtain ⟨SL, hSL⟩ : ∃ SL, SL = flatSl (f.slips.modify k fun s => { s with till := u }) := ⟨_, rfl⟩
  rw [← hSL] at HSET
  have HWR2 : Hid (∀ (w' : World) (g c : Nat) (rest : List Value), Below w.heap.size w w' → CellsBox w' g 52 (SL ++ rest) → f.slips.length ≤ c → c ≤ maxLen → FloorAt w' w'.heap.size (WF g c)) := fun w' g c rest h1 h2 h3 h4 => HWR.out w' g c rest h1 (by rw [← hSL]; exact h2) h3 h4
  clear h hs hat hnews hfl s0 s1 hWF eW hSL HWR
  obtain ⟨sa, sc, sl, st⟩ := s
  obtain ⟨fA, fC, ff, slo, shi, pA, pC, fp, fc, sA, sC, fs⟩ := f
  simp only at hsA
  subst hsA
  simp only [SSlip.slice] at HAT HS0
  simp only at HF HWR2 HAT HSET HLEN HN HFL E h9 hk hkI hle ⊢
  have hb0 := below1 w (.cells #[.slice fA ff.length fC, vi slo, vi shi, .slice pA fp.length pC, vi fc, .slice (some ⟨sb, so, none⟩) fs.length sC] 28)
  have X0 := CellsBox.new w 28 [.slice fA ff.length fC, vi slo, vi shi, .slice pA fp.length pC, vi fc, .slice (some ⟨sb, so, none⟩) fs.length sC]
  have hb1 := hb0.alloc hb0.size (.cells #[.slice none 0 0, vi 0, vi 0, .slice none 0 0, vi 0, .slice none 0 0] 28)
  have X1 := X0.alloc (.cells #[.slice none 0 0, vi 0, vi 0, .slice none 0 0, vi 0, .slice none 0 0] 28)
  have R1 := CellsBox.new (w.alloc (.cells #[.slice fA ff.length fC, vi slo, vi shi, .slice pA fp.length pC, vi fc, .slice (some ⟨sb, so, none⟩) fs.length sC] 28)) 28 [.slice none 0 0, vi 0, vi 0, .slice none 0 0, vi 0, .slice none 0 0]
  have hb2 := hb1.alloc hb1.size (.cells #[.slice fA ff.length fC, vi slo, vi shi, .slice pA fp.length pC, vi fc, .slice (some ⟨sb, so, none⟩) fs.length sC] 28)
  have X2 := X1.alloc (.cells #[.slice fA ff.length fC, vi slo, vi shi, .slice pA fp.length pC, vi fc, .slice (some ⟨sb, so, none⟩) fs.length sC] 28)
  have R2 := R1.alloc (.cells #[.slice fA ff.length fC, vi slo, vi shi, .slice pA fp.length pC, vi fc, .slice (some ⟨sb, so, none⟩) fs.length sC] 28)
  have Y2 := CellsBox.new ((w.alloc (.cells #[.slice fA ff.length fC, vi slo, vi shi, .slice pA fp.length pC, vi fc, .slice (some ⟨sb, so, none⟩) fs.length sC] 28)).alloc (.cells #[.slice none 0 0, vi 0, vi 0, .slice none 0 0, vi 0, .slice none 0 0] 28)) 28 [.slice fA ff.length fC, vi slo, vi shi, .slice pA fp.length pC, vi fc, .slice (some ⟨sb, so, none⟩) fs.length sC]
  show Calls Tryd.prog 48 #[.agg #[.slice fA ff.length fC, vi slo, vi shi, .slice pA fp.length pC, vi fc, .slice (some ⟨sb, so, none⟩) fs.length sC], vi k, vi u] w _
  go_enter Tryd.func48, Tryd.ntmps48
  go_upto_region 2 with fail
  refine (?_ : ∀ W3 : World, CellsBox W3 w.heap.size 28 [.slice fA ff.length fC, vi slo, vi shi, .slice pA fp.length pC, vi fc, .slice (some ⟨sb, so, none⟩) fs.length sC] → CellsBox W3 (w.heap.size + 1) 28 [.slice none 0 0, vi 0, vi 0, .slice none 0 0, vi 0, .slice none 0 0] → CellsBox W3 (w.heap.size + 1 + 1) 28 [.slice fA ff.length fC, vi slo, vi shi, .slice pA fp.length pC, vi fc, .slice (some ⟨sb, so, none⟩) fs.length sC] → Below w.heap.size w W3 → Code.wp _ _ _ _ W3) _ X2 (by simpa using R2) (by simpa using Y2) hb2
  clear hb0 hb1 hb2 X0 X1 X2 R1 R2 Y2
  intro W3 X R Y HB
  have a5 := X.cell (j := 5) rfl
  have za := X.lt
  have hz := HB.size
  have z2 := Y.lt
  have HX := Lib.hid X
  have HR := Lib.hid R
  have HY := Lib.hid Y
  have HN3 := Lib.hid (fun j u hj => HB.cell (p := (⟨sb, so, none⟩ : Addr).add j) (by unfold Addr.add; split <;> exact hsb) |>.trans (HN.out j u hj))
  have y0 := Y.frozen 5
  have hn0 : 0 < fs.length := by omega
  clear X R Y
  go_wp2_with (at_builtin; go_loud (refine wpList_append_own _ rfl _ _ 26 rfl W3.heap.size 52 i0 (.agg #[.slice none 0 0, vi 0]) 2 32 Tryd.underlying26 hi hy0 hy1 hy2 rfl (by decide) _ _ _ rfl (own_empty W3 _ _) ⟨sb, so, none⟩ fs.length sC (fs.map SSlip.cells).flatten rfl HFL.out (fun j u hj => cell_alloc (HN3.out j u hj) _) (by intro u hu; simp only [List.mem_flatten, List.mem_map] at hu; obtain ⟨r, ⟨s, _, rfl⟩, hu⟩ := hu; simp only [SSlip.cells, List.mem_cons, List.mem_nil_iff, or_false] at hu; rcases hu with rfl | rfl <;> rfl) (by unfold maxLen; omega) (by omega) (by simp) ?_; intro v5 w5 hown5 hgrow5 _; have HB5 : Below W3.heap.size W3 w5 := Below.grown ((Below.refl W3.heap.size W3).alloc (Nat.le_refl _) _) hgrow5 (by simp) (fun k e => by (have e2 : some W3.heap.size = some k := e; cases e2; exact Nat.le_refl _)); rw [Nat.zero_add, List.nil_append] at hown5; obtain ⟨g, c, cur, rfl, g1, g2, g3, g4, g5, g6⟩ := own_some hown5 hn0; have Y5 := HY.out.keep HB5; have c5 := Y5.cell (j := 5) rfl; have f5 := Y5.frozen 5; have z5 := Y5.lt))
  have XG : CellsBox w5 g 52 (flatSl fs ++ cur.toList.drop (fs.length * 2)) := by
    unfold CellsBox
    rw [g2]
    have e : flatSl fs ++ cur.toList.drop (fs.length * 2) = cur.toList := by
      have : flatSl fs = cur.toList.take (fs.length * 2) := by rw [g6, flatSl, List.flatMap_def]
      rw [this, List.take_append_drop]
    rw [e]
  obtain ⟨rest, hrest⟩ : ∃ rest, rest = cur.toList.drop (fs.length * 2) := ⟨_, rfl⟩
  rw [← hrest] at XG
  have ng0 : g ≠ w.heap.size := by omega
  have ng1 : g ≠ w.heap.size + 1 := by omega
  have ng2 : g ≠ w.heap.size + 1 + 1 := by omega
  have PX := ((HX.out.keep HB5).apart ⟨w.heap.size + 1 + 1, 5, none⟩ (.slice (some ⟨g, 0, none⟩) fs.length c) (by simp only; omega))
  have PR := ((HR.out.keep HB5).apart ⟨w.heap.size + 1 + 1, 5, none⟩ (.slice (some ⟨g, 0, none⟩) fs.length c) (by simp only; omega))
  have PY := (Y5.store 5 (.slice (some ⟨g, 0, none⟩) fs.length c))
  have PG := (XG.apart ⟨w.heap.size + 1 + 1, 5, none⟩ (.slice (some ⟨g, 0, none⟩) fs.length c) (by simp only; omega))
  have PB := ((HB.trans (HB5.mono hz)).setCell (p := ⟨w.heap.size + 1 + 1, 5, none⟩) (by simp only; omega) (.slice (some ⟨g, 0, none⟩) fs.length c))
  have hwg : w.heap.size ≤ g := by omega
  clear hown5 hgrow5 c5 f5 z5 Y5 XG g1 g2 g5 g6 hrest HX HR HY HN3 HB HB5 a5 za y0 z2 HN HFL
  refine (?_ : ∀ W6 : World, CellsBox W6 w.heap.size 28 [.slice fA ff.length fC, vi slo, vi shi, .slice pA fp.length pC, vi fc, .slice (some ⟨sb, so, none⟩) fs.length sC] → CellsBox W6 (w.heap.size + 1) 28 [.slice none 0 0, vi 0, vi 0, .slice none 0 0, vi 0, .slice none 0 0] → CellsBox W6 (w.heap.size + 1 + 1) 28 [.slice fA ff.length fC, vi slo, vi shi, .slice pA fp.length pC, vi fc, .slice (some ⟨g, 0, none⟩) fs.length c] → CellsBox W6 g 52 (flatSl fs ++ rest) → Below w.heap.size w W6 → Code.wp _ _ _ _ W6) _ PX PR PY PG PB
  clear PX PR PY PG PB
  intro W6 X R Y G HB
  have a5 := X.cell (j := 5) rfl
  have za := X.lt
  have y5 := Y.cell (j := 5) rfl
  have zy := Y.lt
  have s0 : W6.cell? ⟨sb, so + k * 2, none⟩ = some (.slice sa sl.length sc) := (HB.cell hsb).trans HS0.out
  have zs := cell_lt s0
  have g0 : W6.cell? ⟨g, 0 + k * 2, none⟩ = some (.slice sa sl.length sc) := by rw [Nat.zero_add]; exact G.cell (by rw [List.getElem?_append_left (by rw [HLEN.out]; omega)]; exact HAT.out.1)
  have g1 : W6.cell? ⟨g, 0 + (k * 2 + 1), none⟩ = some (vi st) := by rw [Nat.zero_add]; exact G.cell (by rw [List.getElem?_append_left (by rw [HLEN.out]; omega)]; exact HAT.out.2)
  rw [Nat.zero_add] at g0 g1
  have q0 := G.frozen (k * 2)
  have q1 := G.frozen (k * 2 + 1)
  have zg := G.lt
  have NX := (X.apart ⟨g, k * 2, none⟩ (.slice sa sl.length sc) (by simp only; omega)).apart ⟨g, k * 2 + 1, none⟩ (vi u) (by simp only; omega)
  have NR := (R.apart ⟨g, k * 2, none⟩ (.slice sa sl.length sc) (by simp only; omega)).apart ⟨g, k * 2 + 1, none⟩ (vi u) (by simp only; omega)
  have NY := (Y.apart ⟨g, k * 2, none⟩ (.slice sa sl.length sc) (by simp only; omega)).apart ⟨g, k * 2 + 1, none⟩ (vi u) (by simp only; omega)
  have NG := (G.store (k * 2) (.slice sa sl.length sc)).store (k * 2 + 1) (vi u)
  have NB := (HB.setCell (p := ⟨g, k * 2, none⟩) hwg (.slice sa sl.length sc)).setCell (p := ⟨g, k * 2 + 1, none⟩) hwg (vi u)
  have HNN := Lib.hid (And.intro NR (And.intro NY (And.intro NG NB)))
  clear NX NR NY NG NB X R Y G HB
  go_region_with fail
  all_goals
    refine (?_ : ∀ W9 : World, CellsBox W9 (w.heap.size + 1) 28 [.slice none 0 0, vi 0, vi 0, .slice none 0 0, vi 0, .slice none 0 0] → CellsBox W9 (w.heap.size + 1 + 1) 28 [.slice fA ff.length fC, vi slo, vi shi, .slice pA fp.length pC, vi fc, .slice (some ⟨g, 0, none⟩) fs.length c] → CellsBox W9 g 52 (((flatSl fs ++ rest).set (k * 2) (.slice sa sl.length sc)).set (k * 2 + 1) (vi u)) → Below w.heap.size w W9 → Exit.then _ _ _ _ W9) _ HNN.out.1 HNN.out.2.1 HNN.out.2.2.1 (by first | exact HNN.out.2.2.2 | exact HNN.out.2.2.2.drew)
    clear HNN s0 zs g0 g1 q0 q1 zg a5 za y5 zy
    intro W9 R Y G HB
    have r0 := R.cell (j := 0) rfl
    have r1 := R.cell (j := 1) rfl
    have r2 := R.cell (j := 2) rfl
    have r3 := R.cell (j := 3) rfl
    have r4 := R.cell (j := 4) rfl
    have r5 := R.cell (j := 5) rfl
    have q0 := R.frozen 0
    have q1 := R.frozen 1
    have q2 := R.frozen 2
    have q3 := R.frozen 3
    have q4 := R.frozen 4
    have q5 := R.frozen 5
    have zr := R.lt
    have y0 := Y.cell (j := 0) rfl
    have y1 := Y.cell (j := 1) rfl
    have y2 := Y.cell (j := 2) rfl
    have y3 := Y.cell (j := 3) rfl
    have y4 := Y.cell (j := 4) rfl
    have y5 := Y.cell (j := 5) rfl
    have zy := Y.lt
    have NG := Lib.hid ((((((G.apart ⟨w.heap.size + 1, 0, none⟩ (.slice fA ff.length fC) (by simp only; omega)).apart ⟨w.heap.size + 1, 1, none⟩ (vi slo) (by simp only; omega)).apart ⟨w.heap.size + 1, 2, none⟩ (vi shi) (by simp only; omega)).apart ⟨w.heap.size + 1, 3, none⟩ (.slice pA fp.length pC) (by simp only; omega)).apart ⟨w.heap.size + 1, 4, none⟩ (vi fc) (by simp only; omega)).apart ⟨w.heap.size + 1, 5, none⟩ (.slice (some ⟨g, 0, none⟩) fs.length c) (by simp only; omega))
    have NR := Lib.hid ((((((R.store 0 (.slice fA ff.length fC)).store 1 (vi slo)).store 2 (vi shi)).store 3 (.slice pA fp.length pC)).store 4 (vi fc)).store 5 (.slice (some ⟨g, 0, none⟩) fs.length c))
    have NB := Lib.hid ((((((HB.setCell (p := ⟨w.heap.size + 1, 0, none⟩) (by simp only; omega) (.slice fA ff.length fC)).setCell (p := ⟨w.heap.size + 1, 1, none⟩) (by simp only; omega) (vi slo)).setCell (p := ⟨w.heap.size + 1, 2, none⟩) (by simp only; omega) (vi shi)).setCell (p := ⟨w.heap.size + 1, 3, none⟩) (by simp only; omega) (.slice pA fp.length pC)).setCell (p := ⟨w.heap.size + 1, 4, none⟩) (by simp only; omega) (vi fc)).setCell (p := ⟨w.heap.size + 1, 5, none⟩) (by simp only; omega) (.slice (some ⟨g, 0, none⟩) fs.length c))
    clear R Y G HB
    go_wp2_with fail
    refine (?_ : ∀ Z : World, CellsBox Z g 52 (((flatSl fs ++ rest).set (k * 2) (.slice sa sl.length sc)).set (k * 2 + 1) (vi u)) → CellsBox Z (w.heap.size + 1) 28 [.slice fA ff.length fC, vi slo, vi shi, .slice pA fp.length pC, vi fc, .slice (some ⟨g, 0, none⟩) fs.length c] → Below w.heap.size w Z → bodyPost _ _ _ _ _ Z) _ NG.out NR.out NB.out
    clear r0 r1 r2 r3 r4 r5 q0 q1 q2 q3 q4 q5 zr y0 y1 y2 y3 y4 y5 zy NG NR NB
    intro Z ZX ZR ZB
    have r0 := ZR.cell (j := 0) rfl
    have r1 := ZR.cell (j := 1) rfl
    have r2 := ZR.cell (j := 2) rfl
    have r3 := ZR.cell (j := 3) rfl
    have r4 := ZR.cell (j := 4) rfl
    have r5 := ZR.cell (j := 5) rfl
    refine bodyPost_ret (v := .agg #[.slice fA ff.length fC, vi slo, vi shi, .slice pA fp.length pC, vi fc, .slice (some ⟨g, 0, none⟩) fs.length c]) (by simp [results, Tryd.results48, go_sem, r0, r1, r2, r3, r4, r5]) rfl ⟨g, c, ?_, HWR2.out Z g c rest ZB ?_ g3 g4, ZB⟩
    · rw [E.out]
    · have hl := HLEN.out
      have h1 : (flatSl fs).set (k * 2) (.slice sa sl.length sc) = flatSl fs := by
        apply List.ext_getElem?
        intro i
        rw [List.getElem?_set]
        split
        · rename_i hi2
          subst hi2
          rw [HAT.out.1, if_pos (by omega)]
        · rfl
      rw [List.set_append_left _ _ (by omega), h1, List.set_append_left _ _ (by omega)] at ZX
      rw [HSET.out]
      exact ZX
end Go.Proofs.YtomgnpfpaodpiaaDoor

/- An append to a list of one's own: it stays where it is, or lies in new memory. -/
namespace Go.Proofs.YtomgnpfpaodpiaaDoor
open Go Go.RowKit
set_option maxHeartbeats 2000000
variable {P : Program}
theorem run_append_fresh (w : World) (base : Nat) (t ty e : TypeId) (i : TypeInfo) (z : Value) (size bytes : Nat) (ht : P.underlying t = some (.slice e)) (hi : P.info? e = some i) (hz : i.zero = some z)
    (hsize : i.size = size) (hby : i.bytes = bytes) (hzs : z.cells.size = size) (hsz : 0 < size)
    (v : Value) (n : Nat) (xs : List Value) (hown : w.ownsRow base e size v n xs)
    (a : Addr) (m c : Nat) (news : List Value) (hl : news.length = m * size) (hnews : ∀ j u, news[j]? = some u → w.cell? (a.add j) = some u) (h1 : ∀ u ∈ news, u.oneCell' = true)
    (h63 : n + m ≤ maxLen) (hbytes : (n + m) * bytes ≤ 140737488355328) (hbase : base ≤ w.heap.size) :
    ∃ v' w', (Builtin.append_ #[t, t] ty #[v, .slice (some a) m c]).run P w = .ok v' w' ∧ w'.ownsRow base e size v' (n + m) (xs ++ news) ∧ w.grownBy w' v.ownBlock ∧ (v'.ownBlock = v.ownBlock ∨ ∀ k, v'.ownBlock = some k → w.heap.size ≤ k) := by
  obtain ⟨v', w', hr, h2, h3, -⟩ := run_append_own (P := P) w base t ty e i z size bytes ht hi hz hsize hby hzs hsz v n xs hown a m c news hl hnews h1 h63 hbytes hbase
  refine ⟨v', w', hr, h2, h3, ?_⟩
  rcases hown.2 with ⟨e1, e2⟩ | ⟨g, cap, cur, rfl, hbg, hg, hnc, hcm, hcs, htake⟩
  · right
    subst e1
    subst e2
    have hx : xs = [] := List.eq_nil_of_length_eq_zero (by simpa using hown.1)
    subst hx
    obtain ⟨v2, w2, hr2, k2, -, -⟩ := run_append_own (P := P) w w.heap.size t ty e i z size bytes ht hi hz hsize hby hzs hsz (.slice none 0 0) 0 [] (World.ownsRow_nil w _ e size) a m c news hl hnews h1 h63 hbytes (Nat.le_refl _)
    rw [hr] at hr2
    cases hr2
    exact fun k hk => (k2.lt k hk).1
  · by_cases hroom : n + m ≤ cap
    · left
      have hfit : n * i.size + news.length ≤ cur.size := by
        rw [hl, hcs, hsize, ← Nat.add_mul]
        exact Nat.mul_le_mul_right _ hroom
      have hr2 := run_append_room (P := P) w t ty e i ht hi g n cap cur hg a m c news (by rw [hsize]; exact hl) hnews h1 hroom hfit
      rw [hr] at hr2
      cases hr2
      rfl
    · right
      have hlo : xs.length = n * i.size := by rw [hsize]; exact hown.1
      have hr2 := run_append_grow (P := P) w t ty e i z ht hi hz ⟨g, 0, none⟩ n cap xs hlo (hown.cells (g := g) rfl) a m c news (by rw [hsize]; exact hl) hnews (by omega) (by simp only [maxLen] at h63; omega) (by rw [hby]; exact growslice_fits (by omega) hbytes)
      rw [hr] at hr2
      cases hr2
      intro k hk
      have : some w.heap.size = some k := hk
      cases this
      exact Nat.le_refl _
theorem wp_append_fresh (w : World) {o : Oper} {a : Act} {K : Act → World → Prop} {Q : Exit → Act → World → Prop} (s x : Operand) (t : TypeId)
    (ho : o.op = .call { callee := .builtin .append, args := #[s, x], argTypes := #[t, t] })
    (base : Nat) (e : TypeId) (i : TypeInfo) (z : Value) (size bytes : Nat) (ht : P.underlying t = some (.slice e)) (hi : P.info? e = some i) (hz : i.zero = some z)
    (hsize : i.size = size) (hby : i.bytes = bytes) (hzs : z.cells.size = size) (hsz : 0 < size)
    (v : Value) (n : Nat) (xs : List Value) (hs : a.eval s = v) (hown : w.ownsRow base e size v n xs)
    (ad : Addr) (m c : Nat) (news : List Value) (hx : a.eval x = .slice (some ad) m c) (hl : news.length = m * size) (hnews : ∀ j u, news[j]? = some u → w.cell? (ad.add j) = some u) (h1 : ∀ u ∈ news, u.oneCell' = true)
    (h63 : n + m ≤ maxLen) (hbytes : (n + m) * bytes ≤ 140737488355328) (hbase : base ≤ w.heap.size)
    (h : ∀ v' w', w'.ownsRow base e size v' (n + m) (xs ++ news) → w.grownBy w' v.ownBlock → (v'.ownBlock = v.ownBlock ∨ ∀ k, v'.ownBlock = some k → w.heap.size ≤ k) → K (a.put o.dst v') w') : o.wp P a w K Q := by
  obtain ⟨v', w', hr, h2, h3, h4⟩ := run_append_fresh (P := P) w base t o.type e i z size bytes ht hi hz hsize hby hzs hsz v n xs hown ad m c news hl hnews h1 h63 hbytes hbase
  have hsem : (execOp a.eval o).run P w = .ok (.value v') w' := by
    unfold execOp
    simp only [ho, resolve, invoke, builtin, Sem.run_bind, Sem.run_pure, Result.andThen_ok, List.map_toArray, List.map_cons, List.map_nil, hs, hx, hr]
  unfold Oper.wp
  rw [hsem]
  exact h v' w' h2 h3 h4
end Go.Proofs.YtomgnpfpaodpiaaDoor

