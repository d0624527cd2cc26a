/- Contracts of offers. -/
import Derived.Test.YtpcajmkmmkmekaaGreatDoorGf
import Derived.Test.YtpcajmkmmkmekaaGreatDoorGb
import Derived.WalkMore
set_option linter.unusedVariables false
set_option linter.unusedSimpArgs false
namespace Go.Proofs.YtpcajmkmmkmekaaGreatDoor
open Go Go.RowKit Go.Shelf
set_option maxHeartbeats 2000000
attribute [local go_sem] Oper.semAt_some
def sizeO (l : List Fit) (n : Int) : Option Int := (l.find? fun f => f.size == n).map Fit.price
def offerO (x : Issue) (it : Item) : Option Int := match x.entries.find? fun e => e.good == it.good with | some e => if hasColour e.colours it.colour then sizeO e.sizes it.size else none | none => none
def offersL (it : Item) (bs : List (Nat × Issue)) : List (Issue × Int) := bs.filterMap fun p => (offerO p.2 it).map fun n => (p.2, n)
def offC (p : Issue × Int) : List Value := [vi p.1.lo, vi p.1.hi, vi p.1.held, p.1.slice, vi p.2]
theorem offers_no {it : Item} {bs : List (Nat × Issue)} {i : Nat} {x : Issue} (h : offerO x it = none) : offersL it (bs ++ [(i, x)]) = offersL it bs := by simp [offersL, h]
theorem offers_yes {it : Item} {g : Int} {bs : List (Nat × Issue)} {i : Nat} {x : Issue} (h : offerO x it = some g) : offersL it (bs ++ [(i, x)]) = offersL it bs ++ [(x, g)] := by simp [offersL, h]
theorem offers_len (it : Item) (bs : List (Nat × Issue)) : (offersL it bs).length ≤ bs.length := List.length_filterMap_le _ _
theorem info_offer : (Tryz.prog.info? 132).map (fun i => (i.zero, i.size, i.bytes)) = some (some (.agg #[vi 0, vi 0, vi 0, .slice none 0 0, vi 0]), 5, 56) := by kernel_rfl
def CellsBox (W : World) (B : Nat) (t : TypeId) (cs : List Value) : Prop := W.heap[B]? = some (.cells cs.toArray t (0, 0))
theorem cellsBox_own {β : Type} (B : Nat) (t : TypeId) (f : β → List Value) : Own (fun s W => CellsBox W B t (f s)) := fun s X Y row hs hg hrow =>
  (hg.block B (Array.getElem?_eq_some_iff.1 hs).1 (fun e' => by obtain ⟨o, ho, hc⟩ := hrow B e'.symm; rw [show X.heap[B]? = _ from hs] at ho; cases ho; cases hc)).trans hs
theorem CellsBox.lt {W : World} {B : Nat} {t : TypeId} {cs : List Value} (h : CellsBox W B t cs) : B < W.heap.size := (Array.getElem?_eq_some_iff.1 h).1
theorem CellsBox.cell {W : World} {B : Nat} {t : TypeId} {cs : List Value} (h : CellsBox W B t cs) {j : Nat} {u : Value} (hj : cs[j]? = some u) : W.cell? ⟨B, j, none⟩ = some u := by
  unfold World.cell?
  dsimp only
  rw [show W.heap[B]? = _ from h]
  simp [hj]
theorem pick4 (p q r s : Bool) (w : World) : (Instr.index 134 (.agg #[.bool p, .bool q, .bool r, .bool s]) (vi 0)).run Tryz.prog w = .ok (.bool p) w ∧ (Instr.index 134 (.agg #[.bool p, .bool q, .bool r, .bool s]) (vi 1)).run Tryz.prog w = .ok (.bool q) w ∧
    (Instr.index 134 (.agg #[.bool p, .bool q, .bool r, .bool s]) (vi 2)).run Tryz.prog w = .ok (.bool r) w ∧ (Instr.index 134 (.agg #[.bool p, .bool q, .bool r, .bool s]) (vi 3)).run Tryz.prog w = .ok (.bool s) w := by
  refine ⟨by kernel_rfl, by kernel_rfl, by kernel_rfl, by kernel_rfl⟩
theorem pick_colour (s c : Int) (h0 : 0 ≤ c) (h3 : c ≤ 3) (w : World) : (Instr.index 134 (coloursV s) (vi c)).run Tryz.prog w = .ok (.bool (hasColour s c)) w := by
  have : c = 0 ∨ c = 1 ∨ c = 2 ∨ c = 3 := by omega
  clear h0 h3
  obtain ⟨h0, h1, h2, h3⟩ := pick4 (hasColour s 0) (hasColour s 1) (hasColour s 2) (hasColour s 3) w
  rcases this with rfl | rfl | rfl | rfl
  · exact h0
  · exact h1
  · exact h2
  · exact h3
theorem find_step {α : Type} {p : α → Bool} {l : List α} {k : Nat} {x : α} (h : (l.take k).find? p = none) (hx : l[k]? = some x) : (p x = false → (l.take (k + 1)).find? p = none) ∧ (p x = true → l.find? p = some x) := by
  obtain ⟨hk, rfl⟩ := List.getElem?_eq_some_iff.1 hx
  refine ⟨fun hp => ?_, fun hp => ?_⟩
  · rw [List.take_succ_eq_append_getElem hk, List.find?_append, h]
    simp [hp]
  · have e : l.find? p = (l.take k ++ l.drop k).find? p := by rw [List.take_append_drop]
    rw [e, List.find?_append, h, List.drop_eq_getElem_cons hk, List.find?_cons, hp]
    rfl
theorem keeps_of_below {A B : World} (h : Below A.heap.size A B) (k : Nat) : KeepsFrom k A B := KeepsFrom.of_grownBy (grown_of_below h) (fun j e => by cases e)
theorem CellsBox.new (W : World) (t : TypeId) (cs : List Value) : CellsBox (W.alloc (.cells cs.toArray t)) W.heap.size t cs := World.alloc_heap_new W _
theorem boxed_below {W W' : World} {B : Nat} {t : TypeId} {v : Value} (h : Boxed W B t v) (hb : Below W.heap.size W W') : Boxed W' B t v := (hb.block B h.lt).trans h
set_option maxRecDepth 100000 in
theorem offers_any (r : Rack) (a b : Int) (it : Item) (w : World) (h : RackAt w w.heap.size r) (hn4 : r.issues.length ≤ 4) (hc0 : 0 ≤ it.colour) (hc3 : it.colour ≤ 3) :
    Calls Tryz.prog 57 #[r.val, .agg #[vi a, vi b], it.val] w fun e w' => ∃ v, e = .returned v ∧ RowsOut 5 ((offersL it (bk r.issues (holdsQ a b) r.issues.length)).map offC) w v w' := by
  obtain ⟨i0, hi, hy0, hy1, hy2⟩ := info_parts info_offer
  obtain ⟨ig, is, ic⟩ := it
  refine (callsIn_wide (n := 6)).1 ?_
  refine callsIn_of_wp_marks Tryz.func57 rfl trivial ?_ rfl
  simp only [Tryz.ntmps57, List.size_toArray, List.length_cons, List.length_nil, Nat.reduceAdd, Nat.reduceSub, Array.replicate_succ, Array.replicate_zero, List.push_toArray, List.append_toArray, List.nil_append, List.cons_append]
  gi_wp2_with fail
  refine wpIn_wide.2 (wp_scope_straight ((wpIn_wide (n := 6)).1 ?_))
  gi_wp2_with fail
  apply wpIn_label
  gi_wp2_with fail
  refine ⟨trivial, ?_⟩
  refine (callsIn_wide.2 (books_holds r a b _)).mono ?_
  rintro e w2 ⟨bR, bS, bD, rfl, ⟨y1, y2, y3⟩, hBk, hb2⟩
  gi_wp2_with fail
  have hz2 := hb2.size
  simp only [World.size_alloc] at hz2 y1 y2 y3
  have bL : Boxed w2 (w.heap.size + 1 + 1 + 1) 96 (.slice none 0 0) := by
    refine (hb2.block (w.heap.size + 1 + 1 + 1) (by simp)).trans ?_
    have := Boxed.new (((w.alloc (.cells #[vi r.goods, r.slice] 56)).alloc (.cells #[vi a, vi b] 26)).alloc (.cells #[vi ig, vi is, vi ic] 43)) 96 (.slice none 0 0)
    simp only [World.size_alloc] at this
    exact this
  have i0' : w2.cell? ⟨w.heap.size + 1 + 1, 0, none⟩ = some (vi ig) := by
    rw [hb2.cell (p := ⟨w.heap.size + 1 + 1, 0, none⟩) (by simp)]
    simp [go_sem]
  have i1' : w2.cell? ⟨w.heap.size + 1 + 1, 1, none⟩ = some (vi is) := by
    rw [hb2.cell (p := ⟨w.heap.size + 1 + 1, 1, none⟩) (by simp)]
    simp [go_sem]
  have i2' : w2.cell? ⟨w.heap.size + 1 + 1, 2, none⟩ = some (vi ic) := by
    rw [hb2.cell (p := ⟨w.heap.size + 1 + 1, 2, none⟩) (by simp)]
    simp [go_sem]
  have hB2 : Below w.heap.size w w2 := by (repeat (first | exact Below.refl _ _ | refine Below.setCell ?_ (by first | omega | (simp; omega) | (simp; done)) _ | refine Below.alloc ?_ (by first | omega | (simp; omega) | (simp; done)) _ | refine Below.drew ?_ | refine below_drewN ?_ _ | refine Below.trans ?_ (Below.mono (by assumption) (by first | omega | (simp; omega) | (simp; done)))))
  have hcap := IssuesAt.cap h
  have hfew := IssuesAt.few h
  have hlen := IssuesAt.len h
  clear hb2
  refine wpIn_rangeFunc_ownH rfl (by omega) (gf := 88) (lb := #[.pointer (some ⟨bR, 0, none⟩), .pointer (some ⟨bS, 0, none⟩), .pointer (some ⟨bD, 0, none⟩)]) rfl trivial (enters_of Tryz.func88 (by kernel_rfl) rfl)
    (books_stops_holds _ (by omega) a b bR bS bD w.heap.size (w.heap.size + 1 + 1 + 1) r.ad r.cap r.issues w2 hBk (by omega) (by omega) (by omega) (by omega) (h.below hB2)) (fun h k => Spare.trans h k) (spareK_b (Nat.le_refl _)) (Below.refl _ _) (fun _ => rfl)
    (fun pre W => (∃ v, Boxed W (w.heap.size + 1 + 1 + 1) 96 v ∧ W.ownsRow w2.heap.size 132 5 v (offersL ⟨ig, is, ic⟩ (Bks pre)).length ((offersL ⟨ig, is, ic⟩ (Bks pre)).map offC).flatten ∧ True) ∧ Spare w2.heap.size (w.heap.size + 1 + 1 + 1) w2 W)
    (fun _ _ _ => False)
    (OwnFrom.and (Own.from (holdsRow_own w2.heap.size (w.heap.size + 1 + 1 + 1) 96 132 5 (fun pre => (offersL ⟨ig, is, ic⟩ (Bks pre)).length) (fun pre => ((offersL ⟨ig, is, ic⟩ (Bks pre)).map offC).flatten) (fun _ _ => True)) _) (ownFrom_spare (Nat.le_refl _) (Nat.le_refl _)))
    (fun _ _ _ _ _ hs _ _ => hs)
    ⟨⟨_, bL, World.ownsRow_nil _ _ _ _, trivial⟩, Spare.refl _ _ _⟩
    (fun x a' W => ∃ Bx, w2.heap.size ≤ Bx ∧ CellsBox W Bx 82 [vi x.1.2.lo, vi x.1.2.hi, vi x.1.2.held, x.1.2.slice] ∧ a' = { tmps := #[r.val, .agg #[vi a, vi b], .agg #[vi ig, vi is, vi ic], .pointer (some ⟨w.heap.size, 0, none⟩), .pointer (some ⟨w.heap.size + 1, 0, none⟩), .pointer (some ⟨w.heap.size + 1 + 1, 0, none⟩), .slice none 0 0, .pointer (some ⟨w.heap.size + 1 + 1 + 1, 0, none⟩), undef, .pointer (some ⟨Bx, 0, none⟩), undef, undef, undef, undef, r.val, .agg #[vi a, vi b], booksV bR bS bD, vi x.1.1, x.1.2.val, undef, undef, undef, undef, undef, undef, undef, undef, undef, undef, undef, undef, undef, undef, undef, undef, undef, undef, undef, undef, undef, undef, undef, undef, undef, undef, undef, undef, undef, undef, undef, undef, undef, undef, undef, undef, undef, undef, undef, undef, undef, undef, undef, undef], defers := [] })
    (fun x a' _ X Y row hs hg hr => by obtain ⟨Bx, h1, h2, h3⟩ := hs; exact ⟨Bx, h1, cellsBox_own Bx 82 (fun (_ : Unit) => [vi x.1.2.lo, vi x.1.2.hi, vi x.1.2.held, x.1.2.slice]) () X Y row h2 hg (fun r e => (hr r e).2), h3⟩)
    ?assign ?body ?done ?stop
  case assign =>
    rintro l pre ⟨⟨i, x⟩, hx, hqx⟩ W K ⟨⟨v, hv, hrow, _⟩, hS⟩ hK
    have hs9 := hS.size
    gi_wp2
    exact hK _ _ ((KeepsOthers.alloc _ _).from _) (spare_of_below _ ((Below.refl _ W).alloc (Nat.le_refl _) _) (by omega)) ⟨⟨v, hv.alloc _, hrow.alloc _, trivial⟩, hS.trans (spare_of_below _ ((Below.refl _ W).alloc (Nat.le_refl _) _) (by omega))⟩ ⟨W.heap.size, by omega, CellsBox.new W 82 [vi x.lo, vi x.hi, vi x.held, x.slice], rfl⟩
  case body =>
    rintro l pre ⟨⟨i, x⟩, hx, hqx⟩ a' W hl ⟨rr, hrr⟩ ⟨⟨v, hv, hrow, _⟩, hS⟩ ⟨Bx, hBx, hbx, rfl⟩ hlt
    have hs9 := hS.size
    have dL := hv.cell
    have d0 := (hS.cell (p := ⟨w.heap.size + 1 + 1, 0, none⟩) (by simp; omega) (by simp)).trans i0'
    have d1 := (hS.cell (p := ⟨w.heap.size + 1 + 1, 1, none⟩) (by simp; omega) (by simp)).trans i1'
    have d2 := (hS.cell (p := ⟨w.heap.size + 1 + 1, 2, none⟩) (by simp; omega) (by simp)).trans i2'
    have x0 := hbx.cell (j := 0) rfl
    have x1 := hbx.cell (j := 1) rfl
    have x2 := hbx.cell (j := 2) rfl
    have x3 := hbx.cell (j := 3) rfl
    have zx := hbx.lt
    have hml : (offersL ⟨ig, is, ic⟩ (Bks pre)).length ≤ pre.length := by have := offers_len ⟨ig, is, ic⟩ (Bks pre); rwa [List.length_map] at this
    have hp : pre.length < r.issues.length := hlt
    have hxe : IssueAt W W.heap.size x := ((IssuesAt.at_ h hx).below (hB2.trans (hS.below (by omega) (by omega)))).more (by omega)
    have K := entryOfGood_any x ig W hxe
    have hL : w.heap.size + 1 + 1 + 1 < w2.heap.size := bL.lt
    rcases ho : (x.entries.find? fun e => e.good == ig) with _ | e0
    · rw [ho] at K
      have hno : offersL ⟨ig, is, ic⟩ (Bks (pre ++ [⟨(i, x), hx, hqx⟩])) = offersL ⟨ig, is, ic⟩ (Bks pre) := by rw [Bks, List.map_append]; exact offers_no (by simp [offerO, ho])
      have Hno := Lib.hid hno
      clear hno ho
      gi_wp2_with fail
      refine ⟨trivial, ?_⟩
      refine (CallsIn.inRound l (callsIn_wide.2 (show Calls _ _ _ _ (fun e' w' => e' = .returned (.tuple #[.agg #[vi 0, vi 0, vi 0, .slice none 0 0], .bool false]) ∧ Below W.heap.size W w') from K))).mono ?_
      rintro e w3 ⟨rfl, hb3⟩
      have hz3 := hb3.size
      gi_wp2_with fail
      (refine wpIn_region_grow_round (by kernel_rfl) (by kernel_rfl) (by kernel_rfl) ?_; (repeat (go_big_quiet_step (fail))); refine wpQuiet_nil ?_; intro w1 hw1; have hb1 := below_of_plus hw1; clear hw1; obtain ⟨⟨hc1, hf1, hs1⟩, hz1⟩ := after hb1; (try simp only [World.size_alloc, World.size_setCell, World.size_drew] at hz1))
      gi_wp2
      have hBW : Below W.heap.size W w1 := by (repeat (first | exact Below.refl _ _ | refine Below.setCell ?_ (by first | omega | (simp; omega) | (simp; done)) _ | refine Below.alloc ?_ (by first | omega | (simp; omega) | (simp; done)) _ | refine Below.drew ?_ | refine below_drewN ?_ _ | refine Below.trans ?_ (Below.mono (by assumption) (by first | omega | (simp; omega) | (simp; done)))))
      refine ⟨keeps_of_below hBW _, spare_of_below _ hBW (by omega), ?_⟩
      show (∃ v, Boxed w1 (w.heap.size + 1 + 1 + 1) 96 v ∧ w1.ownsRow w2.heap.size 132 5 v (offersL ⟨ig, is, ic⟩ (Bks (pre ++ [⟨(i, x), hx, hqx⟩]))).length ((offersL ⟨ig, is, ic⟩ (Bks (pre ++ [⟨(i, x), hx, hqx⟩]))).map offC).flatten ∧ True) ∧ Spare w2.heap.size (w.heap.size + 1 + 1 + 1) w2 w1
      rw [Hno.out]
      exact ⟨⟨v, boxed_below hv hBW, own_keep hrow hBW, trivial⟩, hS.trans (spare_of_below _ hBW (by omega))⟩
    · rw [ho] at K
      have hcap9 := EntriesAt.at_ hxe (List.getElem?_of_mem (List.mem_of_find?_eq_some ho)).choose_spec
      rcases hcol : hasColour e0.colours ic with _ | _
      · have hno : offersL ⟨ig, is, ic⟩ (Bks (pre ++ [⟨(i, x), hx, hqx⟩])) = offersL ⟨ig, is, ic⟩ (Bks pre) := by rw [Bks, List.map_append]; exact offers_no (by simp [offerO, ho, hcol])
        have Hno := Lib.hid hno
        have hpk := pick_colour e0.colours ic hc0 hc3
        rw [hcol] at hpk
        clear hno ho hcol
        gi_wp2_with fail
        refine ⟨trivial, ?_⟩
        refine (CallsIn.inRound l (callsIn_wide.2 (show Calls _ _ _ _ (fun e' w' => e' = .returned (.tuple #[e0.val, .bool true]) ∧ Below W.heap.size W w') from K))).mono ?_
        rintro e w3 ⟨rfl, hb3⟩
        have hz3 := hb3.size
        have D2 := (hb3.cell (p := ⟨w.heap.size + 1 + 1, 2, none⟩) (by simp; omega)).trans d2
        have zd : w.heap.size + 1 + 1 < w3.heap.size := by omega
        have zd2 : w.heap.size + 1 + 1 < w3.heap.size + 1 := by omega
        have zd3 : ¬ (w.heap.size + 1 + 1 = w3.heap.size) := by omega
        gi_wp2_with fail
        (refine wpIn_region_grow_round (by kernel_rfl) (by kernel_rfl) (by kernel_rfl) ?_; (repeat (go_big_quiet_step ((go_at_call 84; refine Calls.grow_of (coloursOf_any _ _))))); refine wpQuiet_nil ?_; intro w1 hw1; have hb1 := below_of_plus hw1; clear hw1; obtain ⟨⟨hc1, hf1, hs1⟩, hz1⟩ := after hb1; (try simp only [World.size_alloc, World.size_setCell, World.size_drew] at hz1))
        gi_wp2
        have hBW : Below W.heap.size W w1 := by (repeat (first | exact Below.refl _ _ | refine Below.setCell ?_ (by first | omega | (simp; omega) | (simp; done)) _ | refine Below.alloc ?_ (by first | omega | (simp; omega) | (simp; done)) _ | refine Below.drew ?_ | refine below_drewN ?_ _ | refine Below.trans ?_ (Below.mono (by assumption) (by first | omega | (simp; omega) | (simp; done)))))
        refine ⟨keeps_of_below hBW _, spare_of_below _ hBW (by omega), ?_⟩
        show (∃ v, Boxed w1 (w.heap.size + 1 + 1 + 1) 96 v ∧ w1.ownsRow w2.heap.size 132 5 v (offersL ⟨ig, is, ic⟩ (Bks (pre ++ [⟨(i, x), hx, hqx⟩]))).length ((offersL ⟨ig, is, ic⟩ (Bks (pre ++ [⟨(i, x), hx, hqx⟩]))).map offC).flatten ∧ True) ∧ Spare w2.heap.size (w.heap.size + 1 + 1 + 1) w2 w1
        rw [Hno.out]
        exact ⟨⟨v, boxed_below hv hBW, own_keep hrow hBW, trivial⟩, hS.trans (spare_of_below _ hBW (by omega))⟩
      · have hpk := pick_colour e0.colours ic hc0 hc3
        rw [hcol] at hpk
        have hoff : Hid (offerO x ⟨ig, is, ic⟩ = sizeO e0.sizes is) := by simp [offerO, ho, hcol, Hid]
        have hee : EntryAt W W.heap.size e0 := EntriesAt.each hxe e0 (List.mem_of_find?_eq_some ho)
        have hec := hee.cap
        have hel := hee.len
        clear ho hcol
        obtain ⟨en, eg, ec, eA, ecap, el⟩ := e0
        gi_wp2_with fail
        refine ⟨trivial, ?_⟩
        refine (CallsIn.inRound l (callsIn_wide.2 (show Calls _ _ _ _ (fun e' w' => e' = .returned (.tuple #[.agg #[vi en, vi eg, vi ec, .slice eA el.length ecap], .bool true]) ∧ Below W.heap.size W w') from K))).mono ?_
        rintro e w3 ⟨rfl, hb3⟩
        have hz3 := hb3.size
        have D2 := (hb3.cell (p := ⟨w.heap.size + 1 + 1, 2, none⟩) (by simp; omega)).trans d2
        have zd : w.heap.size + 1 + 1 < w3.heap.size := by omega
        have zd2 : w.heap.size + 1 + 1 < w3.heap.size + 1 := by omega
        have zd3 : ¬ (w.heap.size + 1 + 1 = w3.heap.size) := by omega
        gi_wp2_with fail
        (refine wpIn_region_grow_round (by kernel_rfl) (by kernel_rfl) (by kernel_rfl) ?_; (repeat (go_big_quiet_step ((go_at_call 84; refine Calls.grow_of (coloursOf_any _ _))))); refine wpQuiet_nil ?_; intro w1 hw1; have hb1 := below_of_plus hw1; clear hw1; obtain ⟨⟨hc1, hf1, hs1⟩, hz1⟩ := after hb1; (try simp only [World.size_alloc, World.size_setCell, World.size_drew] at hz1))
        have hBW : Below W.heap.size W w1 := by (repeat (first | exact Below.refl _ _ | refine Below.setCell ?_ (by first | omega | (simp; omega) | (simp; done)) _ | refine Below.alloc ?_ (by first | omega | (simp; omega) | (simp; done)) _ | refine Below.drew ?_ | refine below_drewN ?_ _ | refine Below.trans ?_ (Below.mono (by assumption) (by first | omega | (simp; omega) | (simp; done)))))
        have ze : w3.heap.size < w1.heap.size := by omega
        gi_wp2_with fail
        have Hee := Lib.hid hee
        have HX := Lib.hid hx
        clear K x0 x1 x2 x3 dL d0 d1 d2 D2 hb3 hb1 hc1 hf1 hs1 hpk hee
        gi_loopw [40] (fun i wr => ∃ k : Nat, k ≤ el.length ∧ i = .int .i64 k ∧ Below W.heap.size W wr ∧ w1.heap.size ≤ wr.heap.size ∧ Hid ((el.take k).find? (fun f => f.size == is) = none)) (fun i _ => el.length - (intOf i).toNat)
        case atStart => exact ⟨0, Nat.zero_le _, rfl, hBW, Nat.le_refl _, by simp [Hid]⟩
        case round =>
          obtain ⟨k, hk, rfl, hBF, hsz, hnone⟩ := hrel
          have hbs := hBF.size
          by_cases hlt2 : k < el.length
          · obtain ⟨f, hf⟩ : ∃ f, el[k]? = some f := ⟨_, List.getElem?_eq_getElem hlt2⟩
            obtain ⟨bb, off, rfl, hb, c0, c1, c2, c3⟩ := row4 (FitsAt.below Hee.out hBF).row hf rfl
            have D1 := (hBF.cell (p := ⟨w.heap.size + 1 + 1, 1, none⟩) (by simp; omega)).trans ((hS.cell (p := ⟨w.heap.size + 1 + 1, 1, none⟩) (by simp; omega) (by simp)).trans i1')
            have zi : w.heap.size + 1 + 1 < wr.heap.size := by omega
            have fs := find_step hnone.out hf
            have hvr := boxed_below hv hBF
            have hrowr := own_keep hrow hBF
            have DL := hvr.cell
            have FL := hvr.frozen
            have zL : w.heap.size + 1 + 1 + 1 < wr.heap.size := by omega
            have X0 := (hBF.cell (p := ⟨Bx, 0, none⟩) zx).trans (hbx.cell (j := 0) rfl)
            have X1 := (hBF.cell (p := ⟨Bx, 1, none⟩) zx).trans (hbx.cell (j := 1) rfl)
            have X2 := (hBF.cell (p := ⟨Bx, 2, none⟩) zx).trans (hbx.cell (j := 2) rfl)
            have X3 := (hBF.cell (p := ⟨Bx, 3, none⟩) zx).trans (hbx.cell (j := 3) rfl)
            have zX : Bx < wr.heap.size := by omega
            rcases hsi : f.size == is with _ | _
            · have hn2 := Lib.hid (fs.1 hsi)
              clear fs hf
              gi_wp2
              go_roundw
              case rel => exact ⟨k + 1, by omega, by go_num, by (repeat (first | exact Below.refl _ _ | refine Below.setCell ?_ (by first | omega | (simp; omega) | (simp; done)) _ | refine Below.alloc ?_ (by first | omega | (simp; omega) | (simp; done)) _ | refine Below.drew ?_ | refine below_drewN ?_ _ | refine Below.trans ?_ (Below.mono (by assumption) (by first | omega | (simp; omega) | (simp; done))))), by simp; omega, hn2⟩
              case measure => simp [intOf]; omega
            · have hfs : sizeO el is = some f.price := by simp [sizeO, fs.2 hsi]
              have hyes : offersL ⟨ig, is, ic⟩ (Bks (pre ++ [⟨(i, x), HX.out, hqx⟩])) = offersL ⟨ig, is, ic⟩ (Bks pre) ++ [(x, f.price)] := by rw [Bks, List.map_append]; exact offers_yes (by rw [hoff.out]; exact hfs)
              have Hyes := Lib.hid hyes
              clear hyes fs hf hfs
              gi_wp2_with (gi_at_builtin; go_loud (refine wpListIn_append_own _ rfl _ _ 96 rfl w2.heap.size 132 i0 (.agg #[vi 0, vi 0, vi 0, .slice none 0 0, vi 0]) 5 56 Tryz.underlying96 hi hy0 hy1 hy2 rfl (by decide) _ _ _ rfl ((hrowr.alloc _).alloc _) ⟨wr.heap.size + 1, 0, none⟩ 1 1 [vi x.lo, vi x.hi, vi x.held, x.slice, vi f.price] rfl rfl (by simpa only [World.size_alloc] using cells_new (wr.alloc _) [vi x.lo, vi x.hi, vi x.held, x.slice, vi f.price] _) (by simp [Value.oneCell']) (by unfold maxLen; omega) (by first | omega | (simp; omega) | (simp; done)) (by first | omega | (simp; omega) | (simp; done)) ?_; intro v' w5 hown' hgrow _; obtain ⟨g', cap', rfl⟩ := ownsRow_succ hown'; obtain ⟨hv1, hv2, hr2, hk2, hb2⟩ := appended_spare (hvr.alloc _) (by decide) (hrowr.alloc _) (by simp; omega) hown' hgrow; have hc3 := hv1.cell; have hf3 := hv1.frozen))
              have hB7 : Below W.heap.size W (wr.alloc (.cells #[vi f.size, vi f.lo, vi f.hi, vi f.price] 118)) := by (repeat (first | exact Below.refl _ _ | refine Below.setCell ?_ (by first | omega | (simp; omega) | (simp; done)) _ | refine Below.alloc ?_ (by first | omega | (simp; omega) | (simp; done)) _ | refine Below.drew ?_ | refine below_drewN ?_ _ | refine Below.trans ?_ (Below.mono (by assumption) (by first | omega | (simp; omega) | (simp; done)))))
              refine ⟨(keeps_of_below hB7 _).trans (hk2.from _), (spare_of_below _ hB7 (by omega)).trans hb2, ?_⟩
              show (∃ v, Boxed _ (w.heap.size + 1 + 1 + 1) 96 v ∧ World.ownsRow _ w2.heap.size 132 5 v (offersL ⟨ig, is, ic⟩ (Bks (pre ++ [⟨(i, x), HX.out, hqx⟩]))).length ((offersL ⟨ig, is, ic⟩ (Bks (pre ++ [⟨(i, x), HX.out, hqx⟩]))).map offC).flatten ∧ True) ∧ Spare w2.heap.size (w.heap.size + 1 + 1 + 1) w2 _
              rw [Hyes.out]
              refine ⟨⟨_, hv2, ?_, trivial⟩, hS.trans ((spare_of_below _ hB7 (by omega)).trans hb2)⟩
              simpa [offC] using hr2
          · obtain rfl : k = el.length := by omega
            have hno : offersL ⟨ig, is, ic⟩ (Bks (pre ++ [⟨(i, x), HX.out, hqx⟩])) = offersL ⟨ig, is, ic⟩ (Bks pre) := by rw [Bks, List.map_append]; exact offers_no (by rw [hoff.out]; have := hnone.out; rw [List.take_length] at this; simp [sizeO, this])
            have Hno := Lib.hid hno
            clear hno
            gi_wp2
            refine ⟨keeps_of_below hBF _, spare_of_below _ hBF (by omega), ?_⟩
            show (∃ v, Boxed wr (w.heap.size + 1 + 1 + 1) 96 v ∧ wr.ownsRow w2.heap.size 132 5 v (offersL ⟨ig, is, ic⟩ (Bks (pre ++ [⟨(i, x), HX.out, hqx⟩]))).length ((offersL ⟨ig, is, ic⟩ (Bks (pre ++ [⟨(i, x), HX.out, hqx⟩]))).map offC).flatten ∧ True) ∧ Spare w2.heap.size (w.heap.size + 1 + 1 + 1) w2 wr
            rw [Hno.out]
            exact ⟨⟨v, boxed_below hv hBF, own_keep hrow hBF, trivial⟩, hS.trans (spare_of_below _ hBF (by omega))⟩
  case done =>
    rintro D ys W hD hys ⟨⟨v, hv, hrow, _⟩, hS⟩ hK
    have hc := hv.cell
    have hs9 := hS.size
    have hml : (offersL ⟨ig, is, ic⟩ (Bks ys)).length ≤ (r.issues.length) := by have := offers_len ⟨ig, is, ic⟩ (Bks ys); have h7 := bk_len r.issues (holdsQ a b) r.issues.length; rw [hys] at this ⊢; omega
    have hfin : Below w.heap.size w (W.putObj D (.deferred none)) := (hB2.trans (hS.below (by omega) (by omega))).trans (belowK_b (w := w) (Nat.le_refl _) W D _ _ (by omega) hK rfl rfl)
    have hrow' := ownsRow_putObj hrow (.deferred none) hK rfl
    have HYS := Lib.hid hys
    clear hys
    rcases hrow.2 with ⟨rfl, h0⟩ | ⟨g, c, cur, rfl, hg, hh, hnc, hcm, _⟩
    · have h00 : offersL ⟨ig, is, ic⟩ (Bks ys) = [] := List.eq_nil_of_length_eq_zero h0
      gi_wp2
      refine ⟨by simp, .inl ⟨_, _, rfl, run_takeDeferred hK, ?_⟩⟩
      rw [← HYS.out]
      refine ⟨_, results_tmp rfl _ _ _, _, rfl, ⟨none, 0, by rw [h00]; rfl, by rw [h00]; exact Nat.le_refl _, by omega, ?_⟩, hfin⟩
      rw [h00]
      exact ⟨fun hl => absurd hl (by simp), fun hl => absurd hl (by simp)⟩
    · have hcm' : ((offersL ⟨ig, is, ic⟩ (Bks ys)).length : Int) ≤ c := by omega
      gi_wp2
      refine ⟨by simp, .inl ⟨_, _, rfl, run_takeDeferred hK, ?_⟩⟩
      rw [← HYS.out]
      refine ⟨_, results_tmp rfl _ _ _, _, rfl, ⟨some ⟨g, 0, none⟩, (offersL ⟨ig, is, ic⟩ (Bks ys)).length, by simp, by simp, by omega, ?_⟩, hfin⟩
      exact ⟨row_of_own (by intro r hr; obtain ⟨p, _, rfl⟩ := List.mem_map.1 hr; rfl) hrow', fun _ => ⟨g, 0, rfl, by have := hB2.size; omega⟩⟩
  case stop =>
    rintro D c pre W _ _ h _
    exact h.elim
end Go.Proofs.YtpcajmkmmkmekaaGreatDoor

/- Contracts of least, priceOn. -/
namespace Go.Proofs.YtpcajmkmmkmekaaGreatDoor
open Go Go.RowKit
set_option maxHeartbeats 2000000
structure RowsAt (w : World) (B sz : Nat) (A : Option Addr) (cap : Nat) (m : List (List Value)) : Prop where
  len : m.length ≤ cap
  cap : cap ≤ 17592186044416
  row : RowAt w B sz A m
theorem RowsAt.to {w w' : World} {sz cap : Nat} {A : Option Addr} {m : List (List Value)} (h : RowsAt w w.heap.size sz A cap m) (hb : Below w.heap.size w w') : RowsAt w' w'.heap.size sz A cap m :=
  ⟨h.len, h.cap, (h.row.keep fun p hp => hb.cell hp).more hb.size⟩
theorem RowsOut.at_ {sz : Nat} {m : List (List Value)} {w w' : World} {v : Value} (h : RowsOut sz m w v w') : ∃ A cap, v = .slice A m.length cap ∧ RowsAt w' w'.heap.size sz A cap m := by
  obtain ⟨⟨A, c, rfl, h1, h2, h3, _⟩, _⟩ := h
  exact ⟨A, c, rfl, h1, h2, h3⟩
theorem row5 {w : World} {B : Nat} {A : Option Addr} {α : Type} {enc : α → List Value} {l : List α} (h : RowAt w B 5 A (l.map enc)) {k : Nat} {x : α} {c0 c1 c2 c3 c4 : Value} (hx : l[k]? = some x) (he : enc x = [c0, c1, c2, c3, c4]) :
    ∃ b off, A = some ⟨b, off, none⟩ ∧ b < B ∧ w.cell? ⟨b, off + k * 5, none⟩ = some c0 ∧ w.cell? ⟨b, off + k * 5 + 1, none⟩ = some c1 ∧ w.cell? ⟨b, off + k * 5 + 2, none⟩ = some c2 ∧ w.cell? ⟨b, off + k * 5 + 3, none⟩ = some c3 ∧ w.cell? ⟨b, off + k * 5 + 4, none⟩ = some c4 := by
  have hk : k < l.length := (List.getElem?_eq_some_iff.1 hx).1
  obtain ⟨b, off, hA, hb, hc⟩ := h (by rw [List.length_map]; omega)
  have hr : (l.map enc)[k]? = some [c0, c1, c2, c3, c4] := by rw [List.getElem?_map, hx]; simp [he]
  exact ⟨b, off, hA, hb, hc k _ hr 0 c0 (by omega) rfl, hc k _ hr 1 c1 (by omega) rfl, hc k _ hr 2 c2 (by omega) rfl, hc k _ hr 3 c3 (by omega) rfl, hc k _ hr 4 c4 (by omega) rfl⟩
theorem least_any (p n : Int) (b : Nat) (w : World) (h : w.cell? ⟨b, 0, none⟩ = some (vi n)) :
    Calls Tryz.prog 83 #[vi p, .slice (some ⟨b, 0, none⟩) 1 1] w fun e w' => e = .returned (vi (min p n)) ∧ Below w.heap.size w w' := by
  by_cases hn : n < p
  · have E : Hid (n = min p n) := by unfold Hid; omega
    go_enter Tryz.func83, Tryz.ntmps83
    go_wp2
    go_rounds 3
    go_ret
    refine ⟨retI E.out, ?_⟩
    (repeat (first | exact Below.refl _ _ | refine Below.setCell ?_ (by first | omega | (simp; omega) | (simp; done)) _ | refine Below.alloc ?_ (by first | omega | (simp; omega) | (simp; done)) _ | refine Below.drew ?_ | refine below_drewN ?_ _ | refine Below.trans ?_ (Below.mono (by assumption) (by first | omega | (simp; omega) | (simp; done)))))
  · have E : Hid (p = min p n) := by unfold Hid; omega
    have hn' : p ≤ n := by omega
    go_enter Tryz.func83, Tryz.ntmps83
    go_wp2
    go_rounds 3
    go_ret
    refine ⟨retI E.out, ?_⟩
    (repeat (first | exact Below.refl _ _ | refine Below.setCell ?_ (by first | omega | (simp; omega) | (simp; done)) _ | refine Below.alloc ?_ (by first | omega | (simp; omega) | (simp; done)) _ | refine Below.drew ?_ | refine below_drewN ?_ _ | refine Below.trans ?_ (Below.mono (by assumption) (by first | omega | (simp; omega) | (simp; done)))))
def priceS (d : Int) (acc : Option Int) (o : Issue × Int) : Option Int := if holdsQ d d o.1 then some (match acc with | none => o.2 | some p => min p o.2) else acc
def priceF (l : List (Issue × Int)) (d : Int) : Option Int := l.foldl (priceS d) none
theorem priceF_succ {l : List (Issue × Int)} {k : Nat} {x : Issue × Int} (h : l[k]? = some x) (d : Int) : priceF (l.take (k + 1)) d = priceS d (priceF (l.take k) d) x := by
  obtain ⟨hk, rfl⟩ := List.getElem?_eq_some_iff.1 h
  rw [List.take_succ_eq_append_getElem hk, priceF, List.foldl_append]
  rfl
theorem holds_is {x : Issue} {a b : Int} {v : Bool} (h : meetB x.lo x.held a b = v) (w : World) :
    Calls Tryz.prog 82 #[x.val, .agg #[vi a, vi b]] w fun e w' => e = .returned (.bool v) ∧ Below w.heap.size w w' := by
  subst h
  exact holdsPrices_any x a b w
abbrev maybeV (o : Option Int) : Value := .tuple #[vi (o.getD 0), .bool o.isSome]
theorem priceOn_any (d : Int) (A : Option Addr) (cap : Nat) (l : List (Issue × Int)) (w : World) (h : RowsAt w w.heap.size 5 A cap (l.map offC)) :
    Calls Tryz.prog 56 #[.slice A l.length cap, vi d] w fun e w' => e = .returned (maybeV (priceF l d)) ∧ Below w.heap.size w w' := by
  have hcap := h.cap
  have hlen := h.len
  rw [List.length_map] at hlen
  go_enter Tryz.func56, Tryz.ntmps56
  go_wp2
  go_loopw [6, 7, 12] (fun p ok i wr => ∃ k : Nat, k ≤ l.length ∧ i = .int .i64 k ∧ Below w.heap.size w wr ∧ ∃ o, p = vi (o.getD 0) ∧ ok = .bool o.isSome ∧ Hid (priceF (l.take k) d = o)) (fun _ _ i _ => l.length - (intOf i).toNat)
  case atStart => exact ⟨0, Nat.zero_le _, rfl, Below.refl _ _, none, rfl, rfl, by simp [Hid, priceF]⟩
  case round =>
    obtain ⟨k, hk, rfl, hB, o, rfl, rfl, hO⟩ := hrel
    have hbs := hB.size
    by_cases hlt : k < l.length
    · obtain ⟨x, hx⟩ : ∃ x, l[k]? = some x := ⟨_, List.getElem?_eq_getElem hlt⟩
      have HX := Lib.hid (priceF_succ hx d)
      obtain ⟨x, n⟩ := x
      obtain ⟨bb, off, rfl, hb, c0, c1, c2, c3, c4⟩ := row5 (h.row.keep fun p hp => hB.cell hp) hx rfl
      have zb : bb < wr.heap.size := by omega
      clear hx
      rcases hq : meetB x.lo x.held d d with _ | _
      · have hst : Hid (priceS d o (x, n) = o) := by simp [priceS, holdsQ, hq, Hid]
        go_wp2_with fail
        (refine wp_region_grow_lit (by kernel_rfl) (by kernel_rfl) ?_; (repeat (go_big_quiet_step ((first | (go_at_call 58; refine Calls.grow_of (oneDay_any _ _)) | (go_at_call 82; refine Calls.grow_of (holds_is hq _)))))); refine wpQuiet_nil ?_; intro w1 hw1; have hb1 := below_of_plus hw1; clear hw1; obtain ⟨⟨hc1, hf1, hs1⟩, hz1⟩ := after hb1; (try simp only [World.size_alloc, World.size_setCell, World.size_drew] at hz1))
        go_wp2
        go_roundw
        case rel => exact ⟨k + 1, by omega, by go_num, by (repeat (first | exact Below.refl _ _ | refine Below.setCell ?_ (by first | omega | (simp; omega) | (simp; done)) _ | refine Below.alloc ?_ (by first | omega | (simp; omega) | (simp; done)) _ | refine Below.drew ?_ | refine below_drewN ?_ _ | refine Below.trans ?_ (Below.mono (by assumption) (by first | omega | (simp; omega) | (simp; done))))), o, rfl, rfl, by unfold Hid; rw [HX.out, hO.out, hst.out]⟩
        case measure => simp [intOf]; omega
      · rcases o with _ | p
        · have hst : Hid (priceS d none (x, n) = some n) := by simp [priceS, holdsQ, hq, Hid]
          go_wp2_with fail
          (refine wp_region_grow_lit (by kernel_rfl) (by kernel_rfl) ?_; (repeat (go_big_quiet_step ((first | (go_at_call 58; refine Calls.grow_of (oneDay_any _ _)) | (go_at_call 82; refine Calls.grow_of (holds_is hq _)))))); refine wpQuiet_nil ?_; intro w1 hw1; have hb1 := below_of_plus hw1; clear hw1; obtain ⟨⟨hc1, hf1, hs1⟩, hz1⟩ := after hb1; (try simp only [World.size_alloc, World.size_setCell, World.size_drew] at hz1))
          have hzz : wr.heap.size < w1.heap.size := by omega
          go_wp2_with (go_at_call 83; refine (least_any n n _ _ (by simp [go_sem])).mono ?_; rintro e w2 ⟨rfl, hb2⟩)
          go_roundw
          case rel => exact ⟨k + 1, by omega, by go_num, by (repeat (first | exact Below.refl _ _ | refine Below.setCell ?_ (by first | omega | (simp; omega) | (simp; done)) _ | refine Below.alloc ?_ (by first | omega | (simp; omega) | (simp; done)) _ | refine Below.drew ?_ | refine below_drewN ?_ _ | refine Below.trans ?_ (Below.mono (by assumption) (by first | omega | (simp; omega) | (simp; done))))), some n, rfl, rfl, by unfold Hid; rw [HX.out, hO.out, hst.out]⟩
          case measure => simp [intOf]; omega
        · have hst : Hid (priceS d (some p) (x, n) = some (min p n)) := by simp [priceS, holdsQ, hq, Hid]
          go_wp2_with fail
          (refine wp_region_grow_lit (by kernel_rfl) (by kernel_rfl) ?_; (repeat (go_big_quiet_step ((first | (go_at_call 58; refine Calls.grow_of (oneDay_any _ _)) | (go_at_call 82; refine Calls.grow_of (holds_is hq _)))))); refine wpQuiet_nil ?_; intro w1 hw1; have hb1 := below_of_plus hw1; clear hw1; obtain ⟨⟨hc1, hf1, hs1⟩, hz1⟩ := after hb1; (try simp only [World.size_alloc, World.size_setCell, World.size_drew] at hz1))
          have hzz : wr.heap.size < w1.heap.size := by omega
          go_wp2_with (go_at_call 83; refine (least_any p n _ _ (by simp [go_sem])).mono ?_; rintro e w2 ⟨rfl, hb2⟩)
          go_roundw
          case rel => exact ⟨k + 1, by omega, by go_num, by (repeat (first | exact Below.refl _ _ | refine Below.setCell ?_ (by first | omega | (simp; omega) | (simp; done)) _ | refine Below.alloc ?_ (by first | omega | (simp; omega) | (simp; done)) _ | refine Below.drew ?_ | refine below_drewN ?_ _ | refine Below.trans ?_ (Below.mono (by assumption) (by first | omega | (simp; omega) | (simp; done))))), some (min p n), rfl, rfl, by unfold Hid; rw [HX.out, hO.out, hst.out]⟩
          case measure => simp [intOf]; omega
    · obtain rfl : k = l.length := by omega
      have := hO.out
      rw [List.take_length] at this
      have HO := Lib.hid this
      clear this hO
      go_wp2
      go_ret2
      refine ⟨by rw [HO.out]; rfl, ?_⟩
      (repeat (first | exact Below.refl _ _ | refine Below.setCell ?_ (by first | omega | (simp; omega) | (simp; done)) _ | refine Below.alloc ?_ (by first | omega | (simp; omega) | (simp; done)) _ | refine Below.drew ?_ | refine below_drewN ?_ _ | refine Below.trans ?_ (Below.mono (by assumption) (by first | omega | (simp; omega) | (simp; done)))))
end Go.Proofs.YtpcajmkmmkmekaaGreatDoor

