/- The library's functions on a list that the call owns: Sort, Compact, Contains. -/
import Derived.Test.YtpcajmkmmkmekaaGreatDoorShelf
import Derived.Test.YtpcajmkmmkmekaaGreatDoorGa
import Derived.Lib.OwnBridge
import Derived.RangeFuncOwn
import Derived.Test.YtpcajmkmmkmekaaGreatDoorGi
set_option linter.unusedVariables false
set_option linter.unusedSimpArgs false
namespace Go.Proofs.YtpcajmkmmkmekaaGreatDoor
open Go Go.RowKit Go.Sort
set_option maxHeartbeats 1000000
theorem below_grown {w : World} (os : Array Obj) : Below w.heap.size w (Sort.grow w os) :=
  ⟨rfl, rfl, rfl, by simp, fun k hk => by simp [Sort.grow, Array.getElem?_append, hk]⟩
abbrev sorted (l : List Int) : List Int := l.mergeSort fun x y => decide (x ≤ y)
theorem sort_own {w : World} {base : Nat} {v : Value} {zs : List Int} (h : w.ownsRow base 3 1 v zs.length (zs.map vi)) (hb : base ≤ w.heap.size) (hn : zs.length < 4611686018427387904) :
    Calls Tryz.prog 75 #[v] w fun e w' => e = .returned (.tuple #[]) ∧ w'.ownsRow base 3 1 v zs.length ((sorted zs).map vi) ∧ Below base w w' := by
  by_cases hv : v = .slice none 0 0
  · subst hv
    obtain rfl : zs = [] := by
      rcases h.2 with ⟨_, h0⟩ | ⟨g, c, cur, e, _⟩
      · exact List.eq_nil_of_length_eq_zero h0
      · cases e
    refine (Tryz.slices_Sort_int_none none 0 w).mono ?_
    rintro e w' ⟨rfl, rfl⟩
    exact ⟨rfl, by simpa [sorted] using h, Below.refl _ _⟩
  · obtain ⟨g, cap, rfl, h1, h2, h3, h4, _, hH⟩ := Lib.holds_of_ownsRow h hv
    refine (Tryz.slices_Sort_int g 0 cap zs w hH h2 hn).mono ?_
    rintro e w' ⟨rfl, n, os, rfl⟩
    refine ⟨rfl, ?_, ?_⟩
    · have := Lib.ownsRow_putRow (q := n) (k := zs.length) h (ys := sorted zs) (by simp [sorted]) (Nat.le_refl _)
      rw [List.take_of_length_le (by simp [sorted])] at this
      exact own_keep this (below_grown _)
    · have h9 := Lib.below_putRow (q := n) (enc := Value.int .i64) (d := (sorted zs).toArray) (Below.refl base w) h1
      exact h9.trans ((below_grown _).mono (by have := h9.size; omega))
theorem contains_own {w : World} {base : Nat} {v : Value} {zs : List Int} {b : Bool} (x : Int) (h : w.ownsRow base 3 1 v zs.length (zs.map vi)) (hx : zs.contains x = b) :
    Calls Tryz.prog 86 #[v, vi x] w fun e w' => e = .returned (.bool b) ∧ w' = w := by
  subst hx
  by_cases hv : v = .slice none 0 0
  · subst hv
    obtain rfl : zs = [] := by
      rcases h.2 with ⟨_, h0⟩ | ⟨g, c, cur, e, _⟩
      · exact List.eq_nil_of_length_eq_zero h0
      · cases e
    exact Tryz.slices_Contains_int_empty none 0 x w
  · obtain ⟨g, cap, rfl, h1, h2, h3, h4, _, hH⟩ := Lib.holds_of_ownsRow h hv
    refine (Tryz.slices_Contains_int g 0 zs.length cap zs x w (Nat.le_refl _) (by have : maxLen = 9223372036854775807 := rfl; omega) fun j hj => ?_).mono ?_
    · have := (hH j (by simpa using hj)).1
      rw [this]
      simp [hj]
    · rintro e w' ⟨rfl, rfl⟩
      exact ⟨by rw [List.take_length], rfl⟩
theorem compact_own {w : World} {base : Nat} {v : Value} {zs : List Int} (h : w.ownsRow base 3 1 v zs.length (zs.map vi)) (hb : base ≤ w.heap.size) :
    Calls Tryz.prog 76 #[v] w fun e w' => ∃ v', e = .returned v' ∧ w'.ownsRow base 3 1 v' (Lib.compact zs).length ((Lib.compact zs).map vi) ∧ Below base w w' := by
  by_cases hv : v = .slice none 0 0
  · subst hv
    obtain rfl : zs = [] := by
      rcases h.2 with ⟨_, h0⟩ | ⟨g, c, cur, e, _⟩
      · exact List.eq_nil_of_length_eq_zero h0
      · cases e
    refine (Tryz.slices_Compact_int_empty none 0 w).mono ?_
    rintro e w' ⟨rfl, rfl⟩
    exact ⟨_, rfl, h, Below.refl _ _⟩
  · obtain ⟨g, cap, rfl, h1, h2, h3, h4, _, hH⟩ := Lib.holds_of_ownsRow h hv
    refine (Tryz.slices_Compact_int g 0 cap zs w hH (by have : maxLen = 9223372036854775807 := rfl; omega) h3).mono ?_
    rintro e w' ⟨rfl, q, rfl⟩
    have hc : (Lib.compact zs).length ≤ zs.length := Lib.compact_length_le zs
    refine ⟨_, rfl, ?_, Lib.below_putRow (Below.refl base w) h1⟩
    have := Lib.ownsRow_putRow (q := q) (k := (Lib.compact zs).length) h (ys := Lib.compact zs ++ List.replicate (zs.length - (Lib.compact zs).length) 0) (by simp; omega) hc
    rwa [List.take_left'  rfl] at this
end Go.Proofs.YtpcajmkmmkmekaaGreatDoor

/- Sort and Compact on a list that the call owns: which block they turn. -/
namespace Go.Proofs.YtpcajmkmmkmekaaGreatDoor
open Go Go.RowKit Go.Sort
set_option maxHeartbeats 1000000
theorem grown_put {w : World} {g q : Nat} {d : Array Int} : w.grownBy (putRow (Value.int .i64) (Sort.ahead w q) g 0 d) (some g) :=
  ⟨rfl, rfl, rfl, by simp [putRow, mapBlock, Sort.ahead], fun k hk hne => by
    have : g ≠ k := fun e => hne (by rw [e])
    simp [putRow, mapBlock, Sort.ahead, Array.getElem?_modify, this]⟩
theorem grown_grow {w w' : World} {row : Option Nat} (h : w.grownBy w' row) (os : Array Obj) : w.grownBy (Sort.grow w' os) row :=
  ⟨h.os, h.tape, h.output, by have := h.size; simp; omega, fun k hk hne => by
    have := h.size
    rw [← h.block k hk hne]
    simp [Sort.grow, Array.getElem?_append, show k < w'.heap.size by omega]⟩
theorem sort_turn {w : World} {base : Nat} {v : Value} {zs : List Int} (h : w.ownsRow base 3 1 v zs.length (zs.map vi)) (hb : base ≤ w.heap.size) (hn : zs.length < 4611686018427387904) :
    Calls Tryz.prog 75 #[v] w fun e w' => e = .returned (.tuple #[]) ∧ w'.ownsRow base 3 1 v zs.length ((sorted zs).map vi) ∧ Below base w w' ∧ w.grownBy w' v.ownBlock := by
  by_cases hv : v = .slice none 0 0
  · subst hv
    obtain rfl : zs = [] := by
      rcases h.2 with ⟨_, h0⟩ | ⟨g, c, cur, e, _⟩
      · exact List.eq_nil_of_length_eq_zero h0
      · cases e
    refine (Tryz.slices_Sort_int_none none 0 w).mono ?_
    rintro e w' ⟨rfl, rfl⟩
    exact ⟨rfl, by simpa [sorted] using h, Below.refl _ _, ⟨rfl, rfl, rfl, Nat.le_refl _, fun _ _ _ => rfl⟩⟩
  · obtain ⟨g, cap, rfl, h1, h2, h3, h4, _, hH⟩ := Lib.holds_of_ownsRow h hv
    refine (Tryz.slices_Sort_int g 0 cap zs w hH h2 hn).mono ?_
    rintro e w' ⟨rfl, n, os, rfl⟩
    refine ⟨rfl, ?_, ?_, grown_grow grown_put os⟩
    · have := Lib.ownsRow_putRow (q := n) (k := zs.length) h (ys := sorted zs) (by simp [sorted]) (Nat.le_refl _)
      rw [List.take_of_length_le (by simp [sorted])] at this
      exact own_keep this (below_grown _)
    · have h9 := Lib.below_putRow (q := n) (enc := Value.int .i64) (d := (sorted zs).toArray) (Below.refl base w) h1
      exact h9.trans ((below_grown _).mono (by have := h9.size; omega))
theorem compact_turn {w : World} {base : Nat} {v : Value} {zs : List Int} (h : w.ownsRow base 3 1 v zs.length (zs.map vi)) (hb : base ≤ w.heap.size) :
    Calls Tryz.prog 76 #[v] w fun e w' => ∃ v', e = .returned v' ∧ w'.ownsRow base 3 1 v' (Lib.compact zs).length ((Lib.compact zs).map vi) ∧ Below base w w' ∧ w.grownBy w' v.ownBlock := by
  by_cases hv : v = .slice none 0 0
  · subst hv
    obtain rfl : zs = [] := by
      rcases h.2 with ⟨_, h0⟩ | ⟨g, c, cur, e, _⟩
      · exact List.eq_nil_of_length_eq_zero h0
      · cases e
    refine (Tryz.slices_Compact_int_empty none 0 w).mono ?_
    rintro e w' ⟨rfl, rfl⟩
    exact ⟨_, rfl, h, Below.refl _ _, ⟨rfl, rfl, rfl, Nat.le_refl _, fun _ _ _ => rfl⟩⟩
  · obtain ⟨g, cap, rfl, h1, h2, h3, h4, _, hH⟩ := Lib.holds_of_ownsRow h hv
    refine (Tryz.slices_Compact_int g 0 cap zs w hH (by have : maxLen = 9223372036854775807 := rfl; omega) h3).mono ?_
    rintro e w' ⟨rfl, q, rfl⟩
    have hc : (Lib.compact zs).length ≤ zs.length := Lib.compact_length_le zs
    refine ⟨_, rfl, ?_, Lib.below_putRow (Below.refl base w) h1, grown_put⟩
    have := Lib.ownsRow_putRow (q := q) (k := (Lib.compact zs).length) h (ys := Lib.compact zs ++ List.replicate (zs.length - (Lib.compact zs).length) 0) (by simp; omega) hc
    rwa [List.take_left'  rfl] at this
/-- what is no cells is not the row's block -/
theorem turn_other {w w' : World} {base : Nat} {e : TypeId} {sz n : Nat} {v : Value} {xs : List Value} (h : w.ownsRow base e sz v n xs) (hg : w.grownBy w' v.ownBlock) {D : Nat} {o : Obj} (hD : w.heap[D]? = some o) (ho : o.isCells = false) : w'.heap[D]? = some o := by
  refine (hg.block D (Array.getElem?_eq_some_iff.1 hD).1 fun e' => ?_).trans hD
  rcases h.2 with ⟨rfl, _⟩ | ⟨g, cp, cur, rfl, _, hh, _⟩
  · cases e'
  · cases e'
    rw [hD] at hh
    cases hh
    cases ho
end Go.Proofs.YtpcajmkmmkmekaaGreatDoor

/- Contracts of prices. -/
namespace Go.Proofs.YtpcajmkmmkmekaaGreatDoor
open Go Go.RowKit
set_option maxHeartbeats 2000000
def priceAdd (acc : List Int) (o : Option Int) : List Int := match o with | some p => if acc.contains p then acc else acc ++ [p] | none => acc
/-- the prices of the first k days from a on, each once, as they come -/
def pricesF (l : List (Issue × Int)) (a : Int) (k : Nat) : List Int := (List.range k).foldl (fun acc (i : Nat) => priceAdd acc (priceF l (a + i))) []
theorem pricesF_succ (l : List (Issue × Int)) (a : Int) (k : Nat) : pricesF l a (k + 1) = priceAdd (pricesF l a k) (priceF l (a + k)) := by
  simp [pricesF, List.range_succ]
theorem pricesF_len (l : List (Issue × Int)) (a : Int) (k : Nat) : (pricesF l a k).length ≤ k := by
  induction k with
  | zero => simp [pricesF]
  | succ k ih =>
    rw [pricesF_succ]
    unfold priceAdd
    split
    · split
      · omega
      · simp; omega
    · omega
def pricesOn (r : Rack) (a b : Int) (it : Item) : List Int := sorted (pricesF (offersOn r a b it) a (b - a + 1).toNat)
set_option maxRecDepth 100000 in
theorem prices_any (r : Rack) (a b : Int) (it : Item) (w : World) (h : RackAt w w.heap.size r) (hn4 : r.issues.length ≤ 4) (hc : 0 ≤ it.colour ∧ it.colour ≤ 3) (ha : 0 ≤ a) (hab : a ≤ b) (hb : b ≤ 20000) :
    Calls Tryz.prog 61 #[r.val, .agg #[vi a, vi b], it.val] w fun e w' => ∃ v, e = .returned v ∧ IntsOut (pricesOn r a b it) w v w' := by
  obtain ⟨ig, is, ic⟩ := it
  unfold pricesOn
  generalize hL : offersOn r a b ⟨ig, is, ic⟩ = l
  obtain ⟨N, hN⟩ : ∃ N : Nat, (N : Int) = b - a + 1 := ⟨(b - a + 1).toNat, by omega⟩
  have hNN : (b - a + 1).toNat = N := by omega
  rw [hNN]
  have hN2 : N ≤ 20001 := by omega
  obtain ⟨i0, hi, hy0, hy1, hy2⟩ := info_parts info_int
  go_enter Tryz.func61, Tryz.ntmps61
  go_wp2_with (go_at_call 57; refine (offersOn_is hL _ (RackAt.to h (by (repeat (first | exact Below.refl _ _ | refine Below.setCell ?_ (by first | omega | (simp; omega) | (simp; done)) _ | refine Below.alloc ?_ (by first | omega | (simp; omega) | (simp; done)) _ | refine Below.drew ?_ | refine below_drewN ?_ _ | refine Below.trans ?_ (Below.mono (by assumption) (by first | omega | (simp; omega) | (simp; done))))))) hn4 hc).mono ?_; rintro e wb ⟨A, cp, rfl, hrb, hbb⟩; have hzb := hbb.size; have D0 := (hbb.cell (p := ⟨w.heap.size + 1, 0, none⟩) (by first | omega | (simp; omega) | (simp; done))).trans (by simp [go_sem] : _ = some (vi a)); have D1 := (hbb.cell (p := ⟨w.heap.size + 1, 1, none⟩) (by first | omega | (simp; omega) | (simp; done))).trans (by simp [go_sem] : _ = some (vi b)); have zD : w.heap.size + 1 < wb.heap.size := (by simp at hzb; omega); have hHB : Hid (Below w.heap.size w wb) := (by unfold Hid; (repeat (first | exact Below.refl _ _ | refine Below.setCell ?_ (by first | omega | (simp; omega) | (simp; done)) _ | refine Below.alloc ?_ (by first | omega | (simp; omega) | (simp; done)) _ | refine Below.drew ?_ | refine below_drewN ?_ _ | refine Below.trans ?_ (Below.mono (by assumption) (by first | omega | (simp; omega) | (simp; done)))))))
  clear hbb hzb
  go_loopw [8, 22] (fun v i wr => ∃ k : Nat, k ≤ N ∧ i = .int .i64 k ∧ Below wb.heap.size wb wr ∧ wr.ownsRow wb.heap.size 3 1 v (pricesF l a k).length ((pricesF l a k).map vi)) (fun _ i _ => N - (intOf i).toNat)
  case atStart => exact ⟨0, Nat.zero_le _, rfl, Below.refl _ _, by simpa [pricesF] using World.ownsRow_nil _ _ _ _⟩
  case round =>
    obtain ⟨k, hk, rfl, hB, hown⟩ := hrel
    have hbs := hB.size
    have hpl := pricesF_len l a k
    by_cases hlt : k < N
    · have hlt2 : (k : Int) < b - a + 1 := by omega
      have d0 := (hB.cell (p := ⟨w.heap.size + 1, 0, none⟩) zD).trans D0
      have hst := Lib.hid (pricesF_succ l a k)
      have hrw := hrb.to hB
      rcases hp : priceF l (a + k) with _ | p
      · have E : Hid (pricesF l a (k + 1) = pricesF l a k) := by unfold Hid; rw [hst.out, hp]; rfl
        go_wp2_with (go_at_call 56; refine (priceOn_is hp A cp _ (hrw.to (by (repeat (first | exact Below.refl _ _ | refine Below.setCell ?_ (by first | omega | (simp; omega) | (simp; done)) _ | refine Below.alloc ?_ (by first | omega | (simp; omega) | (simp; done)) _ | refine Below.drew ?_ | refine below_drewN ?_ _ | refine Below.trans ?_ (Below.mono (by assumption) (by first | omega | (simp; omega) | (simp; done)))))))).mono ?_; rintro e w3 ⟨rfl, hb3⟩; have hown3 := own_keep hown hb3; have hz3 := hb3.size)
        go_roundw
        case rel => exact ⟨k + 1, by omega, by go_num, by (repeat (first | exact Below.refl _ _ | refine Below.setCell ?_ (by first | omega | (simp; omega) | (simp; done)) _ | refine Below.alloc ?_ (by first | omega | (simp; omega) | (simp; done)) _ | refine Below.drew ?_ | refine below_drewN ?_ _ | refine Below.trans ?_ (Below.mono (by assumption) (by first | omega | (simp; omega) | (simp; done))))), by rw [E.out]; exact hown3⟩
        case measure => simp [intOf]; omega
      · rcases hcn : (pricesF l a k).contains p with _ | _
        · have E : Hid (pricesF l a (k + 1) = pricesF l a k ++ [p]) := by unfold Hid; rw [hst.out, hp, priceAdd, if_neg (by rw [hcn]; simp)]
          go_wp2_with (first | (go_at_call 56; refine (priceOn_is hp A cp _ (hrw.to (by (repeat (first | exact Below.refl _ _ | refine Below.setCell ?_ (by first | omega | (simp; omega) | (simp; done)) _ | refine Below.alloc ?_ (by first | omega | (simp; omega) | (simp; done)) _ | refine Below.drew ?_ | refine below_drewN ?_ _ | refine Below.trans ?_ (Below.mono (by assumption) (by first | omega | (simp; omega) | (simp; done)))))))).mono ?_; rintro e w3 ⟨rfl, hb3⟩; have hown3 := own_keep hown hb3; have hz3 := hb3.size) | (go_at_call 86; refine (contains_own p hown3 hcn).mono ?_; rintro e w4 ⟨rfl, rfl⟩) | (at_builtin; go_loud (refine wpList_append_own _ rfl _ _ 36 rfl wb.heap.size 3 i0 (.int .i64 0) 1 8 Tryz.underlying36 hi hy0 hy1 hy2 rfl (by decide) _ _ _ rfl (hown3.alloc _) ⟨w4.heap.size, 0, none⟩ 1 1 [vi p] rfl rfl (cell_one_new _ _ _) (by simp [Value.oneCell']) (by unfold maxLen; omega) (by omega) (by simp; omega) ?_; intro v' w2 hown2 hgrow2 _)))
          have HB3 : Below wb.heap.size wb w2 := Below.grown (by (repeat (first | exact Below.refl _ _ | refine Below.setCell ?_ (by first | omega | (simp; omega) | (simp; done)) _ | refine Below.alloc ?_ (by first | omega | (simp; omega) | (simp; done)) _ | refine Below.drew ?_ | refine below_drewN ?_ _ | refine Below.trans ?_ (Below.mono (by assumption) (by first | omega | (simp; omega) | (simp; done)))))) hgrow2 (by simp; omega) (fun j e => (hown.lt j e).1)
          go_roundw
          case rel => exact ⟨k + 1, by omega, by go_num, HB3, by rw [E.out]; simpa using hown2⟩
          case measure => simp [intOf]; omega
        · have E : Hid (pricesF l a (k + 1) = pricesF l a k) := by unfold Hid; rw [hst.out, hp, priceAdd, if_pos hcn]
          go_wp2_with (first | (go_at_call 56; refine (priceOn_is hp A cp _ (hrw.to (by (repeat (first | exact Below.refl _ _ | refine Below.setCell ?_ (by first | omega | (simp; omega) | (simp; done)) _ | refine Below.alloc ?_ (by first | omega | (simp; omega) | (simp; done)) _ | refine Below.drew ?_ | refine below_drewN ?_ _ | refine Below.trans ?_ (Below.mono (by assumption) (by first | omega | (simp; omega) | (simp; done)))))))).mono ?_; rintro e w3 ⟨rfl, hb3⟩; have hown3 := own_keep hown hb3; have hz3 := hb3.size) | (go_at_call 86; refine (contains_own p hown3 hcn).mono ?_; rintro e w4 ⟨rfl, rfl⟩))
          go_roundw
          case rel => exact ⟨k + 1, by omega, by go_num, by (repeat (first | exact Below.refl _ _ | refine Below.setCell ?_ (by first | omega | (simp; omega) | (simp; done)) _ | refine Below.alloc ?_ (by first | omega | (simp; omega) | (simp; done)) _ | refine Below.drew ?_ | refine below_drewN ?_ _ | refine Below.trans ?_ (Below.mono (by assumption) (by first | omega | (simp; omega) | (simp; done))))), by rw [E.out]; exact hown3⟩
          case measure => simp [intOf]; omega
    · obtain rfl : k = N := by omega
      have hge : ¬ ((k : Int) < b - a + 1) := by omega
      have hge2 : b - a + 1 ≤ (k : Int) := by omega
      have hsl : (sorted (pricesF l a k)).length = (pricesF l a k).length := by simp [sorted]
      have hfin : ∀ w3, Below wb.heap.size wr w3 → Below w.heap.size w w3 := fun w3 h3 => hHB.out.trans ((hB.trans h3).mono hHB.out.size)
      have Hfin := Lib.hid hfin
      clear hfin
      rcases hown.2 with ⟨rfl, h0⟩ | ⟨g, c, cur, rfl, hg, hh, hnc, hcm, _⟩
      · have h00 : Hid (sorted (pricesF l a k) = []) := List.eq_nil_of_length_eq_zero (by omega)
        have h000 : (pricesF l a k).length = 0 := h0
        go_wp2_with (go_at_call 75; refine (sort_own hown (by omega) (by omega)).mono ?_; rintro e w3 ⟨rfl, hown3, hb3⟩)
        go_ret
        refine ⟨_, rfl, ?_⟩
        rw [h00.out]
        exact IntsOut.nil (Hfin.out _ hb3)
      · have hcm' : ((pricesF l a k).length : Int) ≤ c := by omega
        go_wp2_with (go_at_call 75; refine (sort_own hown (by omega) (by omega)).mono ?_; rintro e w3 ⟨rfl, hown3, hb3⟩)
        go_ret
        refine ⟨_, rfl, ⟨some ⟨g, 0, none⟩, (pricesF l a k).length, ?_, ints_of_own hown3 _ (by omega) (by omega)⟩, Hfin.out _ hb3⟩
        rw [hsl]
        rfl
end Go.Proofs.YtpcajmkmmkmekaaGreatDoor

/- Contracts of Prices. -/
namespace Go.Proofs.YtpcajmkmmkmekaaGreatDoor
open Go Go.RowKit
set_option maxHeartbeats 2000000
def pricesAsk (r : Rack) (a b : Int) (it : Item) : Bool := limS 3 a b && itemB r it
def pricesErr (r : Rack) (a b : Int) (it : Item) : Int := if validB r then if pricesAsk r a b it then 0 else 11 else 10
def pricesL (r : Rack) (a b : Int) (it : Item) : List Int := if validB r && pricesAsk r a b it then pricesOn r a b it else []
theorem lim_days {a b : Int} (h : limS 3 a b = true) : 0 ≤ a ∧ a ≤ b ∧ b ≤ 20000 := by
  simp only [limS, Bool.and_eq_true, limB, decide_eq_true_eq] at h
  obtain ⟨h1, ⟨h2, h3⟩, h4, h5⟩ := h
  simp [limLo, limHi] at h2 h3 h4 h5
  omega
theorem Prices_any (r : Rack) (a b : Int) (it : Item) (w : World) (hl : Lim w) (hr : RackAt w w.heap.size r) :
    Calls Tryz.prog 19 #[r.val, .agg #[vi a, vi b], it.val] w fun e w' => ∃ v, e = .returned (.tuple #[v, vi (pricesErr r a b it)]) ∧ IntsOut (pricesL r a b it) w v w' := by
  rcases hv : validB r with _ | _
  · have E : Hid (pricesErr r a b it = 10 ∧ pricesL r a b it = []) := by simp [pricesErr, pricesL, hv, Hid]
    go_enter Tryz.func19, Tryz.ntmps19
    go_wp2_with (go_at_call 9; refine (check_bad r _ (by repeat (first | assumption | refine Lim.alloc ?_ _ | refine Lim.setCell ?_ (by first | (simp; done) | (simp; omega) | omega) _ | refine Lim.drew ?_)) (hr.to (by (repeat (first | exact Below.refl _ _ | refine Below.setCell ?_ (by first | omega | (simp; omega) | (simp; done)) _ | refine Below.alloc ?_ (by first | omega | (simp; omega) | (simp; done)) _ | refine Below.drew ?_ | refine below_drewN ?_ _ | refine Below.trans ?_ (Below.mono (by assumption) (by first | omega | (simp; omega) | (simp; done))))))) hv).mono ?_; rintro e w1 ⟨rfl, hb1⟩; obtain ⟨⟨hc1, hf1, hs1⟩, hz1⟩ := after hb1; (try simp only [World.size_alloc, World.size_setCell, World.size_drew] at hz1))
    go_ret2
    refine ⟨_, by rw [E.out.1]; rfl, ?_⟩
    rw [E.out.2]
    refine IntsOut.nil ?_
    (repeat (first | exact Below.refl _ _ | refine Below.setCell ?_ (by first | omega | (simp; omega) | (simp; done)) _ | refine Below.alloc ?_ (by first | omega | (simp; omega) | (simp; done)) _ | refine Below.drew ?_ | refine below_drewN ?_ _ | refine Below.trans ?_ (Below.mono (by assumption) (by first | omega | (simp; omega) | (simp; done)))))
  rcases h1 : limS 3 a b with _ | _
  · have E : Hid (pricesErr r a b it = 11 ∧ pricesL r a b it = []) := by simp [pricesErr, pricesL, pricesAsk, hv, h1, Hid]
    obtain ⟨ig, is, ic⟩ := it
    go_enter Tryz.func19, Tryz.ntmps19
    go_wp2_with fail
    refine (check_ok r _ (by repeat (first | assumption | refine Lim.alloc ?_ _ | refine Lim.setCell ?_ (by first | (simp; done) | (simp; omega) | omega) _ | refine Lim.drew ?_)) (hr.to (by (repeat (first | exact Below.refl _ _ | refine Below.setCell ?_ (by first | omega | (simp; omega) | (simp; done)) _ | refine Below.alloc ?_ (by first | omega | (simp; omega) | (simp; done)) _ | refine Below.drew ?_ | refine below_drewN ?_ _ | refine Below.trans ?_ (Below.mono (by assumption) (by first | omega | (simp; omega) | (simp; done))))))) hv).mono ?_
    rintro e wA ⟨rfl, hbA⟩
    have zA : w.heap.size + 1 < wA.heap.size := by have := hbA.size; simp at this; omega
    have zB : w.heap.size + 1 + 1 < wA.heap.size := by have := hbA.size; simp at this; omega
    have zA2 : w.heap.size + 1 < wA.heap.size + 1 := by omega
    have zB2 : w.heap.size + 1 + 1 < wA.heap.size + 1 := by omega
    have zA3 : w.heap.size < wA.heap.size := by omega
    have a0 := (hbA.cell (p := ⟨w.heap.size, 0, none⟩) (by first | omega | (simp; omega) | (simp; done))).trans (by simp [go_sem] : _ = some (vi r.goods))
    have a1 := (hbA.cell (p := ⟨w.heap.size, 1, none⟩) (by first | omega | (simp; omega) | (simp; done))).trans (by simp [go_sem] : _ = some r.slice)
    have d0 := (hbA.cell (p := ⟨w.heap.size + 1, 0, none⟩) (by first | omega | (simp; omega) | (simp; done))).trans (by simp [go_sem] : _ = some (vi a))
    have d1 := (hbA.cell (p := ⟨w.heap.size + 1, 1, none⟩) (by first | omega | (simp; omega) | (simp; done))).trans (by simp [go_sem] : _ = some (vi b))
    have b0 := (hbA.cell (p := ⟨w.heap.size + 1 + 1, 0, none⟩) (by first | omega | (simp; omega) | (simp; done))).trans (by simp [go_sem] : _ = some (vi ig))
    have b1 := (hbA.cell (p := ⟨w.heap.size + 1 + 1, 1, none⟩) (by first | omega | (simp; omega) | (simp; done))).trans (by simp [go_sem] : _ = some (vi is))
    have b2 := (hbA.cell (p := ⟨w.heap.size + 1 + 1, 2, none⟩) (by first | omega | (simp; omega) | (simp; done))).trans (by simp [go_sem] : _ = some (vi ic))
    have HA : Below w.heap.size w wA := by (repeat (first | exact Below.refl _ _ | refine Below.setCell ?_ (by first | omega | (simp; omega) | (simp; done)) _ | refine Below.alloc ?_ (by first | omega | (simp; omega) | (simp; done)) _ | refine Below.drew ?_ | refine below_drewN ?_ _ | refine Below.trans ?_ (Below.mono (by assumption) (by first | omega | (simp; omega) | (simp; done)))))
    have hlA : Lim wA := hl.next HA
    have hw0 := HA.size
    clear hbA
    go_wp2_with (first | (go_at_call 27; refine (spanWithin_any _ _ _ _ (by omega) (by omega) (by repeat (first | assumption | refine Lim.alloc ?_ _ | refine Lim.setCell ?_ (by first | (simp; done) | (simp; omega) | omega) _ | refine Lim.drew ?_))).mono ?_; rintro e w1 ⟨rfl, hb1⟩; obtain ⟨⟨hc1, hf1, hs1⟩, hz1⟩ := after hb1; (try simp only [World.size_alloc, World.size_setCell, World.size_drew] at hz1); have hl1 : Lim w1 := Lim.next (by repeat (first | assumption | refine Lim.alloc ?_ _ | refine Lim.setCell ?_ (by first | (simp; done) | (simp; omega) | omega) _ | refine Lim.drew ?_)) hb1; have hq1 : wA.heap.size < w1.heap.size := (by omega)) | (go_at_call 55; refine (isItem_any r ⟨ig, is, ic⟩ _ (by repeat (first | assumption | refine Lim.alloc ?_ _ | refine Lim.setCell ?_ (by first | (simp; done) | (simp; omega) | omega) _ | refine Lim.drew ?_))).mono ?_; rintro e w1 ⟨rfl, hb1⟩; obtain ⟨⟨hc1, hf1, hs1⟩, hz1⟩ := after hb1; (try simp only [World.size_alloc, World.size_setCell, World.size_drew] at hz1); have hl1 : Lim w1 := Lim.next (by repeat (first | assumption | refine Lim.alloc ?_ _ | refine Lim.setCell ?_ (by first | (simp; done) | (simp; omega) | omega) _ | refine Lim.drew ?_)) hb1; have hq1 : wA.heap.size < w1.heap.size := (by omega)))
    go_ret2
    refine ⟨_, by rw [E.out.1]; rfl, ?_⟩
    rw [E.out.2]
    refine IntsOut.nil ?_
    (repeat (first | exact Below.refl _ _ | refine Below.setCell ?_ (by first | omega | (simp; omega) | (simp; done)) _ | refine Below.alloc ?_ (by first | omega | (simp; omega) | (simp; done)) _ | refine Below.drew ?_ | refine below_drewN ?_ _ | refine Below.trans ?_ (Below.mono (by assumption) (by first | omega | (simp; omega) | (simp; done)))))
  rcases h2 : itemB r it with _ | _
  · have E : Hid (pricesErr r a b it = 11 ∧ pricesL r a b it = []) := by simp [pricesErr, pricesL, pricesAsk, hv, h1, h2, Hid]
    obtain ⟨ig, is, ic⟩ := it
    go_enter Tryz.func19, Tryz.ntmps19
    go_wp2_with fail
    refine (check_ok r _ (by repeat (first | assumption | refine Lim.alloc ?_ _ | refine Lim.setCell ?_ (by first | (simp; done) | (simp; omega) | omega) _ | refine Lim.drew ?_)) (hr.to (by (repeat (first | exact Below.refl _ _ | refine Below.setCell ?_ (by first | omega | (simp; omega) | (simp; done)) _ | refine Below.alloc ?_ (by first | omega | (simp; omega) | (simp; done)) _ | refine Below.drew ?_ | refine below_drewN ?_ _ | refine Below.trans ?_ (Below.mono (by assumption) (by first | omega | (simp; omega) | (simp; done))))))) hv).mono ?_
    rintro e wA ⟨rfl, hbA⟩
    have zA : w.heap.size + 1 < wA.heap.size := by have := hbA.size; simp at this; omega
    have zB : w.heap.size + 1 + 1 < wA.heap.size := by have := hbA.size; simp at this; omega
    have zA2 : w.heap.size + 1 < wA.heap.size + 1 := by omega
    have zB2 : w.heap.size + 1 + 1 < wA.heap.size + 1 := by omega
    have zA3 : w.heap.size < wA.heap.size := by omega
    have a0 := (hbA.cell (p := ⟨w.heap.size, 0, none⟩) (by first | omega | (simp; omega) | (simp; done))).trans (by simp [go_sem] : _ = some (vi r.goods))
    have a1 := (hbA.cell (p := ⟨w.heap.size, 1, none⟩) (by first | omega | (simp; omega) | (simp; done))).trans (by simp [go_sem] : _ = some r.slice)
    have d0 := (hbA.cell (p := ⟨w.heap.size + 1, 0, none⟩) (by first | omega | (simp; omega) | (simp; done))).trans (by simp [go_sem] : _ = some (vi a))
    have d1 := (hbA.cell (p := ⟨w.heap.size + 1, 1, none⟩) (by first | omega | (simp; omega) | (simp; done))).trans (by simp [go_sem] : _ = some (vi b))
    have b0 := (hbA.cell (p := ⟨w.heap.size + 1 + 1, 0, none⟩) (by first | omega | (simp; omega) | (simp; done))).trans (by simp [go_sem] : _ = some (vi ig))
    have b1 := (hbA.cell (p := ⟨w.heap.size + 1 + 1, 1, none⟩) (by first | omega | (simp; omega) | (simp; done))).trans (by simp [go_sem] : _ = some (vi is))
    have b2 := (hbA.cell (p := ⟨w.heap.size + 1 + 1, 2, none⟩) (by first | omega | (simp; omega) | (simp; done))).trans (by simp [go_sem] : _ = some (vi ic))
    have HA : Below w.heap.size w wA := by (repeat (first | exact Below.refl _ _ | refine Below.setCell ?_ (by first | omega | (simp; omega) | (simp; done)) _ | refine Below.alloc ?_ (by first | omega | (simp; omega) | (simp; done)) _ | refine Below.drew ?_ | refine below_drewN ?_ _ | refine Below.trans ?_ (Below.mono (by assumption) (by first | omega | (simp; omega) | (simp; done)))))
    have hlA : Lim wA := hl.next HA
    have hw0 := HA.size
    clear hbA
    go_wp2_with (first | (go_at_call 27; refine (spanWithin_any _ _ _ _ (by omega) (by omega) (by repeat (first | assumption | refine Lim.alloc ?_ _ | refine Lim.setCell ?_ (by first | (simp; done) | (simp; omega) | omega) _ | refine Lim.drew ?_))).mono ?_; rintro e w1 ⟨rfl, hb1⟩; obtain ⟨⟨hc1, hf1, hs1⟩, hz1⟩ := after hb1; (try simp only [World.size_alloc, World.size_setCell, World.size_drew] at hz1); have hl1 : Lim w1 := Lim.next (by repeat (first | assumption | refine Lim.alloc ?_ _ | refine Lim.setCell ?_ (by first | (simp; done) | (simp; omega) | omega) _ | refine Lim.drew ?_)) hb1; have hq1 : wA.heap.size < w1.heap.size := (by omega)) | (go_at_call 55; refine (isItem_any r ⟨ig, is, ic⟩ _ (by repeat (first | assumption | refine Lim.alloc ?_ _ | refine Lim.setCell ?_ (by first | (simp; done) | (simp; omega) | omega) _ | refine Lim.drew ?_))).mono ?_; rintro e w1 ⟨rfl, hb1⟩; obtain ⟨⟨hc1, hf1, hs1⟩, hz1⟩ := after hb1; (try simp only [World.size_alloc, World.size_setCell, World.size_drew] at hz1); have hl1 : Lim w1 := Lim.next (by repeat (first | assumption | refine Lim.alloc ?_ _ | refine Lim.setCell ?_ (by first | (simp; done) | (simp; omega) | omega) _ | refine Lim.drew ?_)) hb1; have hq1 : wA.heap.size < w1.heap.size := (by omega)))
    go_ret2
    refine ⟨_, by rw [E.out.1]; rfl, ?_⟩
    rw [E.out.2]
    refine IntsOut.nil ?_
    (repeat (first | exact Below.refl _ _ | refine Below.setCell ?_ (by first | omega | (simp; omega) | (simp; done)) _ | refine Below.alloc ?_ (by first | omega | (simp; omega) | (simp; done)) _ | refine Below.drew ?_ | refine below_drewN ?_ _ | refine Below.trans ?_ (Below.mono (by assumption) (by first | omega | (simp; omega) | (simp; done)))))
  · have hn4 := valid_four hv
    have hic := item_colour h2
    obtain ⟨hd1, hd2, hd3⟩ := lim_days h1
    have E : Hid (pricesErr r a b it = 0 ∧ pricesL r a b it = pricesOn r a b it) := by simp [pricesErr, pricesL, pricesAsk, hv, h1, h2, Hid]
    obtain ⟨ig, is, ic⟩ := it
    go_enter Tryz.func19, Tryz.ntmps19
    go_wp2_with fail
    refine (check_ok r _ (by repeat (first | assumption | refine Lim.alloc ?_ _ | refine Lim.setCell ?_ (by first | (simp; done) | (simp; omega) | omega) _ | refine Lim.drew ?_)) (hr.to (by (repeat (first | exact Below.refl _ _ | refine Below.setCell ?_ (by first | omega | (simp; omega) | (simp; done)) _ | refine Below.alloc ?_ (by first | omega | (simp; omega) | (simp; done)) _ | refine Below.drew ?_ | refine below_drewN ?_ _ | refine Below.trans ?_ (Below.mono (by assumption) (by first | omega | (simp; omega) | (simp; done))))))) hv).mono ?_
    rintro e wA ⟨rfl, hbA⟩
    have zA : w.heap.size + 1 < wA.heap.size := by have := hbA.size; simp at this; omega
    have zB : w.heap.size + 1 + 1 < wA.heap.size := by have := hbA.size; simp at this; omega
    have zA2 : w.heap.size + 1 < wA.heap.size + 1 := by omega
    have zB2 : w.heap.size + 1 + 1 < wA.heap.size + 1 := by omega
    have zA3 : w.heap.size < wA.heap.size := by omega
    have a0 := (hbA.cell (p := ⟨w.heap.size, 0, none⟩) (by first | omega | (simp; omega) | (simp; done))).trans (by simp [go_sem] : _ = some (vi r.goods))
    have a1 := (hbA.cell (p := ⟨w.heap.size, 1, none⟩) (by first | omega | (simp; omega) | (simp; done))).trans (by simp [go_sem] : _ = some r.slice)
    have d0 := (hbA.cell (p := ⟨w.heap.size + 1, 0, none⟩) (by first | omega | (simp; omega) | (simp; done))).trans (by simp [go_sem] : _ = some (vi a))
    have d1 := (hbA.cell (p := ⟨w.heap.size + 1, 1, none⟩) (by first | omega | (simp; omega) | (simp; done))).trans (by simp [go_sem] : _ = some (vi b))
    have b0 := (hbA.cell (p := ⟨w.heap.size + 1 + 1, 0, none⟩) (by first | omega | (simp; omega) | (simp; done))).trans (by simp [go_sem] : _ = some (vi ig))
    have b1 := (hbA.cell (p := ⟨w.heap.size + 1 + 1, 1, none⟩) (by first | omega | (simp; omega) | (simp; done))).trans (by simp [go_sem] : _ = some (vi is))
    have b2 := (hbA.cell (p := ⟨w.heap.size + 1 + 1, 2, none⟩) (by first | omega | (simp; omega) | (simp; done))).trans (by simp [go_sem] : _ = some (vi ic))
    have HA : Below w.heap.size w wA := by (repeat (first | exact Below.refl _ _ | refine Below.setCell ?_ (by first | omega | (simp; omega) | (simp; done)) _ | refine Below.alloc ?_ (by first | omega | (simp; omega) | (simp; done)) _ | refine Below.drew ?_ | refine below_drewN ?_ _ | refine Below.trans ?_ (Below.mono (by assumption) (by first | omega | (simp; omega) | (simp; done)))))
    have hlA : Lim wA := hl.next HA
    have hw0 := HA.size
    clear hbA
    go_wp2_with (first | (go_at_call 27; refine (spanWithin_any _ _ _ _ (by omega) (by omega) (by repeat (first | assumption | refine Lim.alloc ?_ _ | refine Lim.setCell ?_ (by first | (simp; done) | (simp; omega) | omega) _ | refine Lim.drew ?_))).mono ?_; rintro e w1 ⟨rfl, hb1⟩; obtain ⟨⟨hc1, hf1, hs1⟩, hz1⟩ := after hb1; (try simp only [World.size_alloc, World.size_setCell, World.size_drew] at hz1); have hl1 : Lim w1 := Lim.next (by repeat (first | assumption | refine Lim.alloc ?_ _ | refine Lim.setCell ?_ (by first | (simp; done) | (simp; omega) | omega) _ | refine Lim.drew ?_)) hb1; have hq1 : wA.heap.size < w1.heap.size := (by omega)) | (go_at_call 55; refine (isItem_any r ⟨ig, is, ic⟩ _ (by repeat (first | assumption | refine Lim.alloc ?_ _ | refine Lim.setCell ?_ (by first | (simp; done) | (simp; omega) | omega) _ | refine Lim.drew ?_))).mono ?_; rintro e w1 ⟨rfl, hb1⟩; obtain ⟨⟨hc1, hf1, hs1⟩, hz1⟩ := after hb1; (try simp only [World.size_alloc, World.size_setCell, World.size_drew] at hz1); have hl1 : Lim w1 := Lim.next (by repeat (first | assumption | refine Lim.alloc ?_ _ | refine Lim.setCell ?_ (by first | (simp; done) | (simp; omega) | omega) _ | refine Lim.drew ?_)) hb1; have hq1 : wA.heap.size < w1.heap.size := (by omega)))
    have HBw : Below w.heap.size w w1 := by (repeat (first | exact Below.refl _ _ | refine Below.setCell ?_ (by first | omega | (simp; omega) | (simp; done)) _ | refine Below.alloc ?_ (by first | omega | (simp; omega) | (simp; done)) _ | refine Below.drew ?_ | refine below_drewN ?_ _ | refine Below.trans ?_ (Below.mono (by assumption) (by first | omega | (simp; omega) | (simp; done)))))
    refine (prices_any r a b ⟨ig, is, ic⟩ _ (hr.to HBw) hn4 hic hd1 hd2 hd3).mono ?_
    rintro e w2 ⟨v, rfl, hv2⟩
    go_wp2
    go_ret2
    refine ⟨_, by rw [E.out.1]; rfl, ?_⟩
    rw [E.out.2]
    refine hv2.from ?_
    exact HBw
end Go.Proofs.YtpcajmkmmkmekaaGreatDoor

