/- Sorting by insertion: plain forms; contracts of Compare and of the desk's comparison. -/
import Derived.Test.YtomgnpfpaodpiaaDoorJ05
import Derived.Test.YtomgnpfpaodpiaaDoorJ01
import Derived.Test.YtomgnpfpaodpiaaDoorJ03
import Derived.Test.YtomgnpfpaodpiaaDoorJ04
set_option linter.unusedVariables false
set_option linter.unusedSimpArgs false
namespace Go.Proofs.YtomgnpfpaodpiaaDoor
open Go Go.RowKit
set_option maxHeartbeats 2000000
def insR (key : Int → Int) (x : Int) : List Int → List Int
  | [] => [x]
  | y :: ys => if key x < key y then y :: insR key x ys else x :: y :: ys
def insF (key : Int → Int) (x : Int) (l : List Int) : List Int := (insR key x l.reverse).reverse
def isortF (key : Int → Int) (l : List Int) : List Int := l.foldl (fun acc x => insF key x acc) []
theorem insR_len (key : Int → Int) (x : Int) : ∀ l, (insR key x l).length = l.length + 1
  | [] => rfl
  | y :: ys => by
    rw [insR]
    split
    · simp [insR_len key x ys]
    · simp
theorem insF_len (key : Int → Int) (x : Int) (l : List Int) : (insF key x l).length = l.length + 1 := by simp [insF, insR_len]
theorem insR_past {key : Int → Int} {x : Int} : ∀ (c b : List Int), (∀ y ∈ c, key x < key y) → insR key x (c ++ b) = c ++ insR key x b
  | [], _, _ => rfl
  | y :: c, b, h => by
    rw [List.cons_append, insR, if_pos (h y (by simp)), insR_past c b (fun z hz => h z (by simp [hz]))]
    rfl
/-- where the one that is put in comes to lie -/
theorem insF_at {key : Int → Int} {x : Int} {l : List Int} {j : Nat} (hj : j ≤ l.length) (h1 : ∀ y ∈ l.drop j, key x < key y) (h2 : ∀ (i : Nat) (y : Int), j = i + 1 → l[i]? = some y → ¬ key x < key y) : insF key x l = l.take j ++ x :: l.drop j := by
  have e : l.reverse = (l.drop j).reverse ++ (l.take j).reverse := by rw [← List.reverse_append, List.take_append_drop]
  have hstop : insR key x (l.take j).reverse = x :: (l.take j).reverse := by
    cases j with
    | zero => simp [insR]
    | succ i =>
      have hi : l[i]? = some l[i] := List.getElem?_eq_getElem (by omega)
      rw [List.take_succ_eq_append_getElem (by omega), List.reverse_append, List.reverse_singleton, List.singleton_append, insR, if_neg (h2 i _ rfl hi)]
  unfold insF
  rw [e, insR_past _ _ (fun y hy => h1 y (List.mem_reverse.1 hy)), hstop, List.reverse_append, List.reverse_cons, List.reverse_reverse, List.reverse_reverse]
  simp
theorem isort_succ {key : Int → Int} {l : List Int} {i : Nat} {x : Int} (h : l[i]? = some x) : isortF key (l.take (i + 1)) = insF key x (isortF key (l.take i)) := by
  obtain ⟨hi, rfl⟩ := List.getElem?_eq_some_iff.1 h
  unfold isortF
  rw [List.take_succ_eq_append_getElem hi, List.foldl_append]
  rfl
theorem isort_len (key : Int → Int) (l : List Int) : (isortF key l).length = l.length := by
  have : ∀ (l acc : List Int), (l.foldl (fun acc x => insF key x acc) acc).length = acc.length + l.length := by
    intro l
    induction l with
    | nil => intro acc; simp
    | cons x l ih => intro acc; rw [List.foldl_cons, ih, insF_len, List.length_cons]; omega
  have h := this l []
  simp only [List.length_nil, Nat.zero_add] at h
  exact h
theorem insR_mem {key : Int → Int} {x y : Int} : ∀ {l : List Int}, y ∈ insR key x l ↔ y = x ∨ y ∈ l
  | [] => by simp [insR]
  | z :: l => by
    rw [insR]
    split
    · rw [List.mem_cons, insR_mem, List.mem_cons]; exact ⟨fun h => by rcases h with h | h | h <;> simp [h], fun h => by rcases h with h | h | h <;> simp [h]⟩
    · rw [List.mem_cons]
theorem isort_mem {key : Int → Int} {y : Int} {l : List Int} : y ∈ isortF key l ↔ y ∈ l := by
  have : ∀ (l acc : List Int), y ∈ l.foldl (fun acc x => insF key x acc) acc ↔ y ∈ acc ∨ y ∈ l := by
    intro l
    induction l with
    | nil => intro acc; simp
    | cons x l ih =>
      intro acc
      rw [List.foldl_cons, ih, insF, List.mem_reverse, insR_mem, List.mem_reverse, List.mem_cons]
      exact ⟨fun h => by rcases h with (h | h) | h <;> simp [h], fun h => by rcases h with h | h | h <;> simp [h]⟩
  simpa [isortF] using this l []
/-- the list at a point of the sorting -/
def midL (A : List Int) (x : Int) (j : Nat) (rest : List Int) : List Int := A.take j ++ x :: (A.drop j ++ rest)
theorem mid_len (A : List Int) (x : Int) (j : Nat) (rest : List Int) : (midL A x j rest).length = A.length + 1 + rest.length := by
  simp [midL]; omega
theorem mid_at {A : List Int} {x : Int} {j : Nat} {rest : List Int} (hj : j ≤ A.length) : (midL A x j rest)[j]? = some x := by
  unfold midL
  rw [List.getElem?_append_right (by simp; omega)]
  simp [Nat.min_eq_left hj]
theorem mid_before {A : List Int} {x : Int} {i : Nat} {rest : List Int} (hj : i + 1 ≤ A.length) : (midL A x (i + 1) rest)[i]? = A[i]? := by
  unfold midL
  rw [List.getElem?_append_left (by simp; omega), List.getElem?_take, if_pos (by omega)]
theorem mid_swap {A : List Int} {x y : Int} {i : Nat} {rest : List Int} (hj : i + 1 ≤ A.length) (hy : A[i]? = some y) : ((midL A x (i + 1) rest).set (i + 1) y).set i x = midL A x i rest := by
  obtain ⟨h, rfl⟩ := List.getElem?_eq_some_iff.1 hy
  unfold midL
  have e1 : A.take (i + 1) = A.take i ++ [A[i]] := List.take_succ_eq_append_getElem h
  have e2 : A.drop i = A[i] :: A.drop (i + 1) := List.drop_eq_getElem_cons h
  have l1 : (A.take i).length = i := by simp; omega
  rw [e1, e2, List.append_assoc, List.set_append_right _ _ (by omega), l1, show i + 1 - i = 1 by omega]
  simp only [List.singleton_append, List.set_cons_succ, List.set_cons_zero]
  rw [List.set_append_right _ _ (by omega), l1, Nat.sub_self]
  simp only [List.set_cons_zero, List.cons_append]
theorem mid_start {A : List Int} {x : Int} {rest : List Int} : midL A x A.length rest = A ++ x :: rest := by simp [midL]
def cmpF (a b : Int) : Int := if a < b then -1 else if a > b then 1 else 0
theorem isNaN_any (a : Int) (w : World) : Calls Tryd.prog 115 #[vi a] w fun e w' => e = .returned (.bool false) ∧ Below w.heap.size w w' := by
  go_enter Tryd.func115, Tryd.ntmps115
  go_wp2
  go_ret
  exact ⟨rfl, Below.refl _ _⟩
theorem compare_is {a b n : Int} (hn : cmpF a b = n) (w : World) : Calls Tryd.prog 103 #[vi a, vi b] w fun e w' => e = .returned (vi n) ∧ Below w.heap.size w w' := by
  by_cases h1 : a < b
  · have e : n = -1 := by rw [← hn, cmpF, if_pos h1]
    clear hn
    subst e
    go_enter Tryd.func103, Tryd.ntmps103
    go_wp2_with fail
    refine (isNaN_any a _).mono ?_
    rintro e W ⟨rfl, hb⟩
    go_wp2_with fail
    refine (isNaN_any b _).mono ?_
    rintro e W2 ⟨rfl, hb2⟩
    go_wp2_with fail
    go_ret
    exact ⟨rfl, gr_trans hb hb2⟩
  · by_cases h2 : b < a
    · have e : n = 1 := by rw [← hn, cmpF, if_neg h1, if_pos h2]
      clear hn
      subst e
      go_enter Tryd.func103, Tryd.ntmps103
      go_wp2_with fail
      refine (isNaN_any a _).mono ?_
      rintro e W ⟨rfl, hb⟩
      go_wp2_with fail
      refine (isNaN_any b _).mono ?_
      rintro e W2 ⟨rfl, hb2⟩
      go_wp2_with fail
      go_ret
      exact ⟨rfl, gr_trans hb hb2⟩
    · have e : n = 0 := by rw [← hn, cmpF, if_neg h1, if_neg h2]
      clear hn
      subst e
      go_enter Tryd.func103, Tryd.ntmps103
      go_wp2_with fail
      refine (isNaN_any a _).mono ?_
      rintro e W ⟨rfl, hb⟩
      go_wp2_with fail
      refine (isNaN_any b _).mono ?_
      rintro e W2 ⟨rfl, hb2⟩
      go_wp2_with fail
      go_ret
      exact ⟨rfl, gr_trans hb hb2⟩
/-- the desk's comparison -/
theorem before_any (f : Floor) (bF B : Nat) (x y : Nat) (s t : SSlip) (hs : f.slips[x]? = some s) (ht : f.slips[y]? = some t) (w : World) (hX : CellsBox w bF 89 f.cells) (h : FloorAt w B f) :
    Calls Tryd.prog 102 #[vi x, vi y, .pointer (some ⟨bF, 0, none⟩)] w fun e w' => e = .returned (vi (cmpF s.till t.till)) ∧ Below w.heap.size w w' := by
  have hsl := h.slips.lens
  obtain ⟨b, off, hA, hb, x0, x1⟩ := row2 h.slips.row hs rfl
  obtain ⟨b', off', hA', _, y0, y1⟩ := row2 h.slips.row ht rfl
  rw [hA] at hA'
  cases hA'
  have hx := (List.getElem?_eq_some_iff.1 hs).1
  have hy := (List.getElem?_eq_some_iff.1 ht).1
  have f5 := hX.cell (j := 5) rfl
  have zF := hX.lt
  have zb := cell_lt x0
  simp only at zb
  have h0x : (0 : Int) ≤ x := by omega
  have h0y : (0 : Int) ≤ y := by omega
  have hxI : (x : Int) < f.slips.length := by omega
  have hyI : (y : Int) < f.slips.length := by omega
  rw [hA] at f5
  obtain ⟨n, hn⟩ : ∃ n, cmpF s.till t.till = n := ⟨_, rfl⟩
  have CO := Lib.hid (fun W => compare_is hn W)
  rw [hn]
  clear hs ht hX h hn hA
  go_enter Tryd.func102, Tryd.ntmps102
  go_wp2_with fail
  (refine wp_region_grow_lit (by kernel_rfl) (by kernel_rfl) ?_; (repeat (go_big_quiet_step ((go_at_call 103; refine Calls.grow_of (CO.out _))))); refine wpQuiet_nil ?_; intro w1 hw1; have hb1 := below_of_plus hw1; clear hw1; obtain ⟨⟨hc1, hf1, hs1⟩, hz1⟩ := after hb1; (try simp only [World.size_alloc, World.size_setCell, World.size_drew] at hz1))
  have HB1 : Below w.heap.size w w1 := by (repeat (first | exact Below.refl _ _ | refine Below.setCell ?_ (by first | omega | (simp; omega) | (simp; done)) _ | refine Below.alloc ?_ (by first | omega | (simp; omega) | (simp; done)) _ | refine Below.drew ?_ | refine below_drewN ?_ _ | refine Below.trans ?_ (Below.mono (by assumption) (by first | omega | (simp; omega) | (simp; done)))))
  clear hb1 hc1 hf1 hs1 hz1
  go_wp2_with fail
  go_ret
  exact ⟨rfl, HB1⟩
end Go.Proofs.YtomgnpfpaodpiaaDoor

/- Contract of the insertion sort, over the desk's comparison. -/
namespace Go.Proofs.YtomgnpfpaodpiaaDoor
open Go Go.RowKit
set_option maxHeartbeats 2000000
def keyF (f : Floor) (x : Int) : Int := match f.slips[x.toNat]? with | some s => s.till | none => 0
abbrev cmpV (bF : Nat) : Value := .func (.func 102) #[] #[.pointer (some ⟨bF, 0, none⟩)]
theorem before_is {f : Floor} {bF B x y : Nat} (hx : x < f.slips.length) (hy : y < f.slips.length) {n : Int} (hn : cmpF (keyF f x) (keyF f y) = n) (w : World) (hX : CellsBox w bF 89 f.cells) (h : FloorAt w B f) :
    Calls Tryd.prog 102 #[vi x, vi y, .pointer (some ⟨bF, 0, none⟩)] w fun e w' => e = .returned (vi n) ∧ Below w.heap.size w w' := by
  have e1 : f.slips[x]? = some f.slips[x] := List.getElem?_eq_getElem hx
  have e2 : f.slips[y]? = some f.slips[y] := List.getElem?_eq_getElem hy
  have := before_any f bF B x y _ _ e1 e2 w hX h
  rw [show cmpF f.slips[x].till f.slips[y].till = n from by rw [← hn]; simp [keyF, e1, e2]] at this
  exact this
theorem cmp_neg (a b : Int) : cmpF a b < 0 ↔ a < b := by
  unfold cmpF
  by_cases h1 : a < b
  · simp [h1]
  · by_cases h2 : b < a <;> simp [h1, h2]
theorem spare_keep {n₀ L : Nat} {a b c : World} (h : Spare n₀ L a b) (hb : Below b.heap.size b c) (hn : n₀ ≤ a.heap.size) : Spare n₀ L a c := h.trans (spare_of_below L hb (by have := h.size; omega))
theorem box_spare {n₀ L k : Nat} {a b : World} {t : TypeId} {cs : List Value} (h : Spare n₀ L a b) (hk : CellsBox a k t cs) (h1 : k < n₀) (h2 : k ≠ L) : CellsBox b k t cs := (h.block k h1 h2).trans hk
theorem cells_map (l : List Int) (rest : List Value) (k : Nat) (x : Int) (h : l[k]? = some x) : (l.map vi ++ rest)[k]? = some (vi x) := by
  have hk := (List.getElem?_eq_some_iff.1 h).1
  rw [List.getElem?_append_left (by simpa using hk), List.getElem?_map, h]
  rfl
set_option maxRecDepth 100000 in
theorem insertion_any (f : Floor) (bF B : Nat) (l : List Int) (hl : ∀ x ∈ l, 0 ≤ x ∧ x < f.slips.length) (h2 : 1 ≤ l.length) (h9 : l.length ≤ 9) (g c : Nat) (rest : List Value) (w : World) (hX : CellsBox w bF 89 f.cells) (h : FloorAt w B f) (hB : B ≤ g) (hgF : bF ≠ g) (hG : CellsBox w g 3 (l.map vi ++ rest)) :
    Calls Tryd.prog 122 #[.slice (some ⟨g, 0, none⟩) l.length c, vi 0, vi l.length, cmpV bF] w fun e w' => (∃ v, e = .returned v) ∧ CellsBox w' g 3 ((isortF (keyF f) l).map vi ++ rest) ∧ Spare w.heap.size g w w' := by
  have HX := Lib.hid hX
  have HF := Lib.hid h
  have HL := Lib.hid hl
  have zg := hG.lt
  have zF := hX.lt
  obtain ⟨key, hkey⟩ : ∃ key, key = keyF f := ⟨_, rfl⟩
  have BE : Hid (∀ (x y : Int) (n : Int), (0 ≤ x ∧ x < f.slips.length) → (0 ≤ y ∧ y < f.slips.length) → cmpF (key x) (key y) = n → ∀ W : World, CellsBox W bF 89 f.cells → FloorAt W B f → Calls Tryd.prog 102 #[vi x, vi y, .pointer (some ⟨bF, 0, none⟩)] W fun e w' => e = .returned (vi n) ∧ Below W.heap.size W w') := fun x y n hx hy hn W hW hWF => by
    obtain ⟨x', rfl⟩ : ∃ x' : Nat, x = x' := ⟨x.toNat, by omega⟩
    obtain ⟨y', rfl⟩ : ∃ y' : Nat, y = y' := ⟨y.toNat, by omega⟩
    rw [hkey] at hn
    exact before_is (by omega) (by omega) hn W hW hWF
  rw [← hkey]
  obtain ⟨P, hP⟩ : ∃ P : Nat → List Int, P = fun i => isortF key (l.take i) := ⟨_, rfl⟩
  have PL : Hid (∀ i, i ≤ l.length → (P i).length = i) := fun i hi => by rw [hP]; simp only; rw [isort_len, List.length_take]; omega
  have PM : Hid (∀ i y, y ∈ P i → 0 ≤ y ∧ y < f.slips.length) := fun i y hy => by
    rw [hP] at hy; simp only at hy
    exact hl y (List.mem_of_mem_take (isort_mem.1 hy))
  have PS : Hid (∀ (i : Nat) (x : Int), l[i]? = some x → P (i + 1) = insF key x (P i)) := fun i x hx => by rw [hP]; exact isort_succ hx
  have PA : Hid (P l.length = isortF key l) := by unfold Hid; rw [hP]; simp only; rw [List.take_length]
  have P1 : Hid (P 1 ++ l.drop 1 = l) := by
    unfold Hid
    have : l[0]? = some l[0] := List.getElem?_eq_getElem (by omega)
    have e := PS.out 0 _ this
    have e0 : P 0 = [] := by rw [hP]; simp [isortF]
    rw [e, e0, show insF key l[0] [] = [l[0]] from rfl]
    have : l = l[0] :: l.drop 1 := by
      have := List.drop_eq_getElem_cons (show 0 < l.length by omega)
      simpa using this
    conv => rhs; rw [this]
    rfl
  obtain ⟨R, hR⟩ : ∃ R, R = isortF key l := ⟨_, rfl⟩
  rw [← hR] at PA ⊢
  have HG : Hid (CellsBox w g 3 ((P 1 ++ l.drop 1).map vi ++ rest)) := by rw [P1.out]; exact hG
  clear hkey hP hR hX h hl hG P1
  go_enter Tryd.func122, Tryd.ntmps122
  go_wp2_with fail
  go_loopw [8, 9] (fun i j wr => ∃ k : Nat, 1 ≤ k ∧ k ≤ l.length ∧ i = .int .i64 k ∧ Hid (CellsBox wr g 3 ((P k ++ l.drop k).map vi ++ rest)) ∧ Hid (Spare w.heap.size g w wr)) (fun i _ _ => l.length - (intOf i).toNat)
  case atStart => exact ⟨1, Nat.le_refl _, h2, by go_num, HG, Spare.refl _ _ _⟩
  clear HG
  obtain ⟨k, hk1, hk, rfl, HC, HS⟩ := hrel
  obtain ⟨wo, hwo⟩ : ∃ wo, wo = wr := ⟨_, rfl⟩
  subst hwo
  by_cases hlt : k < l.length
  · obtain ⟨x, hx⟩ : ∃ x, l[k]? = some x := ⟨_, List.getElem?_eq_getElem hlt⟩
    have hkI : (k : Int) < l.length := by omega
    have HPk := Lib.hid (PS.out k x hx)
    have HXX := Lib.hid (HL.out x (List.mem_of_getElem? hx))
    have hPl := PL.out k hk
    obtain ⟨A, hA⟩ : ∃ A, A = P k := ⟨_, rfl⟩
    have HAM : Hid (∀ y ∈ A, 0 ≤ y ∧ y < f.slips.length) := fun y hy => PM.out k y (by rw [← hA]; exact hy)
    have hdr : l.drop k = x :: l.drop (k + 1) := by
      obtain ⟨h1, rfl⟩ := List.getElem?_eq_some_iff.1 hx
      exact List.drop_eq_getElem_cons h1
    obtain ⟨D, hD⟩ : ∃ D, D = l.drop (k + 1) := ⟨_, rfl⟩
    have HD := Lib.hid hD
    rw [hdr, ← hD, ← hA] at HC
    rw [← hA] at HPk hPl
    have HC2 : Hid (CellsBox wo g 3 ((midL A x k D).map vi ++ rest)) := by rw [← hPl, mid_start]; exact HC
    clear hx hdr hD hA HC
    go_wp2_with fail
    go_loopw [9] (fun j w2 => ∃ m : Nat, m ≤ k ∧ j = .int .i64 m ∧ Hid (CellsBox w2 g 3 ((midL A x m D).map vi ++ rest)) ∧ Hid (Spare w.heap.size g w w2) ∧ Hid (∀ y ∈ A.drop m, key x < key y)) (fun j _ => (intOf j).toNat)
    case atStart => exact ⟨k, Nat.le_refl _, rfl, HC2, HS, fun y hy => by rw [List.drop_of_length_le (by omega)] at hy; simp at hy⟩
    clear HC2 HS
    obtain ⟨m, hm, rfl, HC, HS, HGT⟩ := hrel
    rcases Nat.eq_zero_or_pos m with rfl | hm0
    · have DONE : Hid (P (k + 1) ++ l.drop (k + 1) = midL A x 0 D) := by
        unfold Hid
        rw [HPk.out, insF_at (j := 0) (by omega) HGT.out (fun i y hi => by omega), ← HD.out]
        simp [midL]
      have HC3 : Hid (CellsBox wr g 3 ((P (k + 1) ++ l.drop (k + 1)).map vi ++ rest)) := by unfold Hid; rw [DONE.out]; exact HC.out
      clear HC DONE HGT
      go_wp2_with fail
      go_quiet (fail)
      go_wp2_with fail
      go_roundw
      case rel => exact ⟨k + 1, by omega, by omega, by go_num, HC3, HS.out.trans (spare_of_below g (below_drewN (Below.refl _ _) _) (by have := HS.out.size; omega))⟩
      case measure => simp [intOf]; omega
    · obtain ⟨i, hmi⟩ : ∃ i, m = i + 1 := ⟨m - 1, by omega⟩
      obtain ⟨y, hy⟩ : ∃ y, A[i]? = some y := ⟨_, List.getElem?_eq_getElem (by omega)⟩
      have HYY := Lib.hid (HAM.out y (List.mem_of_getElem? hy))
      have HMI := Lib.hid hmi
      have hmI : (m : Int) - 1 = i := by omega
      have hmJ : (0 : Int) < m := by omega
      have hgd : decide (0 < m) = true := by simp; omega
      have hmK : (m : Int) < l.length := by omega
      have hiK : (i : Int) < l.length := by omega
      have h0i : (0 : Int) ≤ i := by omega
      have h0m : (0 : Int) ≤ m := by omega
      have c1 : wr.cell? ⟨g, m, none⟩ = some (vi x) := HC.out.cell (cells_map _ _ _ _ (mid_at (by omega)))
      have c0 : wr.cell? ⟨g, i, none⟩ = some (vi y) := HC.out.cell (cells_map _ _ _ _ (by rw [HMI.out, mid_before (by omega), hy]))
      have zg2 := HC.out.lt
      have HY := Lib.hid hy
      have HSP := HS
      have HXw : Hid (CellsBox wr bF 89 f.cells) := box_spare HS.out HX.out zF hgF
      have HFw : Hid (FloorAt wr B f) := HF.out.below (HS.out.below (by omega) hB)
      obtain ⟨n, hn⟩ : ∃ n, cmpF (key x) (key y) = n := ⟨_, rfl⟩
      have BE1 := Lib.hid (fun (W : World) hW hWF => BE.out x y n HXX.out HYY.out hn W hW hWF)
      have HN := Lib.hid hn
      clear hy hmi hm0 hn
      by_cases hneg : n < 0
      · have HLT : Hid (key x < key y) := (cmp_neg _ _).1 (by rw [HN.out]; exact hneg)
        go_wp2_with fail
        (refine wp_region_grow_lit (by kernel_rfl) (by kernel_rfl) ?_; (repeat (go_big_quiet_step ((go_at_call 102; refine Calls.grow_of (BE1.out _ (HXw.out.keep (plus_below _ _)) (HFw.out.below ((plus_below _ _).mono (by omega)))))))); refine wpQuiet_nil ?_; intro w1 hw1; have hb1 := below_of_plus hw1; clear hw1; obtain ⟨⟨hc1, hf1, hs1⟩, hz1⟩ := after hb1; (try simp only [World.size_alloc, World.size_setCell, World.size_drew] at hz1))
        have HB1 : Below wr.heap.size wr w1 := by (repeat (first | exact Below.refl _ _ | refine Below.setCell ?_ (by first | omega | (simp; omega) | (simp; done)) _ | refine Below.alloc ?_ (by first | omega | (simp; omega) | (simp; done)) _ | refine Below.drew ?_ | refine below_drewN ?_ _ | refine Below.trans ?_ (Below.mono (by assumption) (by first | omega | (simp; omega) | (simp; done)))))
        have HC1 := Lib.hid (HC.out.keep HB1)
        have HS1 : Hid (Spare w.heap.size g w w1) := HS.out.trans (spare_of_below g HB1 (by have := HS.out.size; omega))
        clear hb1 hc1 hf1 hs1 hz1 c0 c1
        have c1 : w1.cell? ⟨g, m, none⟩ = some (vi x) := HC1.out.cell (cells_map _ _ _ _ (mid_at (by omega)))
        have c0 : w1.cell? ⟨g, i, none⟩ = some (vi y) := HC1.out.cell (cells_map _ _ _ _ (by rw [HMI.out, mid_before (by have := HMI.out; omega), HY.out]))
        have z1 := HC1.out.frozen m
        have z0 := HC1.out.frozen i
        have zg1 := HC1.out.lt
        have hne : i ≠ m := by omega
        have NC := ((HC1.out.store m (vi y)).store i (vi x))
        have NS : Spare w.heap.size g w ((w1.setCell ⟨g, m, none⟩ (vi y)).setCell ⟨g, i, none⟩ (vi x)) := HS1.out.trans ⟨rfl, rfl, rfl, by simp, fun k hk hl => (heap_setCell_other _ _ k _ hl).trans (heap_setCell_other _ _ k _ hl)⟩
        have NC2 : CellsBox ((w1.setCell ⟨g, m, none⟩ (vi y)).setCell ⟨g, i, none⟩ (vi x)) g 3 ((midL A x i D).map vi ++ rest) := by
          have e := mid_swap (x := x) (rest := D) (by have := HMI.out; omega) HY.out
          have hl2 := mid_len A x m D
          rw [← e]
          rw [HMI.out] at NC hl2 ⊢
          rw [List.map_set, List.map_set, List.set_append_left _ _ (by simp; omega), List.set_append_left _ _ (by simp; omega)] at *
          exact NC
        have HNC := Lib.hid NC2
        have HNS := Lib.hid NS
        clear NC NC2 NS
        go_wp2_with fail
        go_region
        have HGT2 : Hid (∀ z ∈ A.drop i, key x < key z) := fun z hz => by
          obtain ⟨h1, e1⟩ := List.getElem?_eq_some_iff.1 HY.out
          rw [List.drop_eq_getElem_cons h1, e1, ← HMI.out] at hz
          rcases List.mem_cons.1 hz with rfl | hz
          · exact HLT.out
          · exact HGT.out z hz
        refine (?_ : ∀ Z : World, CellsBox Z g 3 ((midL A x i D).map vi ++ rest) → Spare w.heap.size g w Z → Exit.inBlock _ _ _ _ Z) _ HNC.out (HNS.out.trans (spare_of_below g (Below.drew (Below.refl _ _)) (by have := HNS.out.size; omega)))
        clear HNC HNS c0 c1 z0 z1 zg1 HC1 HS1
        intro Z ZC ZS
        have HZC := Lib.hid ZC
        have HZS := Lib.hid ZS
        clear ZC ZS
        go_wp2_with fail
        go_roundw
        case rel => exact ⟨i, by omega, by go_num, HZC, HZS, HGT2⟩
        case measure => simp [intOf]; omega
      · have HLE : Hid (¬ key x < key y) := fun h => hneg (by rw [← HN.out]; exact (cmp_neg _ _).2 h)
        have DONE : Hid (P (k + 1) ++ l.drop (k + 1) = midL A x m D) := by
          unfold Hid
          rw [HPk.out, insF_at (j := m) (by omega) HGT.out (fun i' y' hi' hy' => by
            have e : i' = i := by have := HMI.out; omega
            subst e
            rw [HY.out] at hy'
            cases hy'
            exact HLE.out), ← HD.out]
          simp [midL]
        have HC3 : Hid (CellsBox wr g 3 ((P (k + 1) ++ l.drop (k + 1)).map vi ++ rest)) := by unfold Hid; rw [DONE.out]; exact HC.out
        clear DONE HLE HC
        go_wp2_with fail
        (refine wp_region_grow_lit (by kernel_rfl) (by kernel_rfl) ?_; (repeat (go_big_quiet_step ((go_at_call 102; refine Calls.grow_of (BE1.out _ (HXw.out.keep (plus_below _ _)) (HFw.out.below ((plus_below _ _).mono (by omega)))))))); refine wpQuiet_nil ?_; intro w1 hw1; have hb1 := below_of_plus hw1; clear hw1; obtain ⟨⟨hc1, hf1, hs1⟩, hz1⟩ := after hb1; (try simp only [World.size_alloc, World.size_setCell, World.size_drew] at hz1))
        have HB1 : Below wr.heap.size wr w1 := by (repeat (first | exact Below.refl _ _ | refine Below.setCell ?_ (by first | omega | (simp; omega) | (simp; done)) _ | refine Below.alloc ?_ (by first | omega | (simp; omega) | (simp; done)) _ | refine Below.drew ?_ | refine below_drewN ?_ _ | refine Below.trans ?_ (Below.mono (by assumption) (by first | omega | (simp; omega) | (simp; done)))))
        have HC4 := Lib.hid (HC3.out.keep HB1)
        have HS1 : Hid (Spare w.heap.size g w w1) := HS.out.trans (spare_of_below g HB1 (by have := HS.out.size; omega))
        clear hb1 hc1 hf1 hs1 hz1 c0 c1
        go_wp2_with fail
        go_roundw
        case rel => exact ⟨k + 1, by omega, by omega, by go_num, HC4, HS1⟩
        case measure => simp [intOf]; omega
  · obtain rfl : k = l.length := by omega
    rw [PA.out] at HC
    have HC3 : Hid (CellsBox wo g 3 (R.map vi ++ rest)) := by
      have := HC.out
      rwa [List.drop_length, List.append_nil] at this
    go_wp2_with fail
    go_end0
    exact ⟨⟨_, rfl⟩, HC3.out, HS.out⟩
end Go.Proofs.YtomgnpfpaodpiaaDoor

/- Contract of SortStableFunc for a desk. -/
namespace Go.Proofs.YtomgnpfpaodpiaaDoor
open Go Go.RowKit
set_option maxHeartbeats 2000000
theorem insertion_none (A : Option Addr) (c bF : Nat) (w : World) :
    Calls Tryd.prog 122 #[.slice A 0 c, vi 0, vi 0, cmpV bF] w fun e w' => (∃ v, e = .returned v) ∧ w' = w := by
  go_enter Tryd.func122, Tryd.ntmps122
  go_wp2_with fail
  go_loopw [8, 9] (fun i j wr => i = .int .i64 1 ∧ wr = w) (fun _ _ _ => 0)
  case atStart => exact ⟨by go_num, rfl⟩
  obtain ⟨rfl, rfl⟩ := hrel
  go_wp2_with fail
  go_end0
  exact ⟨⟨_, rfl⟩, rfl⟩
set_option maxRecDepth 100000 in
theorem stable_any (A : Option Addr) (n c bF : Nat) (hn : n ≤ 9) (w : World) (R : World → Prop)
    (h : Calls Tryd.prog 122 #[.slice A n c, vi 0, vi n, cmpV bF] w fun e w' => (∃ v, e = .returned v) ∧ R w') :
    Calls Tryd.prog 114 #[.slice A n c, vi n, cmpV bF] w fun e w' => (∃ v, e = .returned v) ∧ R w' := by
  have H := Lib.hid h
  have hI : (n : Int) ≤ 9 := by omega
  have h0 : (0 : Int) ≤ n := by omega
  clear h
  go_enter Tryd.func114, Tryd.ntmps114
  go_wp2_with fail
  go_loopw [7, 8] (fun a b wr => a = .int .i64 0 ∧ b = .int .i64 20 ∧ wr = w) (fun _ _ _ => 0)
  case atStart => exact ⟨rfl, rfl, rfl⟩
  obtain ⟨rfl, rfl, rfl⟩ := hrel
  go_wp2_with fail
  refine H.out.mono ?_
  rintro e W ⟨⟨v, rfl⟩, hR⟩
  have HR := Lib.hid hR
  clear hR
  go_wp2_with fail
  go_loopw [6, 7, 8, 9] (fun s a b m wr => s = .int .i64 20 ∧ wr = W) (fun _ _ _ _ _ => 0)
  case atStart => exact ⟨rfl, rfl⟩
  obtain ⟨rfl, rfl⟩ := hrel
  go_wp2_with fail
  go_end0
  exact ⟨⟨_, rfl⟩, HR.out⟩
theorem sortStable_any (A : Option Addr) (n c bF : Nat) (hn : n ≤ 9) (w : World) (R : World → Prop)
    (h : Calls Tryd.prog 122 #[.slice A n c, vi 0, vi n, cmpV bF] w fun e w' => (∃ v, e = .returned v) ∧ R w') :
    Calls Tryd.prog 101 #[.slice A n c, cmpV bF] w fun e w' => (∃ v, e = .returned v) ∧ R w' := by
  have H := Lib.hid (stable_any A n c bF hn w R h)
  clear h
  go_enter Tryd.func101, Tryd.ntmps101
  go_wp2_with fail
  refine H.out.mono ?_
  rintro e W ⟨⟨v, rfl⟩, hR⟩
  have HR := Lib.hid hR
  clear hR
  go_wp2_with fail
  go_end0
  exact ⟨⟨_, rfl⟩, HR.out⟩
end Go.Proofs.YtomgnpfpaodpiaaDoor

/- The law of Up within the round of a loop over a function. -/
namespace Go.Proofs.YtomgnpfpaodpiaaDoor
open Go Go.RowKit
variable {P : Program} {n : Nat}
theorem op_in {o : Oper} {a : Act} {w : World} {K : Act → World → Prop} {Q : Exit → Act → World → Prop} (hd : ∀ c, o.op ≠ .defer c) (h : o.wp P a w K Q) : o.wpIn Fence.wide n P a w K Q := by
  unfold Oper.wp at h
  unfold Oper.wpIn
  refine ⟨fun _ _ => trivial, ?_⟩
  rw [Oper.semAt_eq _ _ _ hd]
  generalize (execOp a.eval o).run P w = r at *
  cases r with
  | ok x w' =>
    cases x <;> first
      | exact h
      | exact ⟨fun h => by simp [Fence.wide] at h, callsIn_wide.2 h⟩
      | exact ⟨fun h => by simp [Fence.wide] at h, h⟩
      | exact ⟨fun h => by simp [Fence.wide] at h, fun c cs _ => let ⟨v, w2, r, s⟩ := h c cs; ⟨v, w2, r, stepsIn_wide.2 s⟩⟩
      | exact False.elim h
  | halt x w' => cases x <;> exact h
theorem any_in {md : Region.Mode} {ops : Array Oper} {Q : Exit → Act → World → Prop} (hd : noDefer ops.toList = true) (hno : ∀ a w, ¬ Q .outgrown a w) : ∀ (fuel : Nat) (listed : Array Bool) (a : Act) (w : World), wpAny P md ops Q fuel listed a w → wpAnyIn Fence.wide n P md ops Q fuel listed a w := by
  intro fuel
  induction fuel with
  | zero => exact fun _ _ _ h => h
  | succ fuel ih =>
    intro listed a w h
    refine ⟨h.1, fun i hi => ?_⟩
    have h2 := h.2 i hi
    unfold wpOp at h2
    unfold wpOpIn
    cases ho : ops[i]? with
    | none => rw [ho] at h2; exact ih _ _ _ h2
    | some o =>
      rw [ho] at h2
      dsimp only at h2 ⊢
      have hdo : ∀ c, o.op ≠ .defer c := by
        intro c hc
        have := List.all_eq_true.1 hd o (by rw [Array.mem_toList_iff]; exact Array.mem_of_getElem? ho)
        simp [hc] at this
      split
      · rename_i hw
        rw [if_pos hw] at h2
        rcases h2 with h2 | ⟨_, a1, w1, h3⟩
        · exact op_in hdo (Oper.wp_mono (fun a w => ih _ a w) h2)
        · exact absurd h3 (hno a1 w1)
      · rename_i hw
        rw [if_neg hw] at h2
        exact ⟨fun _ _ => trivial, ih _ _ _ h2⟩
theorem wp_region_box_round {lo : Nat} (C : World → Prop) (hC : Stays C) {id : Nat} {Q : Exit → Act → World → Prop} {a : Act} {w : World} {l : List Oper} (hdf : noDefer l = true) (hno : ∀ a w, ¬ Q .outgrown a w) (ks : List Nat) (m N : Nat) {lq : List Oper} {a' : Act} (hm : P.follows .mixedOrders = true) (hs : Region.noSelect l.toArray = true) (hn : l.length = m + ks.length)
    (hB : upB .any l.toArray ks (Array.replicate l.length false) = true) (hk : ks.all (fun k => decide (k < l.length)) = true) (hN : a.tmps.size = N) (hd : slotsB N (ks.map (fun k => l.getD k default)) = true)
    (hl : ks.map (fun k => l.getD k default) = lq) (h0 : C w) (hq : ∀ w0, C w0 → wpQuiet P l.toArray (fun w' => ∃ g, w' = plus w0 g) (fun a'' => a'' = a') lq a)
    (h : wpUp P .any l.toArray (NoPanic Q) C m (upTo ks (Array.replicate l.length false)) a' w) : (Code.region id l.toArray true).wpIn (Fence.wide.inRound lo) n P Q a w := by
  subst hl hN
  have hb : Below w.heap.size w { w with drawn := w.drawn + 1 } := ⟨rfl, rfl, rfl, Nat.le_refl _, fun _ _ => rfl⟩
  refine wpIn_mono (wpIn_region_any hm (wpAnyIn_round (by simpa using hdf) _ _ _ _ (any_in (Q := NoPanic Q) (by simpa using hdf) (fun a w h => hno a w h) _ _ _ _ (wpUp_any (C := C) _ _ _ _ (hC _ _ h0 hb) ?_)))) NoPanic.imp
  have hsz : l.toArray.size = m + ks.length := by simpa using hn
  rw [hsz]
  have := wpUp_lex (md := .any) hC h0 hs (fun _ _ _ _ h => h) ks _ (Array.replicate l.length false) a (picks_map ks hk) hB hd (fun w0 h1 => by have := hq w0 h1; rwa [plus_class] at this) h
  rw [hn] at this
  have h9 := wpUp_up this hb
  simpa using h9
end Go.Proofs.YtomgnpfpaodpiaaDoor

/- An append to a list that a field of a box holds. -/
namespace Go.Proofs.YtomgnpfpaodpiaaDoor
open Go Go.RowKit
theorem own_other {w7 w8 : World} {base n k : Nat} {v : Value} {xs : List Value} {t : TypeId} {cs : List Value} (h : w7.ownsRow base 3 1 v n xs) (hg : w7.grownBy w8 v.ownBlock) (ht : t ≠ 3) (hk : CellsBox w7 k t cs) : CellsBox w8 k t cs :=
  (hg.block k hk.lt fun e => by
    rcases h.2 with ⟨rfl, _⟩ | ⟨g, cap, cur, rfl, _, h2, _⟩
    · cases e
    · cases e
      unfold CellsBox at hk
      rw [h2] at hk; cases hk; exact ht rfl).trans hk
theorem own_spare {w7 w8 w9 : World} {base n L i : Nat} {v u : Value} {xs : List Value} (h : w7.ownsRow base 3 1 v n xs) (hg : w7.grownBy w8 v.ownBlock) (h9 : Below w8.heap.size w8 w9) (hb : base ≤ w7.heap.size) : Spare base L w7 (w9.setCell ⟨L, i, none⟩ u) := by
  have hsz := hg.size
  refine ⟨h9.os.trans hg.os, h9.tape.trans hg.tape, h9.output.trans hg.output, by have := h9.size; simp; omega, fun k hk hl => ?_⟩
  rw [heap_setCell_other w9 _ k u hl, h9.block k (by omega)]
  refine hg.block k (by omega) fun e => ?_
  have := (h.lt k e.symm).1
  omega
theorem own_set {w8 w9 : World} {base n L i : Nat} {v u : Value} {xs cs : List Value} {t : TypeId} (h : w8.ownsRow base 3 1 v n xs) (h9 : Below w8.heap.size w8 w9) (ht : t ≠ 3) (hL : CellsBox w9 L t cs) : (w9.setCell ⟨L, i, none⟩ u).ownsRow base 3 1 v n xs := by
  have h2 := own_keep h h9
  refine h2.kept (grownBy_set w9 L i u) ?_
  rcases h2.2 with ⟨rfl, _⟩ | ⟨g, cap, cur, rfl, _, h3, _⟩
  · exact .inl rfl
  · right
    intro e
    cases e
    unfold CellsBox at hL
    rw [h3] at hL; cases hL; exact ht rfl
theorem news_i {w : World} {b : Nat} {u : Value} (h : w.cell? ⟨b, 0, none⟩ = some u) : ∀ j x, [u][j]? = some x → w.cell? ((⟨b, 0, none⟩ : Addr).add j) = some x := by
  intro j x hj
  cases j with
  | zero => simp at hj; subst hj; simpa [Addr.add] using h
  | succ j => simp at hj
def secsL (f : Floor) : List Int := f.slips.map fun s => (takesF f s).2
theorem secsL_at {f : Floor} {k : Nat} {s : SSlip} (h : f.slips[k]? = some s) : (secsL f).take (k + 1) = (secsL f).take k ++ [(takesF f s).2] := by
  obtain ⟨hk, rfl⟩ := List.getElem?_eq_some_iff.1 h
  have hk2 : k < (secsL f).length := by simpa [secsL] using hk
  rw [List.take_succ_eq_append_getElem hk2]
  simp [secsL]
end Go.Proofs.YtomgnpfpaodpiaaDoor

