/- Contracts of package spans, and of the specification's small functions (slip's seat). -/
import Derived.Test.YtomgnpfpaodpiaaDoorChecked
import Derived.Test.YtomgnpfpaodpiaaDoorH01
import Derived.Test.YtomgnpfpaodpiaaDoorH02
import Derived.WalkSpells
import Derived.WalkSmall
import Derived.Handy
import Derived.BigQuiet
import Derived.Deep.QuietTactic
set_option linter.unusedVariables false
set_option linter.unusedSimpArgs false
namespace Go.Proofs.YtomgnpfpaodpiaaDoor
open Go Go.RowKit
set_option maxHeartbeats 1000000
theorem has_any (a b n : Int) (w : World) :
    Calls Tryd.prog 73 #[.agg #[vi a, vi b], vi n] w fun e w' => e = .returned (.bool (hasB a b n)) ∧ Below w.heap.size w w' := by
  go_enter Tryd.func73, Tryd.ntmps73
  go_wp2
  all_goals
    go_ret
    refine ⟨(by first | (simp [hasB, *]; done) | ((simp only [Bool.not_eq_true', Bool.not_eq_false'] at *); simp [hasB, *]; done) | (simp_all [hasB]; done) | (simp [hasB, *]; omega) | (simp [hasB, *]; intros; omega)), ?_⟩
    (repeat (first | exact Below.refl _ _ | refine Below.setCell ?_ (by first | omega | (simp; omega) | (simp; done)) _ | refine Below.alloc ?_ (by first | omega | (simp; omega) | (simp; done)) _ | refine Below.drew ?_ | refine below_drewN ?_ _ | refine Below.trans ?_ (Below.mono (by assumption) (by first | omega | (simp; omega) | (simp; done)))))
theorem has_is {a b n : Int} {v : Bool} (h : hasB a b n = v) (w : World) :
    Calls Tryd.prog 73 #[.agg #[vi a, vi b], vi n] w fun e w' => e = .returned (.bool v) ∧ Below w.heap.size w w' := by
  subst h
  exact has_any a b n w
theorem isWithin_any (a b c d : Int) (w : World) :
    Calls Tryd.prog 90 #[.agg #[vi a, vi b], .agg #[vi c, vi d]] w fun e w' => e = .returned (.bool (withinB a b c d)) ∧ Below w.heap.size w w' := by
  by_cases h1 : c ≤ d
  · rcases h2 : hasB a b c with _ | _
    · have H2 := Lib.hid h2
      have E : Hid (withinB a b c d = false) := by unfold Hid withinB; rw [h2]; simp
      clear h2
      go_enter Tryd.func90, Tryd.ntmps90
      go_wp2_with (go_at_call 73; refine (has_is H2.out _).mono ?_; rintro e w1 ⟨rfl, hb1⟩; obtain ⟨⟨hc1, hf1, hs1⟩, hz1⟩ := after hb1; (try simp only [World.size_alloc, World.size_setCell, World.size_drew] at hz1))
      go_ret
      refine ⟨retB E.out.symm, ?_⟩
      (repeat (first | exact Below.refl _ _ | refine Below.setCell ?_ (by first | omega | (simp; omega) | (simp; done)) _ | refine Below.alloc ?_ (by first | omega | (simp; omega) | (simp; done)) _ | refine Below.drew ?_ | refine below_drewN ?_ _ | refine Below.trans ?_ (Below.mono (by assumption) (by first | omega | (simp; omega) | (simp; done)))))
    · obtain ⟨v, h3⟩ : ∃ v, hasB a b d = v := ⟨_, rfl⟩
      have H2 := Lib.hid h2
      have H3 := Lib.hid h3
      have E : Hid (withinB a b c d = v) := by unfold Hid withinB; rw [h2, h3]; simp [h1]
      clear h2 h3
      go_enter Tryd.func90, Tryd.ntmps90
      go_wp2_with fail
      refine (has_is H2.out _).mono ?_
      rintro e w1 ⟨rfl, hb1⟩
      have HB1 : Below w.heap.size w w1 := by (repeat (first | exact Below.refl _ _ | refine Below.setCell ?_ (by first | omega | (simp; omega) | (simp; done)) _ | refine Below.alloc ?_ (by first | omega | (simp; omega) | (simp; done)) _ | refine Below.drew ?_ | refine below_drewN ?_ _ | refine Below.trans ?_ (Below.mono (by assumption) (by first | omega | (simp; omega) | (simp; done)))))
      have a0 : w1.cell? ⟨w.heap.size, 0, none⟩ = some (vi a) := cell_keep hb1 (by simp [go_sem])
      have a1 : w1.cell? ⟨w.heap.size, 1, none⟩ = some (vi b) := cell_keep hb1 (by simp [go_sem])
      have b0 : w1.cell? ⟨w.heap.size + 1, 0, none⟩ = some (vi c) := cell_keep hb1 (by simp [go_sem])
      have b1 : w1.cell? ⟨w.heap.size + 1, 1, none⟩ = some (vi d) := cell_keep hb1 (by simp [go_sem])
      have za : w.heap.size < w1.heap.size := cell_lt a0
      have zb : w.heap.size + 1 < w1.heap.size := cell_lt b0
      clear hb1
      go_wp2_with fail
      refine (has_is H3.out _).mono ?_
      rintro e w2 ⟨rfl, hb2⟩
      go_wp2_with fail
      go_ret
      exact ⟨retB E.out.symm, HB1.trans (hb2.mono HB1.size)⟩
  · have E : Hid (withinB a b c d = false) := by unfold Hid withinB; simp [h1]
    have h1' : d < c := by omega
    clear h1
    go_enter Tryd.func90, Tryd.ntmps90
    go_wp2_with fail
    go_ret
    refine ⟨retB E.out.symm, ?_⟩
    (repeat (first | exact Below.refl _ _ | refine Below.setCell ?_ (by first | omega | (simp; omega) | (simp; done)) _ | refine Below.alloc ?_ (by first | omega | (simp; omega) | (simp; done)) _ | refine Below.drew ?_ | refine below_drewN ?_ _ | refine Below.trans ?_ (Below.mono (by assumption) (by first | omega | (simp; omega) | (simp; done)))))
theorem within_is {a b c d : Int} {v : Bool} (h : withinB a b c d = v) (w : World) :
    Calls Tryd.prog 90 #[.agg #[vi a, vi b], .agg #[vi c, vi d]] w fun e w' => e = .returned (.bool v) ∧ Below w.heap.size w w' := by
  subst h
  exact isWithin_any a b c d w
theorem one_any (a : Int) (w : World) :
    Calls Tryd.prog 98 #[vi a] w fun e w' => e = .returned (.agg #[vi a, vi a]) ∧ Below w.heap.size w w' := by
  go_enter Tryd.func98, Tryd.ntmps98
  go_wp2
  go_returns
  refine ⟨rfl, ?_⟩
  (repeat (first | exact Below.refl _ _ | refine Below.setCell ?_ (by first | omega | (simp; omega) | (simp; done)) _ | refine Below.alloc ?_ (by first | omega | (simp; omega) | (simp; done)) _ | refine Below.drew ?_ | refine below_drewN ?_ _ | refine Below.trans ?_ (Below.mono (by assumption) (by first | omega | (simp; omega) | (simp; done)))))
theorem low_any (a b : Int) (w : World) :
    Calls Tryd.prog 119 #[.agg #[vi a, vi b]] w fun e w' => e = .returned (vi a) ∧ Below w.heap.size w w' := by
  go_enter Tryd.func119, Tryd.ntmps119
  go_wp2
  go_ret
  refine ⟨rfl, ?_⟩
  (repeat (first | exact Below.refl _ _ | refine Below.setCell ?_ (by first | omega | (simp; omega) | (simp; done)) _ | refine Below.alloc ?_ (by first | omega | (simp; omega) | (simp; done)) _ | refine Below.drew ?_ | refine below_drewN ?_ _ | refine Below.trans ?_ (Below.mono (by assumption) (by first | omega | (simp; omega) | (simp; done)))))
theorem high_any (a b : Int) (w : World) :
    Calls Tryd.prog 121 #[.agg #[vi a, vi b]] w fun e w' => e = .returned (vi b) ∧ Below w.heap.size w w' := by
  go_enter Tryd.func121, Tryd.ntmps121
  go_wp2
  go_ret
  refine ⟨rfl, ?_⟩
  (repeat (first | exact Below.refl _ _ | refine Below.setCell ?_ (by first | omega | (simp; omega) | (simp; done)) _ | refine Below.alloc ?_ (by first | omega | (simp; omega) | (simp; done)) _ | refine Below.drew ?_ | refine below_drewN ?_ _ | refine Below.trans ?_ (Below.mono (by assumption) (by first | omega | (simp; omega) | (simp; done)))))
theorem add_any (a b c d : Int) (h0 : -9223372036854775808 ≤ a + c) (h1 : a + c ≤ 9223372036854775807) (h2 : -9223372036854775808 ≤ b + d) (h3 : b + d ≤ 9223372036854775807) (w : World) :
    Calls Tryd.prog 99 #[.agg #[vi a, vi b], .agg #[vi c, vi d]] w fun e w' => e = .returned (.agg #[vi (a + c), vi (b + d)]) ∧ Below w.heap.size w w' := by
  have w1 : wrap64 (a + c) = a + c := IntWalk.wrap64_in _ ⟨h0, h1⟩
  have w2 : wrap64 (b + d) = b + d := IntWalk.wrap64_in _ ⟨h2, h3⟩
  go_enter Tryd.func99, Tryd.ntmps99
  go_wp2
  go_returns
  refine ⟨rfl, ?_⟩
  (repeat (first | exact Below.refl _ _ | refine Below.setCell ?_ (by first | omega | (simp; omega) | (simp; done)) _ | refine Below.alloc ?_ (by first | omega | (simp; omega) | (simp; done)) _ | refine Below.drew ?_ | refine below_drewN ?_ _ | refine Below.trans ?_ (Below.mono (by assumption) (by first | omega | (simp; omega) | (simp; done)))))
/-- the greatest of several numbers -/
def greatestF (a : Int) (l : List Int) : Int := l.foldl max a
theorem greatestF_succ {a : Int} {l : List Int} {k : Nat} {x : Int} (h : l[k]? = some x) : greatestF a (l.take (k + 1)) = max (greatestF a (l.take k)) x := by
  obtain ⟨hk, rfl⟩ := List.getElem?_eq_some_iff.1 h
  rw [List.take_succ_eq_append_getElem hk, greatestF, List.foldl_append]
  rfl
theorem greatest_any (a : Int) (A : Option Addr) (cap : Nat) (l : List Int) (w : World) (h : IntsAt w w.heap.size A l.length l) :
    Calls Tryd.prog 92 #[vi a, .slice A l.length cap] w fun e w' => e = .returned (vi (greatestF a l)) ∧ Below w.heap.size w w' := by
  have hl := h.lens
  go_enter Tryd.func92, Tryd.ntmps92
  go_wp2_with fail
  go_loopw [0, 9] (fun m i wr => ∃ k : Nat, k ≤ l.length ∧ i = .int .i64 k ∧ wr = w ∧ ∃ n, m = vi n ∧ Hid (greatestF a (l.take k) = n)) (fun _ i _ => l.length - (intOf i).toNat)
  case atStart => exact ⟨0, Nat.zero_le _, rfl, rfl, a, rfl, by simp [Hid, greatestF]⟩
  obtain ⟨k, hk, rfl, rfl, n, rfl, HN⟩ := hrel
  by_cases hlt : k < l.length
  · obtain ⟨x, hx⟩ : ∃ x, l[k]? = some x := ⟨_, List.getElem?_eq_getElem hlt⟩
    obtain ⟨bb, off, rfl, hb, c0⟩ := ints_at h hx
    have ST : Hid (greatestF a (l.take (k + 1)) = if n < x then x else n) := by
      unfold Hid
      rw [greatestF_succ hx, HN.out]
      split <;> omega
    have hkI : (k : Int) < l.length := by omega
    have h0k : (0 : Int) ≤ k := by omega
    clear hx HN
    go_wp2_with fail
    go_roundw
    case rel => exact ⟨k + 1, by omega, by go_num, trivial, _, rfl, ST.out⟩
    case measure => simp [intOf]; omega
  · obtain rfl : k = l.length := by omega
    have hf := HN.out
    rw [List.take_length] at hf
    have HF := Lib.hid hf
    clear hf HN
    go_wp2_with fail
    go_ret
    refine ⟨retI HF.out.symm, ?_⟩
    (repeat (first | exact Below.refl _ _ | refine Below.setCell ?_ (by first | omega | (simp; omega) | (simp; done)) _ | refine Below.alloc ?_ (by first | omega | (simp; omega) | (simp; done)) _ | refine Below.drew ?_ | refine below_drewN ?_ _ | refine Below.trans ?_ (Below.mono (by assumption) (by first | omega | (simp; omega) | (simp; done)))))
theorem tween_any (a b c : Int) (w : World) :
    Calls Tryd.prog 39 #[vi a, vi b, vi c] w fun e w' => e = .returned (.bool (hasB b c a)) ∧ w = w' := by
  go_enter Tryd.func39, Tryd.ntmps39
  go_wp2
  all_goals
    go_ret
    exact ⟨(by first | (simp [hasB, *]; done) | ((simp only [Bool.not_eq_true', Bool.not_eq_false'] at *); simp [hasB, *]; done) | (simp_all [hasB]; done) | (simp [hasB, *]; omega) | (simp [hasB, *]; intros; omega)), rfl⟩
theorem tween_is {a b c : Int} {v : Bool} (h : hasB b c a = v) (w : World) :
    Calls Tryd.prog 39 #[vi a, vi b, vi c] w fun e w' => e = .returned (.bool v) ∧ w = w' := by
  subst h
  exact tween_any a b c w
theorem rhas_any (a b n : Int) (w : World) :
    Calls Tryd.prog 41 #[.agg #[vi a, vi b], vi n] w fun e w' => e = .returned (.bool (hasB a b n)) ∧ Below w.heap.size w w' := by
  go_enter Tryd.func41, Tryd.ntmps41
  go_wp2_with (go_at_call 39; refine (tween_any _ _ _ _).mono ?_; rintro e w1 ⟨rfl, rfl⟩)
  go_ret
  refine ⟨rfl, ?_⟩
  (repeat (first | exact Below.refl _ _ | refine Below.setCell ?_ (by first | omega | (simp; omega) | (simp; done)) _ | refine Below.alloc ?_ (by first | omega | (simp; omega) | (simp; done)) _ | refine Below.drew ?_ | refine below_drewN ?_ _ | refine Below.trans ?_ (Below.mono (by assumption) (by first | omega | (simp; omega) | (simp; done)))))
theorem to_any (a b : Int) (w : World) :
    Calls Tryd.prog 44 #[vi a, vi b] w fun e w' => e = .returned (.agg #[vi a, vi b]) ∧ Below w.heap.size w w' := by
  go_enter Tryd.func44, Tryd.ntmps44
  go_wp2
  go_returns
  refine ⟨rfl, ?_⟩
  (repeat (first | exact Below.refl _ _ | refine Below.setCell ?_ (by first | omega | (simp; omega) | (simp; done)) _ | refine Below.alloc ?_ (by first | omega | (simp; omega) | (simp; done)) _ | refine Below.drew ?_ | refine below_drewN ?_ _ | refine Below.trans ?_ (Below.mono (by assumption) (by first | omega | (simp; omega) | (simp; done)))))
theorem proper_any (a b c d : Int) (w : World) :
    Calls Tryd.prog 58 #[.agg #[vi a, vi b], vi c, vi d] w fun e w' => e = .returned (.bool (decide (c ≤ a) && decide (a ≤ b) && decide (b ≤ d))) ∧ Below w.heap.size w w' := by
  go_enter Tryd.func58, Tryd.ntmps58
  go_wp2
  all_goals
    go_ret
    refine ⟨(by first | (simp [hasB, *]; done) | ((simp only [Bool.not_eq_true', Bool.not_eq_false'] at *); simp [hasB, *]; done) | (simp_all [hasB]; done) | (simp [hasB, *]; omega) | (simp [hasB, *]; intros; omega)), ?_⟩
    (repeat (first | exact Below.refl _ _ | refine Below.setCell ?_ (by first | omega | (simp; omega) | (simp; done)) _ | refine Below.alloc ?_ (by first | omega | (simp; omega) | (simp; done)) _ | refine Below.drew ?_ | refine below_drewN ?_ _ | refine Below.trans ?_ (Below.mono (by assumption) (by first | omega | (simp; omega) | (simp; done)))))
end Go.Proofs.YtomgnpfpaodpiaaDoor

/- Contracts of hasSlip and areLines. -/
namespace Go.Proofs.YtomgnpfpaodpiaaDoor
open Go Go.RowKit
set_option maxHeartbeats 2000000
theorem Lim.row {w : World} (h : Lim w) (k : Nat) (hk : k < 10) {a b : Int} (ha : limLo k = a) (hb : limHi k = b) : w.cell? ⟨0, k * 2, none⟩ = some (vi a) ∧ w.cell? ⟨0, k * 2 + 1, none⟩ = some (vi b) := by
  subst ha hb
  exact ⟨h.lo k hk, h.hi k hk⟩
theorem hasSlip_any (f : Floor) (n : Int) (w : World) (hl : f.slips.length ≤ 35184372088832) :
    Calls Tryd.prog 85 #[f.val, vi n] w fun e w' => e = .returned (.bool (slipB f n)) ∧ Below w.heap.size w w' := by
  obtain ⟨fA, fC, ff, slo, shi, pA, pC, fp, fc, sA, sC, fs⟩ := f
  simp only at hl
  show Calls Tryd.prog 85 #[.agg #[.slice fA ff.length fC, vi slo, vi shi, .slice pA fp.length pC, vi fc, .slice sA fs.length sC], vi n] w _
  by_cases h0 : 0 ≤ n
  · by_cases h1 : n < (fs.length : Int)
    · have E : Hid (slipB ⟨fA, fC, ff, slo, shi, pA, pC, fp, fc, sA, sC, fs⟩ n = true) := by unfold Hid slipB; simp [h0, h1]
      go_enter Tryd.func85, Tryd.ntmps85
      go_wp2
      go_ret
      refine ⟨retB E.out.symm, ?_⟩
      (repeat (first | exact Below.refl _ _ | refine Below.setCell ?_ (by first | omega | (simp; omega) | (simp; done)) _ | refine Below.alloc ?_ (by first | omega | (simp; omega) | (simp; done)) _ | refine Below.drew ?_ | refine below_drewN ?_ _ | refine Below.trans ?_ (Below.mono (by assumption) (by first | omega | (simp; omega) | (simp; done)))))
    · have E : Hid (slipB ⟨fA, fC, ff, slo, shi, pA, pC, fp, fc, sA, sC, fs⟩ n = false) := by unfold Hid slipB; simp [h1]
      have h1' : (fs.length : Int) ≤ n := by omega
      go_enter Tryd.func85, Tryd.ntmps85
      go_wp2
      go_ret
      refine ⟨retB E.out.symm, ?_⟩
      (repeat (first | exact Below.refl _ _ | refine Below.setCell ?_ (by first | omega | (simp; omega) | (simp; done)) _ | refine Below.alloc ?_ (by first | omega | (simp; omega) | (simp; done)) _ | refine Below.drew ?_ | refine below_drewN ?_ _ | refine Below.trans ?_ (Below.mono (by assumption) (by first | omega | (simp; omega) | (simp; done)))))
  · have E : Hid (slipB ⟨fA, fC, ff, slo, shi, pA, pC, fp, fc, sA, sC, fs⟩ n = false) := by unfold Hid slipB; simp [h0]
    have h0' : n < 0 := by omega
    go_enter Tryd.func85, Tryd.ntmps85
    go_wp2
    go_ret
    refine ⟨retB E.out.symm, ?_⟩
    (repeat (first | exact Below.refl _ _ | refine Below.setCell ?_ (by first | omega | (simp; omega) | (simp; done)) _ | refine Below.alloc ?_ (by first | omega | (simp; omega) | (simp; done)) _ | refine Below.drew ?_ | refine below_drewN ?_ _ | refine Below.trans ?_ (Below.mono (by assumption) (by first | omega | (simp; omega) | (simp; done)))))
def nextF (l : List SLine) (k : Nat) : Int := match k with | 0 => 0 | i + 1 => (match l[i]? with | some p => p.shelf + 1 | none => 0)
theorem goodLine_of {n : Int} {l : List SLine} {k : Nat} {x : SLine} (h : l[k]? = some x) : goodLine n l k = ((decide (nextF l k ≤ x.shelf) && decide (x.shelf < n)) && hasB 1 20 x.many) := by
  unfold goodLine
  rw [h]
  rfl
theorem nextF_succ {l : List SLine} {k : Nat} {x : SLine} (h : l[k]? = some x) : nextF l (k + 1) = x.shelf + 1 := by simp [nextF, h]
set_option maxRecDepth 100000 in
theorem areLines_any (f : Floor) (A : Option Addr) (cap : Nat) (l : List SLine) (hf : f.far.length ≤ 35184372088832) (w : World) (hl : Lim w) (h : SLinesAt w w.heap.size A l.length l) :
    Calls Tryd.prog 91 #[f.val, .slice A l.length cap] w fun e w' => e = .returned (.bool (linesB f.far.length l)) ∧ Below w.heap.size w w' := by
  have hll := h.lens
  have HL := Lib.hid hl
  have HH := Lib.hid h
  obtain ⟨fA, fC, ff, slo, shi, pA, pC, fp, fc, sA, sC, fs⟩ := f
  simp only at hf
  show Calls Tryd.prog 91 #[.agg #[.slice fA ff.length fC, vi slo, vi shi, .slice pA fp.length pC, vi fc, .slice sA fs.length sC], .slice A l.length cap] w fun e w' => e = .returned (.bool (linesB ff.length l)) ∧ Below w.heap.size w w'
  obtain ⟨r0, r1⟩ := hl.row 7 (by omega) (a := 1) (b := 12) (by decide) (by decide)
  have hp := hl.pos
  rcases h1 : hasB 1 12 l.length with _ | _
  · have E : Hid (linesB ff.length l = false) := by unfold Hid linesB; rw [h1]; rfl
    have H1 := Lib.hid h1
    clear h1 h
    go_enter Tryd.func91, Tryd.ntmps91
    go_wp2_with (go_at_call 73; refine (has_is H1.out _).mono ?_; rintro e w1 ⟨rfl, hb1⟩; obtain ⟨⟨hc1, hf1, hs1⟩, hz1⟩ := after hb1; (try simp only [World.size_alloc, World.size_setCell, World.size_drew] at hz1))
    go_ret
    refine ⟨retB E.out.symm, ?_⟩
    (repeat (first | exact Below.refl _ _ | refine Below.setCell ?_ (by first | omega | (simp; omega) | (simp; done)) _ | refine Below.alloc ?_ (by first | omega | (simp; omega) | (simp; done)) _ | refine Below.drew ?_ | refine below_drewN ?_ _ | refine Below.trans ?_ (Below.mono (by assumption) (by first | omega | (simp; omega) | (simp; done)))))
  · have H1 := Lib.hid h1
    have FIN : Hid ((∀ k, k < l.length → goodLine ff.length l k = true) → linesB ff.length l = true) := fun ha => all_yes h1 ha
    have BAD : Hid (∀ k, k < l.length → goodLine ff.length l k = false → linesB ff.length l = false) := fun k hk hg => all_no hk hg
    obtain ⟨an, han⟩ : ∃ an, an = linesB ff.length l := ⟨_, rfl⟩
    rw [← han] at FIN BAD ⊢
    clear h1 h han
    go_enter Tryd.func91, Tryd.ntmps91
    go_wp2_with fail
    refine (has_is H1.out _).mono ?_
    rintro e W ⟨rfl, hb⟩
    have HB0 : Below w.heap.size w W := by (repeat (first | exact Below.refl _ _ | refine Below.setCell ?_ (by first | omega | (simp; omega) | (simp; done)) _ | refine Below.alloc ?_ (by first | omega | (simp; omega) | (simp; done)) _ | refine Below.drew ?_ | refine below_drewN ?_ _ | refine Below.trans ?_ (Below.mono (by assumption) (by first | omega | (simp; omega) | (simp; done)))))
    have a0 : W.cell? ⟨w.heap.size, 0, none⟩ = some (.slice fA ff.length fC) := cell_keep hb (by simp [go_sem])
    clear hb r0 r1 hp
    go_wp2_with fail
    go_loopw [5, 16] (fun x i wr => ∃ k : Nat, k ≤ l.length ∧ i = .int .i64 k ∧ Below W.heap.size W wr ∧ (∃ nx, x = vi nx ∧ Hid (nextF l k = nx) ∧ 0 ≤ nx) ∧ Hid (∀ j, j < k → goodLine ff.length l j = true)) (fun _ i _ => l.length - (intOf i).toNat)
    case atStart => exact ⟨0, Nat.zero_le _, rfl, Below.refl _ _, ⟨0, rfl, rfl, Int.le_refl _⟩, fun j hj => absurd hj (by omega)⟩
    obtain ⟨k, hk, rfl, hB, ⟨nx, rfl, HN, hn0⟩, HA⟩ := hrel
    have HBr : Below w.heap.size w wr := HB0.trans (hB.mono HB0.size)
    have hLr : Lim wr := HL.out.next HBr
    obtain ⟨r0, r1⟩ := hLr.row 8 (by omega) (a := 1) (b := 20) (by decide) (by decide)
    have hp := hLr.pos
    have a0r := cell_keep hB a0
    have za : w.heap.size < wr.heap.size := cell_lt a0r
    by_cases hlt : k < l.length
    · obtain ⟨x, hx⟩ : ∃ x, l[k]? = some x := ⟨_, List.getElem?_eq_getElem hlt⟩
      obtain ⟨bb, off, rfl, hbb, x0, x1⟩ := row2 (HH.out.to HBr).row hx rfl
      have hg := goodLine_of (n := ff.length) hx
      have hnx := nextF_succ hx
      rw [HN.out] at hg
      have G := Lib.hid hg
      have NX := Lib.hid hnx
      have hkI : (k : Int) < l.length := by omega
      have h0k : (0 : Int) ≤ k := by omega
      have zbb : bb < wr.heap.size := cell_lt x0
      clear hx hg hnx HN hLr
      obtain ⟨xs, xm⟩ := x
      simp only at x0 x1 G NX
      by_cases c1 : xs < nx
      · have c1d : decide (xs < nx) = true := by simpa using c1
        have E : Hid (an = false) := BAD.out k hlt (by rw [G.out]; have : ¬ nx ≤ xs := (by omega); simp [this])
        clear c1
        go_wp2_with fail
        go_ret
        refine ⟨retB E.out.symm, ?_⟩
        (repeat (first | exact Below.refl _ _ | refine Below.setCell ?_ (by first | omega | (simp; omega) | (simp; done)) _ | refine Below.alloc ?_ (by first | omega | (simp; omega) | (simp; done)) _ | refine Below.drew ?_ | refine below_drewN ?_ _ | refine Below.trans ?_ (Below.mono (by assumption) (by first | omega | (simp; omega) | (simp; done)))))
      · have c1d : decide (xs < nx) = false := by simpa using c1
        by_cases c2 : (ff.length : Int) ≤ xs
        · have c2d : decide ((ff.length : Int) ≤ xs) = true := by simpa using c2
          have E : Hid (an = false) := BAD.out k hlt (by rw [G.out]; have : ¬ xs < (ff.length : Int) := (by omega); simp [this])
          clear c1 c2
          go_wp2_with fail
          go_ret
          refine ⟨retB E.out.symm, ?_⟩
          (repeat (first | exact Below.refl _ _ | refine Below.setCell ?_ (by first | omega | (simp; omega) | (simp; done)) _ | refine Below.alloc ?_ (by first | omega | (simp; omega) | (simp; done)) _ | refine Below.drew ?_ | refine below_drewN ?_ _ | refine Below.trans ?_ (Below.mono (by assumption) (by first | omega | (simp; omega) | (simp; done)))))
        · have c2d : decide ((ff.length : Int) ≤ xs) = false := by simpa using c2
          rcases h3 : hasB 1 20 xm with _ | _
          · have E : Hid (an = false) := BAD.out k hlt (by rw [G.out, h3]; simp)
            have H3 := Lib.hid h3
            clear c1 c2 h3
            go_wp2_with (go_at_call 73; refine (has_is H3.out _).mono ?_; rintro e w1 ⟨rfl, hb1⟩; obtain ⟨⟨hc1, hf1, hs1⟩, hz1⟩ := after hb1; (try simp only [World.size_alloc, World.size_setCell, World.size_drew] at hz1))
            go_ret
            refine ⟨retB E.out.symm, ?_⟩
            (repeat (first | exact Below.refl _ _ | refine Below.setCell ?_ (by first | omega | (simp; omega) | (simp; done)) _ | refine Below.alloc ?_ (by first | omega | (simp; omega) | (simp; done)) _ | refine Below.drew ?_ | refine below_drewN ?_ _ | refine Below.trans ?_ (Below.mono (by assumption) (by first | omega | (simp; omega) | (simp; done)))))
          · have HG : Hid (goodLine ff.length l k = true) := by
              unfold Hid
              rw [G.out, h3]
              have e1 : nx ≤ xs := by omega
              have e2 : xs < (ff.length : Int) := by omega
              simp [e1, e2]
            have H3 := Lib.hid h3
            have HA2 : Hid (∀ j, j < k + 1 → goodLine ff.length l j = true) := upto_succ HA.out HG.out
            have hs0 : 0 ≤ xs + 1 := by omega
            have hw : wrap64 (xs + 1) = xs + 1 := by
              exact IntWalk.wrap64_in _ ⟨by omega, by omega⟩
            clear c1 c2 h3
            go_wp2_with (go_at_call 73; refine (has_is H3.out _).mono ?_; rintro e w1 ⟨rfl, hb1⟩; obtain ⟨⟨hc1, hf1, hs1⟩, hz1⟩ := after hb1; (try simp only [World.size_alloc, World.size_setCell, World.size_drew] at hz1))
            go_roundw
            case rel => exact ⟨k + 1, by omega, by go_num, gr_trans hB (by (repeat (first | exact Below.refl _ _ | refine Below.setCell ?_ (by first | omega | (simp; omega) | (simp; done)) _ | refine Below.alloc ?_ (by first | omega | (simp; omega) | (simp; done)) _ | refine Below.drew ?_ | refine below_drewN ?_ _ | refine Below.trans ?_ (Below.mono (by assumption) (by first | omega | (simp; omega) | (simp; done)))))), ⟨_, rfl, NX.out.trans hw.symm, by rw [hw]; exact hs0⟩, HA2.out⟩
            case measure => simp [intOf]; omega
    · obtain rfl : k = l.length := by omega
      have E : Hid (an = true) := FIN.out HA.out
      go_wp2_with fail
      go_ret
      exact ⟨retB E.out.symm, HBr⟩
end Go.Proofs.YtomgnpfpaodpiaaDoor

