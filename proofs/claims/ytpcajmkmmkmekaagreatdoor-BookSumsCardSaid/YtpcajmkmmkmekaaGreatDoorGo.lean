/- Contracts of the specification's small ones: at, Place. -/
import Derived.Test.YtpcajmkmmkmekaaGreatDoorGj
import Derived.Test.YtpcajmkmmkmekaaGreatDoorGi
set_option linter.unusedVariables false
set_option linter.unusedSimpArgs false
namespace Go.Proofs.YtpcajmkmmkmekaaGreatDoor
open Go Go.RowKit
set_option maxHeartbeats 1000000
def atF (l : List Entry) (n : Int) : Int := match l.findIdx? fun e => e.number == n with | some k => k | none => -1
theorem findIdx_step {α : Type} {p : α → Bool} {l : List α} {k : Nat} {x : α} (h : ∀ y, y ∈ l.take k → p y = false) (hx : l[k]? = some x) (hp : p x = true) : l.findIdx? p = some k := by
  obtain ⟨hk, rfl⟩ := List.getElem?_eq_some_iff.1 hx
  rw [List.findIdx?_eq_some_iff_getElem]
  refine ⟨hk, hp, fun j hj => ?_⟩
  have := h l[j] (by rw [List.mem_take_iff_getElem]; exact ⟨j, by omega, rfl⟩)
  simp [this]
theorem take_step {α : Type} {p : α → Bool} {l : List α} {k : Nat} {x : α} (h : ∀ y, y ∈ l.take k → p y = false) (hx : l[k]? = some x) (hp : p x = false) : ∀ y, y ∈ l.take (k + 1) → p y = false := by
  obtain ⟨hk, rfl⟩ := List.getElem?_eq_some_iff.1 hx
  intro y hy
  rw [List.take_succ_eq_append_getElem hk] at hy
  rcases List.mem_append.1 hy with h1 | h1
  · exact h y h1
  · obtain rfl : y = l[k] := by simpa using h1
    exact hp
theorem at_any (x : Issue) (n : Int) (w : World) (h : IssueAt w w.heap.size x) :
    Calls Tryz.prog 34 #[x.val, vi n] w fun e w' => e = .returned (vi (atF x.entries n)) ∧ Below w.heap.size w w' := by
  obtain ⟨xlo, xhi, xheld, A, cap, l⟩ := x
  have hcap := EntriesAt.cap h
  have hlen := EntriesAt.len h
  have hh : EntriesAt w w.heap.size A cap l := h
  show Calls Tryz.prog 34 #[.agg #[vi xlo, vi xhi, vi xheld, .slice A l.length cap], vi n] w fun e w' => e = .returned (vi (atF l n)) ∧ Below w.heap.size w w'
  clear h
  go_enter Tryz.func34, Tryz.ntmps34
  go_wp2
  have HB0 : Below w.heap.size w (w.alloc (.cells #[vi xlo, vi xhi, vi xheld, .slice A l.length cap] 63)) := by (repeat (first | exact Below.refl _ _ | refine Below.setCell ?_ (by first | omega | (simp; omega) | (simp; done)) _ | refine Below.alloc ?_ (by first | omega | (simp; omega) | (simp; done)) _ | refine Below.drew ?_ | refine below_drewN ?_ _ | refine Below.trans ?_ (Below.mono (by assumption) (by first | omega | (simp; omega) | (simp; done)))))
  have e3 : (w.alloc (.cells #[vi xlo, vi xhi, vi xheld, .slice A l.length cap] 63)).cell? ⟨w.heap.size, 3, none⟩ = some (.slice A l.length cap) := by simp [go_sem]
  go_loopw [5] (fun i wr => ∃ k : Nat, k ≤ l.length ∧ i = .int .i64 k ∧ wr = w.alloc (.cells #[vi xlo, vi xhi, vi xheld, .slice A l.length cap] 63) ∧ Hid (∀ y, y ∈ l.take k → (y.number == n) = false)) (fun i _ => l.length - (intOf i).toNat)
  case atStart => exact ⟨0, Nat.zero_le _, rfl, rfl, by simp [Hid]⟩
  case round =>
    obtain ⟨k, hk, rfl, rfl, hno⟩ := hrel
    by_cases hlt : k < l.length
    · obtain ⟨x, hx⟩ : ∃ x, l[k]? = some x := ⟨_, List.getElem?_eq_getElem hlt⟩
      obtain ⟨bb, off, rfl, hb, c0, c1, c2, c3⟩ := row4 (hh.to HB0).row hx rfl
      have Hx := Lib.hid hx
      clear hx
      rcases hq : x.number == n with _ | _
      · have hst := Lib.hid (take_step (p := fun y : Entry => y.number == n) hno.out Hx.out hq)
        go_wp2
        go_roundw
        case rel => exact ⟨k + 1, by omega, by go_num, trivial, hst⟩
        case measure => simp [intOf]; omega
      · have E : Hid (atF l n = (k : Int)) := by unfold Hid atF; rw [findIdx_step (p := fun y : Entry => y.number == n) hno.out Hx.out hq]
        go_wp2
        go_ret
        refine ⟨retI E.out.symm, ?_⟩
        (repeat (first | exact Below.refl _ _ | refine Below.setCell ?_ (by first | omega | (simp; omega) | (simp; done)) _ | refine Below.alloc ?_ (by first | omega | (simp; omega) | (simp; done)) _ | refine Below.drew ?_ | refine below_drewN ?_ _ | refine Below.trans ?_ (Below.mono (by assumption) (by first | omega | (simp; omega) | (simp; done)))))
    · obtain rfl : k = l.length := by omega
      have E : Hid (atF l n = -1) := by
        have := hno.out
        rw [List.take_length] at this
        unfold Hid atF
        rw [List.findIdx?_eq_none_iff.2 this]
      go_wp2
      go_ret
      refine ⟨retI E.out.symm, ?_⟩
      (repeat (first | exact Below.refl _ _ | refine Below.setCell ?_ (by first | omega | (simp; omega) | (simp; done)) _ | refine Below.alloc ?_ (by first | omega | (simp; omega) | (simp; done)) _ | refine Below.drew ?_ | refine below_drewN ?_ _ | refine Below.trans ?_ (Below.mono (by assumption) (by first | omega | (simp; omega) | (simp; done)))))
def placeF (l : List Int) (n : Int) : Int := match l.findIdx? fun e => e == n with | some k => k | none => -1
theorem place_any (A : Option Addr) (cap : Nat) (l : List Int) (n : Int) (w : World) (hh : IntsAt w w.heap.size A cap l) :
    Calls Tryz.prog 39 #[.slice A l.length cap, vi n] w fun e w' => e = .returned (vi (placeF l n)) ∧ w' = w := by
  have hcap := hh.cap
  have hlen := hh.len
  go_enter Tryz.func39, Tryz.ntmps39
  go_wp2
  go_loopw [5] (fun i wr => ∃ k : Nat, k ≤ l.length ∧ i = .int .i64 k ∧ wr = w ∧ Hid (∀ y, y ∈ l.take k → (y == n) = false)) (fun i _ => l.length - (intOf i).toNat)
  case atStart => exact ⟨0, Nat.zero_le _, rfl, rfl, by simp [Hid]⟩
  case round =>
    obtain ⟨k, hk, rfl, rfl, hno⟩ := hrel
    by_cases hlt : k < l.length
    · obtain ⟨x, hx⟩ : ∃ x, l[k]? = some x := ⟨_, List.getElem?_eq_getElem hlt⟩
      obtain ⟨bb, off, rfl, hb, c0⟩ := hh.at_ hx
      have Hx := Lib.hid hx
      clear hx
      rcases hq : x == n with _ | _
      · have hst := Lib.hid (take_step (p := fun y : Int => y == n) hno.out Hx.out hq)
        go_wp2
        go_roundw
        case rel => exact ⟨k + 1, by omega, by go_num, trivial, hst⟩
        case measure => simp [intOf]; omega
      · have E : Hid (placeF l n = (k : Int)) := by unfold Hid placeF; rw [findIdx_step (p := fun y : Int => y == n) hno.out Hx.out hq]
        go_wp2
        go_ret
        exact ⟨retI E.out.symm, rfl⟩
    · obtain rfl : k = l.length := by omega
      have E : Hid (placeF l n = -1) := by
        have := hno.out
        rw [List.take_length] at this
        unfold Hid placeF
        rw [List.findIdx?_eq_none_iff.2 this]
      go_wp2
      go_ret
      exact ⟨retI E.out.symm, rfl⟩
end Go.Proofs.YtpcajmkmmkmekaaGreatDoor

/- Contract of the specification's entry. -/
namespace Go.Proofs.YtpcajmkmmkmekaaGreatDoor
open Go Go.RowKit
set_option maxHeartbeats 1000000
theorem tween_is {a b c : Int} {v : Bool} (h : (decide (b ≤ a) && decide (a ≤ c)) = v) (w : World) :
    Calls Tryz.prog 36 #[vi a, vi b, vi c] w fun e w' => e = .returned (.bool v) ∧ w = w' := by
  subst h
  exact tween_any a b c w
theorem proper_is {a b c d : Int} {v : Bool} (h : (decide (c ≤ a) && decide (a ≤ b) && decide (b ≤ d)) = v) (w : World) :
    Calls Tryz.prog 37 #[.agg #[vi a, vi b], vi c, vi d] w fun e w' => e = .returned (.bool v) ∧ Below w.heap.size w w' := by
  subst h
  exact proper_any a b c d w
def lastI (l : List Fit) (k : Nat) : Int := match k with | 0 => 0 | i + 1 => match l[i]? with | some p => p.size | none => 0
def fitsUpto (l : List Fit) (k : Nat) : Prop := ∀ j, j < k → goodFit l j = true
theorem last_range {l : List Fit} {k : Nat} (h : fitsUpto l k) (hk : k ≤ l.length) : 0 ≤ lastI l k ∧ lastI l k ≤ 99 := by
  cases k with
  | zero => simp [lastI]
  | succ i =>
    obtain ⟨x, hx⟩ : ∃ x, l[i]? = some x := ⟨_, List.getElem?_eq_getElem (by omega)⟩
    have := h i (by omega)
    simp only [goodFit, hx, Bool.and_eq_true] at this
    have h1 := this.1
    simp [fitB, limB, limLo, limHi] at h1
    simp [lastI, hx]
    omega
theorem good_step {l : List Fit} {k : Nat} {x : Fit} (h : fitsUpto l k) (hx : l[k]? = some x) :
    goodFit l k = ((decide (lastI l k + 1 ≤ x.size) && decide (x.size ≤ 99)) && ((decide (1 ≤ x.lo) && decide (x.lo ≤ x.hi) && decide (x.hi ≤ 400)) && (decide (1 ≤ x.price) && decide (x.price ≤ 100000)))) := by
  have hr := last_range h (by have := (List.getElem?_eq_some_iff.1 hx).1; omega)
  cases k with
  | zero =>
    rw [Bool.eq_iff_iff]
    simp [goodFit, hx, fitB, limB, limS, limLo, limHi, lastI]
    omega
  | succ i =>
    obtain ⟨p, hp⟩ : ∃ p, l[i]? = some p := ⟨_, List.getElem?_eq_getElem (by have := (List.getElem?_eq_some_iff.1 hx).1; omega)⟩
    have hl : lastI l (i + 1) = p.size := by simp [lastI, hp]
    have h1 : 1 ≤ p.size := by
      have := h i (by omega)
      simp only [goodFit, hp, Bool.and_eq_true] at this
      have h1 := this.1
      simp [fitB, limB, limLo, limHi] at h1
      omega
    rw [Bool.eq_iff_iff, hl]
    simp [goodFit, hx, hp, fitB, limB, limS, limLo, limHi]
    omega
theorem set_is (s : Int) : setB s = (decide (1 ≤ s) && decide (s ≤ 15)) := by
  by_cases h : 0 ≤ s ∧ s ≤ 15
  · obtain ⟨h0, h1⟩ := h
    have : s = 0 ∨ s = 1 ∨ s = 2 ∨ s = 3 ∨ s = 4 ∨ s = 5 ∨ s = 6 ∨ s = 7 ∨ s = 8 ∨ s = 9 ∨ s = 10 ∨ s = 11 ∨ s = 12 ∨ s = 13 ∨ s = 14 ∨ s = 15 := by omega
    rcases this with rfl | rfl | rfl | rfl | rfl | rfl | rfl | rfl | rfl | rfl | rfl | rfl | rfl | rfl | rfl | rfl <;> decide
  · have h1 : (s / 16 == 0) = false := by rw [beq_eq_false_iff_ne]; omega
    have h2 : (decide (1 ≤ s) && decide (s ≤ 15)) = false := by
      rw [Bool.and_eq_false_iff, decide_eq_false_iff_not, decide_eq_false_iff_not]
      omega
    rw [h2, setB, h1, Bool.and_false]
end Go.Proofs.YtpcajmkmmkmekaaGreatDoor

/- Contract of the specification's entry, continued. -/
namespace Go.Proofs.YtpcajmkmmkmekaaGreatDoor
open Go Go.RowKit
set_option maxHeartbeats 2000000
def entryR (e : Entry) : Bool := limB 4 e.number && (setB e.colours && fitsB e.sizes)
theorem lim4 (n : Int) : limB 4 n = (decide (1 ≤ n) && decide (n ≤ 9999)) := by simp [limB, limLo, limHi]
theorem lim5 (n : Int) : limB 5 n = (decide (1 ≤ n) && decide (n ≤ 8)) := by simp [limB, limLo, limHi]
set_option maxRecDepth 100000 in
theorem entry_any (e : Entry) (w : World) (h : EntryAt w w.heap.size e) :
    Calls Tryz.prog 38 #[e.val] w fun e' w' => e' = .returned (.bool (entryR e)) ∧ Below w.heap.size w w' := by
  obtain ⟨en, eg, ec, A, cap, l⟩ := e
  have hcap := FitsAt.cap h
  have hlen := FitsAt.len h
  have hh : FitsAt w w.heap.size A cap l := h
  clear h
  show Calls Tryz.prog 38 #[.agg #[vi en, vi eg, vi ec, .slice A l.length cap]] w _
  have hE : entryR ⟨en, eg, ec, A, cap, l⟩ = ((decide (1 ≤ en) && decide (en ≤ 9999)) && ((decide (1 ≤ ec) && decide (ec ≤ 15)) && fitsB l)) := by simp only [entryR, lim4, set_is]
  have HE := Lib.hid hE
  clear hE
  rcases s1 : (decide (1 ≤ en) && decide (en ≤ 9999)) with _ | _
  · have E : Hid (entryR ⟨en, eg, ec, A, cap, l⟩ = false) := by unfold Hid; rw [HE.out, s1]; rfl
    go_enter Tryz.func38, Tryz.ntmps38
    go_wp2_with (go_at_call 36; refine (tween_any _ _ _ _).mono ?_; rintro e w1 ⟨rfl, rfl⟩; rw [s1])
    go_rounds 2
    go_ret
    refine ⟨retB E.out.symm, ?_⟩
    (repeat (first | exact Below.refl _ _ | refine Below.setCell ?_ (by first | omega | (simp; omega) | (simp; done)) _ | refine Below.alloc ?_ (by first | omega | (simp; omega) | (simp; done)) _ | refine Below.drew ?_ | refine below_drewN ?_ _ | refine Below.trans ?_ (Below.mono (by assumption) (by first | omega | (simp; omega) | (simp; done)))))
  rcases s2 : (decide (1 ≤ ec) && decide (ec ≤ 15)) with _ | _
  · have E : Hid (entryR ⟨en, eg, ec, A, cap, l⟩ = false) := by unfold Hid; rw [HE.out, s1, s2]; rfl
    go_enter Tryz.func38, Tryz.ntmps38
    go_wp2_with (go_at_call 36; refine (tween_any _ _ _ _).mono ?_; rintro e w1 ⟨rfl, rfl⟩; first | rw [s1] | rw [s2])
    go_rounds 2
    go_ret
    refine ⟨retB E.out.symm, ?_⟩
    (repeat (first | exact Below.refl _ _ | refine Below.setCell ?_ (by first | omega | (simp; omega) | (simp; done)) _ | refine Below.alloc ?_ (by first | omega | (simp; omega) | (simp; done)) _ | refine Below.drew ?_ | refine below_drewN ?_ _ | refine Below.trans ?_ (Below.mono (by assumption) (by first | omega | (simp; omega) | (simp; done)))))
  rcases s3 : (decide (1 ≤ (l.length : Int)) && decide ((l.length : Int) ≤ 8)) with _ | _
  · have E : Hid (entryR ⟨en, eg, ec, A, cap, l⟩ = false) := by unfold Hid; rw [HE.out, fitsB, lim5, s3]; simp
    go_enter Tryz.func38, Tryz.ntmps38
    go_wp2_with (go_at_call 36; refine (tween_any _ _ _ _).mono ?_; rintro e w1 ⟨rfl, rfl⟩; first | rw [s1] | rw [s2] | rw [s3])
    go_rounds 2
    go_ret
    refine ⟨retB E.out.symm, ?_⟩
    (repeat (first | exact Below.refl _ _ | refine Below.setCell ?_ (by first | omega | (simp; omega) | (simp; done)) _ | refine Below.alloc ?_ (by first | omega | (simp; omega) | (simp; done)) _ | refine Below.drew ?_ | refine below_drewN ?_ _ | refine Below.trans ?_ (Below.mono (by assumption) (by first | omega | (simp; omega) | (simp; done)))))
  have HF : Hid (entryR ⟨en, eg, ec, A, cap, l⟩ = fitsB l) := by unfold Hid; rw [HE.out, s1, s2]; rfl
  have HG : Hid (limB 5 l.length = true) := by unfold Hid; rw [lim5, s3]
  go_enter Tryz.func38, Tryz.ntmps38
  go_wp2_with (go_at_call 36; refine (tween_any _ _ _ _).mono ?_; rintro e w1 ⟨rfl, rfl⟩; first | rw [s1] | rw [s2] | rw [s3])
  have HB0 : Below w.heap.size w (w.alloc (.cells #[vi en, vi eg, vi ec, .slice A l.length cap] 68)) := by (repeat (first | exact Below.refl _ _ | refine Below.setCell ?_ (by first | omega | (simp; omega) | (simp; done)) _ | refine Below.alloc ?_ (by first | omega | (simp; omega) | (simp; done)) _ | refine Below.drew ?_ | refine below_drewN ?_ _ | refine Below.trans ?_ (Below.mono (by assumption) (by first | omega | (simp; omega) | (simp; done)))))
  have e3 : (w.alloc (.cells #[vi en, vi eg, vi ec, .slice A l.length cap] 68)).cell? ⟨w.heap.size, 3, none⟩ = some (.slice A l.length cap) := by simp [go_sem]
  have z3 : w.heap.size < (w.alloc (.cells #[vi en, vi eg, vi ec, .slice A l.length cap] 68)).heap.size := by simp
  generalize (w.alloc (.cells #[vi en, vi eg, vi ec, .slice A l.length cap] 68)) = W at *
  clear s1 s2 s3
  go_loopw [3, 4, 5] (fun ok last i wr => ∃ (k : Nat) (n : Int), k ≤ l.length ∧ i = .int .i64 k ∧ last = vi n ∧ Below W.heap.size W wr ∧ ((ok = .bool true ∧ n = lastI l k ∧ Hid (fitsUpto l k)) ∨ (ok = .bool false ∧ Hid (fitsB l = false)))) (fun _ _ i _ => l.length - (intOf i).toNat)
  case atStart => exact ⟨0, 0, Nat.zero_le _, rfl, rfl, Below.refl _ _, .inl ⟨rfl, rfl, fun j hj => absurd hj (by omega)⟩⟩
  case round =>
    obtain ⟨k, n, hk, rfl, rfl, hB, ⟨rfl, rfl, hgood⟩ | ⟨rfl, hbad⟩⟩ := hrel
    · have hbs := hB.size
      have d3 := (hB.cell (p := ⟨w.heap.size, 3, none⟩) z3).trans e3
      have zz : w.heap.size < wr.heap.size := by omega
      obtain ⟨hr0, hr1⟩ := last_range hgood.out hk
      by_cases hlt : k < l.length
      · obtain ⟨x, hx⟩ : ∃ x, l[k]? = some x := ⟨_, List.getElem?_eq_getElem hlt⟩
        obtain ⟨bb, off, rfl, hb, c0, c1, c2, c3⟩ := row4 ((hh.to HB0).to hB).row hx rfl
        have HGS := Lib.hid (good_step hgood.out hx)
        have HLS : Hid (lastI l (k + 1) = x.size) := by simp [lastI, hx, Hid]
        clear hx
        have sx : 1 ≤ lastI l k + 1 := by omega
        rcases t1 : (decide (lastI l k + 1 ≤ x.size) && decide (x.size ≤ 99)) with _ | _
        · have hbad : Hid (fitsB l = false) := all_no hlt (by rw [HGS.out, t1]; rfl)
          go_wp2_with (first | (go_at_call 36; refine (tween_any _ _ _ _).mono ?_; rintro e w1 ⟨rfl, rfl⟩; first | rw [t1] | rw [t3]) | (go_at_call 37; refine (proper_any _ _ _ _ _).mono ?_; rintro e w5 ⟨rfl, hb5⟩; rw [t2]; obtain ⟨⟨hc5, hf5, hs5⟩, hz5⟩ := after hb5; (try simp only [World.size_alloc] at hz5); have hq5 : wr.heap.size < w5.heap.size := (by omega)))
          go_roundw
          case rel => exact ⟨k + 1, x.size, by omega, by go_num, rfl, by (repeat (first | exact Below.refl _ _ | refine Below.setCell ?_ (by first | omega | (simp; omega) | (simp; done)) _ | refine Below.alloc ?_ (by first | omega | (simp; omega) | (simp; done)) _ | refine Below.drew ?_ | refine below_drewN ?_ _ | refine Below.trans ?_ (Below.mono (by assumption) (by first | omega | (simp; omega) | (simp; done))))), .inr ⟨rfl, hbad⟩⟩
          case measure => simp [intOf]; omega
        rcases t2 : (decide (1 ≤ x.lo) && decide (x.lo ≤ x.hi) && decide (x.hi ≤ 400)) with _ | _
        · have hbad : Hid (fitsB l = false) := all_no hlt (by rw [HGS.out, t1, t2]; rfl)
          go_wp2_with (first | (go_at_call 36; refine (tween_any _ _ _ _).mono ?_; rintro e w1 ⟨rfl, rfl⟩; first | rw [t1] | rw [t3]) | (go_at_call 37; refine (proper_any _ _ _ _ _).mono ?_; rintro e w5 ⟨rfl, hb5⟩; rw [t2]; obtain ⟨⟨hc5, hf5, hs5⟩, hz5⟩ := after hb5; (try simp only [World.size_alloc] at hz5); have hq5 : wr.heap.size < w5.heap.size := (by omega)))
          go_roundw
          case rel => exact ⟨k + 1, x.size, by omega, by go_num, rfl, by (repeat (first | exact Below.refl _ _ | refine Below.setCell ?_ (by first | omega | (simp; omega) | (simp; done)) _ | refine Below.alloc ?_ (by first | omega | (simp; omega) | (simp; done)) _ | refine Below.drew ?_ | refine below_drewN ?_ _ | refine Below.trans ?_ (Below.mono (by assumption) (by first | omega | (simp; omega) | (simp; done))))), .inr ⟨rfl, hbad⟩⟩
          case measure => simp [intOf]; omega
        rcases t3 : (decide (1 ≤ x.price) && decide (x.price ≤ 100000)) with _ | _
        · have hbad : Hid (fitsB l = false) := all_no hlt (by rw [HGS.out, t1, t2, t3]; rfl)
          go_wp2_with (first | (go_at_call 36; refine (tween_any _ _ _ _).mono ?_; rintro e w1 ⟨rfl, rfl⟩; first | rw [t1] | rw [t3]) | (go_at_call 37; refine (proper_any _ _ _ _ _).mono ?_; rintro e w5 ⟨rfl, hb5⟩; rw [t2]; obtain ⟨⟨hc5, hf5, hs5⟩, hz5⟩ := after hb5; (try simp only [World.size_alloc] at hz5); have hq5 : wr.heap.size < w5.heap.size := (by omega)))
          go_roundw
          case rel => exact ⟨k + 1, x.size, by omega, by go_num, rfl, by (repeat (first | exact Below.refl _ _ | refine Below.setCell ?_ (by first | omega | (simp; omega) | (simp; done)) _ | refine Below.alloc ?_ (by first | omega | (simp; omega) | (simp; done)) _ | refine Below.drew ?_ | refine below_drewN ?_ _ | refine Below.trans ?_ (Below.mono (by assumption) (by first | omega | (simp; omega) | (simp; done))))), .inr ⟨rfl, hbad⟩⟩
          case measure => simp [intOf]; omega
        · have hok : Hid (fitsUpto l (k + 1)) := upto_succ hgood.out (by rw [HGS.out, t1, t2, t3]; rfl)
          go_wp2_with (first | (go_at_call 36; refine (tween_any _ _ _ _).mono ?_; rintro e w1 ⟨rfl, rfl⟩; first | rw [t1] | rw [t3]) | (go_at_call 37; refine (proper_any _ _ _ _ _).mono ?_; rintro e w5 ⟨rfl, hb5⟩; rw [t2]; obtain ⟨⟨hc5, hf5, hs5⟩, hz5⟩ := after hb5; (try simp only [World.size_alloc] at hz5); have hq5 : wr.heap.size < w5.heap.size := (by omega)))
          go_roundw
          case rel => exact ⟨k + 1, x.size, by omega, by go_num, rfl, by (repeat (first | exact Below.refl _ _ | refine Below.setCell ?_ (by first | omega | (simp; omega) | (simp; done)) _ | refine Below.alloc ?_ (by first | omega | (simp; omega) | (simp; done)) _ | refine Below.drew ?_ | refine below_drewN ?_ _ | refine Below.trans ?_ (Below.mono (by assumption) (by first | omega | (simp; omega) | (simp; done))))), .inl ⟨rfl, HLS.out.symm, hok⟩⟩
          case measure => simp [intOf]; omega
      · obtain rfl : k = l.length := by omega
        have E : Hid (entryR ⟨en, eg, ec, A, cap, l⟩ = true) := by unfold Hid; rw [HF.out]; exact all_yes HG.out hgood.out
        go_wp2
        go_ret
        refine ⟨retB E.out.symm, ?_⟩
        exact HB0.trans (hB.mono HB0.size)
    · have E : Hid (entryR ⟨en, eg, ec, A, cap, l⟩ = false) := by unfold Hid; rw [HF.out, hbad.out]
      go_wp2
      go_ret
      refine ⟨retB E.out.symm, ?_⟩
      exact HB0.trans (hB.mono HB0.size)
end Go.Proofs.YtpcajmkmmkmekaaGreatDoor

/- Contracts of Match and order. -/
namespace Go.Proofs.YtpcajmkmmkmekaaGreatDoor
open Go Go.RowKit
set_option maxHeartbeats 2000000
theorem IntsAt.below' {w w' : World} {cap : Nat} {A : Option Addr} {l : List Int} (h : IntsAt w w.heap.size A cap l) (hb : Below w.heap.size w w') : IntsAt w' w'.heap.size A cap l := h.to hb
set_option maxRecDepth 100000 in
theorem match_any (A B : Option Addr) (ca cb : Nat) (l m : List Int) (w : World) (ha : IntsAt w w.heap.size A ca l) (hb : IntsAt w w.heap.size B cb m) :
    Calls Tryz.prog 15 #[.slice A l.length ca, .slice B m.length cb] w fun e w' => e = .returned (.bool (decide (l = m))) ∧ Below w.heap.size w w' := by
  have ha1 := ha.cap
  have ha2 := ha.len
  have hb1 := hb.cap
  have hb2 := hb.len
  rcases hlm : ((l.length : Int) == (m.length : Int)) with _ | _
  · have E : Hid (decide (l = m) = false) := by
      unfold Hid
      rw [decide_eq_false_iff_not]
      rintro rfl
      simp at hlm
    go_enter Tryz.func15, Tryz.ntmps15
    go_wp2
    go_rounds 2
    go_ret
    refine ⟨retB E.out.symm, ?_⟩
    (repeat (first | exact Below.refl _ _ | refine Below.setCell ?_ (by first | omega | (simp; omega) | (simp; done)) _ | refine Below.alloc ?_ (by first | omega | (simp; omega) | (simp; done)) _ | refine Below.drew ?_ | refine below_drewN ?_ _ | refine Below.trans ?_ (Below.mono (by assumption) (by first | omega | (simp; omega) | (simp; done)))))
  have hle : l.length = m.length := by have := beq_iff_eq.1 hlm; omega
  go_enter Tryz.func15, Tryz.ntmps15
  go_wp2
  clear hlm
  go_loopw [5, 6] (fun ok i wr => ∃ k : Nat, k ≤ l.length ∧ i = .int .i64 k ∧ Below w.heap.size w wr ∧ ((ok = .bool true ∧ Hid (l.take k = m.take k)) ∨ (ok = .bool false ∧ Hid (decide (l = m) = false)))) (fun _ i _ => l.length - (intOf i).toNat)
  case atStart => exact ⟨0, Nat.zero_le _, rfl, Below.refl _ _, .inl ⟨rfl, by simp [Hid]⟩⟩
  case round =>
    obtain ⟨k, hk, rfl, hB, ⟨rfl, heq⟩ | ⟨rfl, hbad⟩⟩ := hrel
    · have hbs := hB.size
      by_cases hlt : k < l.length
      · obtain ⟨x, hx⟩ : ∃ x, l[k]? = some x := ⟨_, List.getElem?_eq_getElem hlt⟩
        obtain ⟨y, hy⟩ : ∃ y, m[k]? = some y := ⟨_, List.getElem?_eq_getElem (by omega)⟩
        obtain ⟨ba, oa, rfl, hba, c0⟩ := (ha.to hB).at_ hx
        obtain ⟨bb, ob, rfl, hbb, c1⟩ := (hb.to hB).at_ hy
        have hlt2 : k < m.length := by omega
        have hltI : (k : Int) < m.length := by omega
        have hltJ : (k : Int) < l.length := by omega
        have h0I : (0 : Int) ≤ k := by omega
        rcases hxy : x == y with _ | _
        · have hb9 : Hid (decide (l = m) = false) := by
            unfold Hid
            rw [decide_eq_false_iff_not]
            rintro rfl
            rw [hx] at hy
            simp at hy
            subst hy
            simp at hxy
          clear hx hy
          go_wp2_with fail
          (refine wp_region_grow_lit (by kernel_rfl) (by kernel_rfl) ?_; (repeat (go_big_quiet_step (fail))); refine wpQuiet_nil ?_; intro w1 hw1; have hb1 := below_of_plus hw1; clear hw1; obtain ⟨⟨hc1, hf1, hs1⟩, hz1⟩ := after hb1; (try simp only [World.size_alloc, World.size_setCell, World.size_drew] at hz1))
          go_wp2
          go_roundw
          case rel => exact ⟨k + 1, by omega, by go_num, by (repeat (first | exact Below.refl _ _ | refine Below.setCell ?_ (by first | omega | (simp; omega) | (simp; done)) _ | refine Below.alloc ?_ (by first | omega | (simp; omega) | (simp; done)) _ | refine Below.drew ?_ | refine below_drewN ?_ _ | refine Below.trans ?_ (Below.mono (by assumption) (by first | omega | (simp; omega) | (simp; done))))), .inr ⟨rfl, hb9⟩⟩
          case measure => simp [intOf]; omega
        · have hst : Hid (l.take (k + 1) = m.take (k + 1)) := by
            obtain ⟨h1, rfl⟩ := List.getElem?_eq_some_iff.1 hx
            obtain ⟨h2, rfl⟩ := List.getElem?_eq_some_iff.1 hy
            unfold Hid
            rw [List.take_succ_eq_append_getElem h1, List.take_succ_eq_append_getElem h2, heq.out, beq_iff_eq.1 hxy]
          clear hx hy
          go_wp2_with fail
          (refine wp_region_grow_lit (by kernel_rfl) (by kernel_rfl) ?_; (repeat (go_big_quiet_step (fail))); refine wpQuiet_nil ?_; intro w1 hw1; have hb1 := below_of_plus hw1; clear hw1; obtain ⟨⟨hc1, hf1, hs1⟩, hz1⟩ := after hb1; (try simp only [World.size_alloc, World.size_setCell, World.size_drew] at hz1))
          go_wp2
          go_roundw
          case rel => exact ⟨k + 1, by omega, by go_num, by (repeat (first | exact Below.refl _ _ | refine Below.setCell ?_ (by first | omega | (simp; omega) | (simp; done)) _ | refine Below.alloc ?_ (by first | omega | (simp; omega) | (simp; done)) _ | refine Below.drew ?_ | refine below_drewN ?_ _ | refine Below.trans ?_ (Below.mono (by assumption) (by first | omega | (simp; omega) | (simp; done))))), .inl ⟨rfl, hst⟩⟩
          case measure => simp [intOf]; omega
      · obtain rfl : k = l.length := by omega
        have E : Hid (decide (l = m) = true) := by
          have := heq.out
          rw [List.take_length, hle, List.take_length] at this
          unfold Hid
          simp [this]
        go_wp2
        go_ret
        refine ⟨retB E.out.symm, ?_⟩
        exact hB
    · go_wp2
      go_ret
      refine ⟨retB hbad.out.symm, ?_⟩
      exact hB
end Go.Proofs.YtpcajmkmmkmekaaGreatDoor

/- Contract of SameMeant. -/
namespace Go.Proofs.YtpcajmkmmkmekaaGreatDoor
open Go Go.RowKit
set_option maxHeartbeats 2000000
theorem eq_meant (x y : Int × Int) (w : World) : (binOp .eql 70 (.agg #[vi x.1, vi x.2]) (.agg #[vi y.1, vi y.2])).run Tryz.prog w = .ok (.bool (x == y)) w := by
  obtain ⟨a, b⟩ := x
  obtain ⟨c, d⟩ := y
  simp [binOp, Op.equal, Op.maxDepth, go_sem]
  by_cases h1 : a = c <;> by_cases h2 : b = d <;> simp [h1, h2]
set_option maxRecDepth 100000 in
theorem sameMeant_any (A B : Option Addr) (ca cb : Nat) (l m : List (Int × Int)) (w : World) (ha : RowsAt w w.heap.size 2 A ca (l.map meantC)) (hb : RowsAt w w.heap.size 2 B cb (m.map meantC)) :
    Calls Tryz.prog 8 #[.slice A l.length ca, .slice B m.length cb] w fun e w' => e = .returned (.bool (decide (l = m))) ∧ Below w.heap.size w w' := by
  have ha1 := ha.cap
  have ha2 := ha.len
  have hb1 := hb.cap
  have hb2 := hb.len
  rw [List.length_map] at ha2 hb2
  rcases hlm : ((l.length : Int) == (m.length : Int)) with _ | _
  · have E : Hid (decide (l = m) = false) := by
      unfold Hid
      rw [decide_eq_false_iff_not]
      rintro rfl
      simp at hlm
    go_enter Tryz.func8, Tryz.ntmps8
    go_wp2
    go_rounds 2
    go_ret
    refine ⟨retB E.out.symm, ?_⟩
    (repeat (first | exact Below.refl _ _ | refine Below.setCell ?_ (by first | omega | (simp; omega) | (simp; done)) _ | refine Below.alloc ?_ (by first | omega | (simp; omega) | (simp; done)) _ | refine Below.drew ?_ | refine below_drewN ?_ _ | refine Below.trans ?_ (Below.mono (by assumption) (by first | omega | (simp; omega) | (simp; done)))))
  have hle : l.length = m.length := by have := beq_iff_eq.1 hlm; omega
  go_enter Tryz.func8, Tryz.ntmps8
  go_wp2
  clear hlm
  have HLE := Lib.hid hle
  clear hle
  go_loopw [5, 6] (fun ok i wr => ∃ k : Nat, k ≤ l.length ∧ i = .int .i64 k ∧ Below w.heap.size w wr ∧ ((ok = .bool true ∧ Hid (l.take k = m.take k)) ∨ (ok = .bool false ∧ Hid (decide (l = m) = false)))) (fun _ i _ => l.length - (intOf i).toNat)
  case atStart => exact ⟨0, Nat.zero_le _, rfl, Below.refl _ _, .inl ⟨rfl, by simp [Hid]⟩⟩
  case round =>
    obtain ⟨k, hk, rfl, hB, ⟨rfl, heq⟩ | ⟨rfl, hbad⟩⟩ := hrel
    · have hbs := hB.size
      by_cases hlt : k < l.length
      · obtain ⟨x, hx⟩ : ∃ x, l[k]? = some x := ⟨_, List.getElem?_eq_getElem hlt⟩
        obtain ⟨y, hy⟩ : ∃ y, m[k]? = some y := ⟨_, List.getElem?_eq_getElem (by have := HLE.out; omega)⟩
        obtain ⟨ba, oa, rfl, hba, c0, d0⟩ := row2 (ha.to hB).row hx rfl
        obtain ⟨bb, ob, rfl, hbb, c1, d1⟩ := row2 (hb.to hB).row hy rfl
        have hqm := eq_meant x y
        have hlt2 : k < m.length := by have := HLE.out; omega
        have hltI : (k : Int) < m.length := by omega
        have hltJ : (k : Int) < l.length := by omega
        have h0I : (0 : Int) ≤ k := by omega
        rcases hxy : x == y with _ | _
        · have hb9 : Hid (decide (l = m) = false) := by
            unfold Hid
            rw [decide_eq_false_iff_not]
            rintro rfl
            rw [hx] at hy
            simp at hy
            subst hy
            simp at hxy
          rw [hxy] at hqm
          clear hx hy hxy
          obtain ⟨x1, x2⟩ := x
          obtain ⟨y1, y2⟩ := y
          go_wp2_with fail
          (refine wp_region_grow_lit (by kernel_rfl) (by kernel_rfl) ?_; (repeat (go_big_quiet_step (fail))); refine wpQuiet_nil ?_; intro w1 hw1; have hb1 := below_of_plus hw1; clear hw1; obtain ⟨⟨hc1, hf1, hs1⟩, hz1⟩ := after hb1; (try simp only [World.size_alloc, World.size_setCell, World.size_drew] at hz1))
          go_wp2
          go_roundw
          case rel => exact ⟨k + 1, by omega, by go_num, by (repeat (first | exact Below.refl _ _ | refine Below.setCell ?_ (by first | omega | (simp; omega) | (simp; done)) _ | refine Below.alloc ?_ (by first | omega | (simp; omega) | (simp; done)) _ | refine Below.drew ?_ | refine below_drewN ?_ _ | refine Below.trans ?_ (Below.mono (by assumption) (by first | omega | (simp; omega) | (simp; done))))), .inr ⟨rfl, hb9⟩⟩
          case measure => simp [intOf]; omega
        · have hst : Hid (l.take (k + 1) = m.take (k + 1)) := by
            obtain ⟨h1, rfl⟩ := List.getElem?_eq_some_iff.1 hx
            obtain ⟨h2, rfl⟩ := List.getElem?_eq_some_iff.1 hy
            unfold Hid
            rw [List.take_succ_eq_append_getElem h1, List.take_succ_eq_append_getElem h2, heq.out, beq_iff_eq.1 hxy]
          rw [hxy] at hqm
          clear hx hy hxy
          obtain ⟨x1, x2⟩ := x
          obtain ⟨y1, y2⟩ := y
          go_wp2_with fail
          (refine wp_region_grow_lit (by kernel_rfl) (by kernel_rfl) ?_; (repeat (go_big_quiet_step (fail))); refine wpQuiet_nil ?_; intro w1 hw1; have hb1 := below_of_plus hw1; clear hw1; obtain ⟨⟨hc1, hf1, hs1⟩, hz1⟩ := after hb1; (try simp only [World.size_alloc, World.size_setCell, World.size_drew] at hz1))
          go_wp2
          go_roundw
          case rel => exact ⟨k + 1, by omega, by go_num, by (repeat (first | exact Below.refl _ _ | refine Below.setCell ?_ (by first | omega | (simp; omega) | (simp; done)) _ | refine Below.alloc ?_ (by first | omega | (simp; omega) | (simp; done)) _ | refine Below.drew ?_ | refine below_drewN ?_ _ | refine Below.trans ?_ (Below.mono (by assumption) (by first | omega | (simp; omega) | (simp; done))))), .inl ⟨rfl, hst⟩⟩
          case measure => simp [intOf]; omega
      · obtain rfl : k = l.length := by omega
        have E : Hid (decide (l = m) = true) := by
          have := heq.out
          rw [List.take_length, HLE.out, List.take_length] at this
          unfold Hid
          simp [this]
        go_wp2
        go_ret
        refine ⟨retB E.out.symm, ?_⟩
        exact hB
    · go_wp2
      go_ret
      refine ⟨retB hbad.out.symm, ?_⟩
      exact hB
end Go.Proofs.YtpcajmkmmkmekaaGreatDoor

/- Contract of order. -/
namespace Go.Proofs.YtpcajmkmmkmekaaGreatDoor
open Go Go.RowKit
set_option maxHeartbeats 2000000
theorem row_of_box {W : World} {B : Nat} {t : TypeId} {sz : Nat} {m : List (List Value)} (h : CellsBox W B t m.flatten) (hsz : ∀ r ∈ m, r.length = sz) : RowAt W W.heap.size sz (some ⟨B, 0, none⟩) m := fun _ =>
  ⟨B, 0, rfl, h.lt, fun i r hr j u hj hu => by have := h.cell (flat_at m hsz i r hr j u hj hu); simpa using this⟩
def orderL : List Line := [⟨⟨0, 40, 0⟩, 13⟩, ⟨⟨2, 1, 2⟩, 2⟩]
theorem order_any (w : World) :
    Calls Tryz.prog 52 #[] w fun e w' => ∃ A cap, e = .returned (.slice A 2 cap) ∧ LinesAt w' w'.heap.size A cap orderL ∧ Below w.heap.size w w' := by
  go_enter Tryz.func52, Tryz.ntmps52
  go_wp2_with (go_at_call 51; refine (thing_any _ _ _ _).mono ?_; rintro e w1 ⟨rfl, hb1⟩; obtain ⟨⟨hc1, hf1, hs1⟩, hz1⟩ := after hb1; (try simp only [World.size_alloc, World.size_setCell, World.size_drew] at hz1))
  go_ret
  refine ⟨_, _, rfl, ⟨by decide, by decide, ?_⟩, ?_⟩
  · exact row_of_box (CellsBox.new _ 126 (orderL.map Line.cells).flatten) (by decide)
  (repeat (first | exact Below.refl _ _ | refine Below.setCell ?_ (by first | omega | (simp; omega) | (simp; done)) _ | refine Below.alloc ?_ (by first | omega | (simp; omega) | (simp; done)) _ | refine Below.drew ?_ | refine below_drewN ?_ _ | refine Below.trans ?_ (Below.mono (by assumption) (by first | omega | (simp; omega) | (simp; done)))))
end Go.Proofs.YtpcajmkmmkmekaaGreatDoor

