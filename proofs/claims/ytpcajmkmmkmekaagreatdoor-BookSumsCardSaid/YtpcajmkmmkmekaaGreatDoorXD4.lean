/- Contract of the specification's sorted. -/
import Derived.Test.YtpcajmkmmkmekaaGreatDoorXD3
import Derived.Test.YtpcajmkmmkmekaaGreatDoorXAp
import Derived.Laws.AppendOwn
set_option linter.unusedVariables false
set_option linter.unusedSimpArgs false
namespace Go.Proofs.YtpcajmkmmkmekaaGreatDoor
open Go Go.RowKit
set_option maxHeartbeats 4000000
def lenOf : Value → Nat | .slice _ n _ => n | _ => 0
theorem leastS_yes {out : List Int} {a x : Int} (h : x ∉ out) (h2 : a < 0 ∨ x < a) : leastS out a x = x := by unfold leastS; rw [if_pos ⟨h, h2⟩]
theorem leastS_no {out : List Int} {a x : Int} (h : ¬ (x ∉ out ∧ (a < 0 ∨ x < a))) : leastS out a x = a := by unfold leastS; rw [if_neg h]
theorem place_lt {l : List Int} {n : Int} (h : n ∉ l) : placeF l n = -1 := (place_in l n).2 h
set_option maxRecDepth 100000 in
theorem sorted_run (A : Option Addr) (cap : Nat) (l : List Int) (w : World) (hh : IntsAt w w.heap.size A l.length l) (hpos : ∀ n ∈ l, 0 ≤ n) (hnd : l.Nodup) (hlen : l.length ≤ 1000000) :
    Calls Tryz.prog 48 #[.slice A l.length cap] w fun e w' => ∃ A' c, e = .returned (.slice A' l.length c) ∧ IntsAt w' w'.heap.size A' l.length (sorted l) ∧ Below w.heap.size w w' := by
  have hSl := sorted_len l
  have NEXT : Hid (∀ (k : Nat) (x : Int), (sorted l)[k]? = some x → l.foldl (leastS ((sorted l).take k)) (-1) = x) := fun k x hx => least_next hpos hnd hx
  obtain ⟨S, hS⟩ : ∃ S, S = sorted l := ⟨_, rfl⟩
  rw [← hS] at hSl ⊢
  rw [← hS] at NEXT
  have HSl := Lib.hid hSl
  clear hS hpos hnd
  obtain ⟨i0, hi, hy0, hy1, hy2⟩ := info_parts info_int
  go_enter Tryz.func48, Tryz.ntmps48
  go_wp2_with fail
  go_loopw [3] (fun v wr => ∃ k : Nat, k ≤ l.length ∧ Below w.heap.size w wr ∧ wr.ownsRow w.heap.size 3 1 v k ((S.take k).map vi)) (fun v _ => l.length - lenOf v)
  case atStart => exact ⟨0, Nat.zero_le _, Below.refl _ _, by simpa using World.ownsRow_nil _ _ _ _⟩
  obtain ⟨k, hk, hB, hown⟩ := hrel
  have hbs := hB.size
  have hSk : (S.take k).length = k := by rw [List.length_take]; omega
  obtain ⟨A', c', rfl, hi'⟩ := own_ints hown hSk (by omega)
  by_cases hlt : k < l.length
  · have hkI : (k : Int) < l.length := by omega
    have PL : Hid (∀ n v, placeF (S.take k) n = v → ∀ W : World, Below wr.heap.size wr W → Calls Tryz.prog 39 #[.slice A' k c', vi n] W fun e w' => e = .returned (vi v) ∧ W = w') := fun n v hv W hW => place_at hv hSk A' c' W (hi'.to hW)
    go_wp2_with fail
    go_loopw [4, 5] (fun a i w2 => ∃ j : Nat, j ≤ l.length ∧ i = .int .i64 j ∧ w2 = wr ∧ ∃ n, a = vi n ∧ Hid ((l.take j).foldl (leastS (S.take k)) (-1) = n)) (fun _ i _ => l.length - (intOf i).toNat)
    case atStart => exact ⟨0, Nat.zero_le _, rfl, rfl, -1, rfl, by simp [Hid]⟩
    obtain ⟨j, hj, rfl, rfl, a, rfl, HF⟩ := hrel
    by_cases hjl : j < l.length
    · obtain ⟨x, hx⟩ : ∃ x, l[j]? = some x := ⟨_, List.getElem?_eq_getElem hjl⟩
      obtain ⟨bb, off, rfl, hb, c0⟩ := (hh.to hB).at_ hx
      have hjI : (j : Int) < l.length := by omega
      have h0j : (0 : Int) ≤ j := by omega
      have HST : Hid ((l.take (j + 1)).foldl (leastS (S.take k)) (-1) = leastS (S.take k) a x) := by unfold Hid; rw [fold_succ hx, HF.out]
      clear hx
      by_cases hin : x ∈ S.take k
      · have hp0 := (place_in (S.take k) x).1 hin
        obtain ⟨p, hp⟩ : ∃ p, placeF (S.take k) x = p := ⟨_, rfl⟩
        rw [hp] at hp0
        have HP := Lib.hid hp
        have HE : Hid (leastS (S.take k) a x = a) := leastS_no fun h => h.1 hin
        have hpd : decide (p < 0) = false := by simp; omega
        clear hp hin
        go_wp2_with (go_at_call 39; refine (PL.out _ _ HP.out _ (Below.refl _ _)).mono ?_; rintro e w1 ⟨rfl, rfl⟩)
        go_roundw
        case rel => exact ⟨j + 1, by omega, by go_num, trivial, a, rfl, HST.out.trans HE.out⟩
        case measure => simp [intOf]; omega
      · have HP := Lib.hid (place_lt hin)
        by_cases ha : a < 0
        · have HE := Lib.hid (leastS_yes (a := a) hin (.inl ha))
          have had : decide (a < 0) = true := by simpa using ha
          clear hin
          go_wp2_with (go_at_call 39; refine (PL.out _ _ HP.out _ (Below.refl _ _)).mono ?_; rintro e w1 ⟨rfl, rfl⟩)
          go_roundw
          case rel => exact ⟨j + 1, by omega, by go_num, trivial, x, rfl, HST.out.trans HE.out⟩
          case measure => simp [intOf]; omega
        · have had : decide (a < 0) = false := by simpa using ha
          by_cases hxa : x < a
          · have HE := Lib.hid (leastS_yes (a := a) hin (.inr hxa))
            have hxd : decide (x < a) = true := by simpa using hxa
            clear hin
            go_wp2_with (go_at_call 39; refine (PL.out _ _ HP.out _ (Below.refl _ _)).mono ?_; rintro e w1 ⟨rfl, rfl⟩)
            go_roundw
            case rel => exact ⟨j + 1, by omega, by go_num, trivial, x, rfl, HST.out.trans HE.out⟩
            case measure => simp [intOf]; omega
          · have HE : Hid (leastS (S.take k) a x = a) := leastS_no fun h => by rcases h.2 with h | h <;> contradiction
            have hxd : decide (x < a) = false := by simpa using hxa
            clear hin
            go_wp2_with (go_at_call 39; refine (PL.out _ _ HP.out _ (Below.refl _ _)).mono ?_; rintro e w1 ⟨rfl, rfl⟩)
            go_roundw
            case rel => exact ⟨j + 1, by omega, by go_num, trivial, a, rfl, HST.out.trans HE.out⟩
            case measure => simp [intOf]; omega
    · obtain rfl : j = l.length := by omega
      have hkS : k < S.length := by have := HSl.out; omega
      have hxS : S[k]? = some S[k] := List.getElem?_eq_getElem hkS
      have hfa := HF.out
      rw [List.take_length, NEXT.out k _ hxS] at hfa
      have HT : Hid ((S.take (k + 1)).map vi = (S.take k).map vi ++ [vi a]) := by
        unfold Hid
        rw [List.take_succ_eq_append_getElem hkS, List.map_append, hfa]
        rfl
      clear hfa hxS hkS HF
      go_wp2_with (at_builtin; go_loud (refine wpList_append_own _ rfl _ _ 36 rfl w.heap.size 3 i0 (.int .i64 0) 1 8 Tryz.underlying36 hi hy0 hy1 hy2 rfl (by decide) _ _ _ rfl (hown.alloc _) ⟨wr.heap.size, 0, none⟩ 1 1 [vi a] rfl rfl (cell_one_new _ _ _) (by simp [Value.oneCell']) (by unfold maxLen; omega) (by omega) (by simp; omega) ?_; intro v5 w5 hown5 hgrow5 _))
      have HB5 : Below w.heap.size w w5 := Below.grown (by (repeat (first | exact Below.refl _ _ | refine Below.setCell ?_ (by first | omega | (simp; omega) | (simp; done)) _ | refine Below.alloc ?_ (by first | omega | (simp; omega) | (simp; done)) _ | refine Below.drew ?_ | refine below_drewN ?_ _ | refine Below.trans ?_ (Below.mono (by assumption) (by first | omega | (simp; omega) | (simp; done)))))) hgrow5 (by simp; omega) (fun j e => (hown.lt j e).1)
      obtain ⟨A5, c5, rfl, -, -⟩ := own_form hown5
      go_roundw
      case rel =>
        refine ⟨k + 1, by omega, HB5, ?_⟩
        rw [HT.out]
        exact hown5
      case measure => simp [lenOf]; omega
  · obtain rfl : k = l.length := by omega
    have hSS : S.take l.length = S := by rw [← HSl.out, List.take_length]
    rw [hSS] at hi'
    go_wp2_with fail
    go_ret
    exact ⟨A', c', rfl, hi', hB⟩
end Go.Proofs.YtpcajmkmmkmekaaGreatDoor

