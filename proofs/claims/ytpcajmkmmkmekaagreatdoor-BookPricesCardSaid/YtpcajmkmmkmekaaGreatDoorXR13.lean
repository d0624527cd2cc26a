/- Contract of Match, whatever the capacities. -/
import Derived.Test.YtpcajmkmmkmekaaGreatDoorGo
set_option linter.unusedVariables false
set_option linter.unusedSimpArgs false
namespace Go.Proofs.YtpcajmkmmkmekaaGreatDoor
open Go Go.RowKit
set_option maxHeartbeats 2000000
set_option maxRecDepth 100000 in
theorem match_free (A B : Option Addr) (ca cb : Nat) (l m : List Int) (w : World) (ha : IntsAt w w.heap.size A l.length l) (hb : IntsAt w w.heap.size B m.length m) :
    Calls Tryz.prog 15 #[.slice A l.length ca, .slice B m.length cb] w fun e w' => e = .returned (.bool (decide (l = m))) ∧ Below w.heap.size w w' := by
  have ha1 := ha.cap
  have ha2 := ha.len
  have hb1 := hb.cap
  have hb2 := hb.len
  rcases hlm : ((l.length : Int) == (m.length : Int)) with _ | _
  · have E : Hid (decide (l = m) = false) := by
      unfold Hid
      rw [decide_eq_false_iff_not]
      rintro rfl
      simp at hlm
    go_enter Tryz.func15, Tryz.ntmps15
    go_wp2
    go_rounds 2
    go_ret
    refine ⟨retB E.out.symm, ?_⟩
    (repeat (first | exact Below.refl _ _ | refine Below.setCell ?_ (by first | omega | (simp; omega) | (simp; done)) _ | refine Below.alloc ?_ (by first | omega | (simp; omega) | (simp; done)) _ | refine Below.drew ?_ | refine below_drewN ?_ _ | refine Below.trans ?_ (Below.mono (by assumption) (by first | omega | (simp; omega) | (simp; done)))))
  have hle : l.length = m.length := by have := beq_iff_eq.1 hlm; omega
  go_enter Tryz.func15, Tryz.ntmps15
  go_wp2
  clear hlm
  go_loopw [5, 6] (fun ok i wr => ∃ k : Nat, k ≤ l.length ∧ i = .int .i64 k ∧ Below w.heap.size w wr ∧ ((ok = .bool true ∧ Hid (l.take k = m.take k)) ∨ (ok = .bool false ∧ Hid (decide (l = m) = false)))) (fun _ i _ => l.length - (intOf i).toNat)
  case atStart => exact ⟨0, Nat.zero_le _, rfl, Below.refl _ _, .inl ⟨rfl, by simp [Hid]⟩⟩
  case round =>
    obtain ⟨k, hk, rfl, hB, ⟨rfl, heq⟩ | ⟨rfl, hbad⟩⟩ := hrel
    · have hbs := hB.size
      by_cases hlt : k < l.length
      · obtain ⟨x, hx⟩ : ∃ x, l[k]? = some x := ⟨_, List.getElem?_eq_getElem hlt⟩
        obtain ⟨y, hy⟩ : ∃ y, m[k]? = some y := ⟨_, List.getElem?_eq_getElem (by omega)⟩
        obtain ⟨ba, oa, rfl, hba, c0⟩ := (ha.to hB).at_ hx
        obtain ⟨bb, ob, rfl, hbb, c1⟩ := (hb.to hB).at_ hy
        have hlt2 : k < m.length := by omega
        have hltI : (k : Int) < m.length := by omega
        have hltJ : (k : Int) < l.length := by omega
        have h0I : (0 : Int) ≤ k := by omega
        rcases hxy : x == y with _ | _
        · have hb9 : Hid (decide (l = m) = false) := by
            unfold Hid
            rw [decide_eq_false_iff_not]
            rintro rfl
            rw [hx] at hy
            simp at hy
            subst hy
            simp at hxy
          clear hx hy
          go_wp2_with fail
          (refine wp_region_grow_lit (by kernel_rfl) (by kernel_rfl) ?_; (repeat (go_big_quiet_step (fail))); refine wpQuiet_nil ?_; intro w1 hw1; have hb1 := below_of_plus hw1; clear hw1; obtain ⟨⟨hc1, hf1, hs1⟩, hz1⟩ := after hb1; (try simp only [World.size_alloc, World.size_setCell, World.size_drew] at hz1))
          go_wp2
          go_roundw
          case rel => exact ⟨k + 1, by omega, by go_num, by (repeat (first | exact Below.refl _ _ | refine Below.setCell ?_ (by first | omega | (simp; omega) | (simp; done)) _ | refine Below.alloc ?_ (by first | omega | (simp; omega) | (simp; done)) _ | refine Below.drew ?_ | refine below_drewN ?_ _ | refine Below.trans ?_ (Below.mono (by assumption) (by first | omega | (simp; omega) | (simp; done))))), .inr ⟨rfl, hb9⟩⟩
          case measure => simp [intOf]; omega
        · have hst : Hid (l.take (k + 1) = m.take (k + 1)) := by
            obtain ⟨h1, rfl⟩ := List.getElem?_eq_some_iff.1 hx
            obtain ⟨h2, rfl⟩ := List.getElem?_eq_some_iff.1 hy
            unfold Hid
            rw [List.take_succ_eq_append_getElem h1, List.take_succ_eq_append_getElem h2, heq.out, beq_iff_eq.1 hxy]
          clear hx hy
          go_wp2_with fail
          (refine wp_region_grow_lit (by kernel_rfl) (by kernel_rfl) ?_; (repeat (go_big_quiet_step (fail))); refine wpQuiet_nil ?_; intro w1 hw1; have hb1 := below_of_plus hw1; clear hw1; obtain ⟨⟨hc1, hf1, hs1⟩, hz1⟩ := after hb1; (try simp only [World.size_alloc, World.size_setCell, World.size_drew] at hz1))
          go_wp2
          go_roundw
          case rel => exact ⟨k + 1, by omega, by go_num, by (repeat (first | exact Below.refl _ _ | refine Below.setCell ?_ (by first | omega | (simp; omega) | (simp; done)) _ | refine Below.alloc ?_ (by first | omega | (simp; omega) | (simp; done)) _ | refine Below.drew ?_ | refine below_drewN ?_ _ | refine Below.trans ?_ (Below.mono (by assumption) (by first | omega | (simp; omega) | (simp; done))))), .inl ⟨rfl, hst⟩⟩
          case measure => simp [intOf]; omega
      · obtain rfl : k = l.length := by omega
        have E : Hid (decide (l = m) = true) := by
          have := heq.out
          rw [List.take_length, hle, List.take_length] at this
          unfold Hid
          simp [this]
        go_wp2
        go_ret
        refine ⟨retB E.out.symm, ?_⟩
        exact hB
    · go_wp2
      go_ret
      refine ⟨retB hbad.out.symm, ?_⟩
      exact hB
end Go.Proofs.YtpcajmkmmkmekaaGreatDoor

