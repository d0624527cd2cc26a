/- Contracts of the specification's areLines and adds. -/
import Derived.Test.YtpcajmkmmkmekaaGreatDoorXD12
set_option linter.unusedVariables false
set_option linter.unusedSimpArgs false
namespace Go.Proofs.YtpcajmkmmkmekaaGreatDoor
open Go Go.RowKit
set_option maxHeartbeats 4000000
def rLineB (g : Int) (l : Line) : Bool := rItemB g l.item && (decide (1 ≤ l.many) && decide (l.many ≤ 1000))
def rLinesB (g : Int) (ls : List Line) : Bool := decide ((ls.length : Int) ≤ 20) && ls.all (rLineB g)
theorem rLines_is {r : Rack} (h : validB r = true) (ls : List Line) : rLinesB r.goods ls = linesB r ls := by
  unfold rLinesB linesB
  have h1 : decide ((ls.length : Int) ≤ 20) = limB 10 (ls.length : Int) := by
    rw [Bool.eq_iff_iff]
    simp only [limB, limLo, limHi, Bool.and_eq_true, decide_eq_true_eq]
    try simp
  have h2 : rLineB r.goods = lineB r := by
    funext l
    unfold rLineB lineB
    rw [rItem_is h]
    first
      | done
      | (congr 1; (try (rw [Bool.eq_iff_iff]; simp only [limB, limLo, limHi, Bool.and_eq_true, decide_eq_true_eq]; (try simp))))
  rw [h1, h2]
theorem all_take {ls : List Line} {g : Int} {k : Nat} {l : Line} (h : (ls.take k).all (rLineB g) = true) (hx : ls[k]? = some l) (hl : rLineB g l = true) : (ls.take (k + 1)).all (rLineB g) = true := by
  rw [List.take_add_one, hx, List.all_append, h]
  simp [hl]
theorem all_not {ls : List Line} {g : Int} {k : Nat} {l : Line} (hx : ls[k]? = some l) (hl : rLineB g l = false) : rLinesB g ls = false := by
  unfold rLinesB
  have : ls.all (rLineB g) = false := List.all_eq_false.2 ⟨l, List.mem_of_getElem? hx, by simp [hl]⟩
  rw [this, Bool.and_false]
set_option maxRecDepth 100000 in
theorem rareLines_is {r : Rack} {ls : List Line} {v : Bool} (hv : rLinesB r.goods ls = v) (A : Option Addr) (cap : Nat) (w : World) (hls : LinesAt w w.heap.size A cap ls) :
    Calls Tryz.prog 67 #[r.val, .slice A ls.length cap] w fun e w' => e = .returned (.bool v) ∧ Below w.heap.size w w' := by
  have HV := Lib.hid hv
  have hcap := hls.cap
  have hlen := hls.len
  have HLS := Lib.hid hls
  clear hv hls
  obtain ⟨rg, rA, rcap, ri⟩ := r
  simp only at HV
  show Calls Tryz.prog 67 #[.agg #[vi rg, .slice rA ri.length rcap], .slice A ls.length cap] w _
  by_cases h20 : (ls.length : Int) ≤ 20
  · have h20d : decide ((ls.length : Int) ≤ 20) = true := by simpa using h20
    go_enter Tryz.func67, Tryz.ntmps67
    go_wp2_with fail
    obtain ⟨W, hW⟩ : ∃ W, W = w.alloc (.cells #[vi rg, .slice rA ri.length rcap] 24) := ⟨_, rfl⟩
    have HB0 : Below w.heap.size w W := by rw [hW]; (repeat (first | exact Below.refl _ _ | refine Below.setCell ?_ (by first | omega | (simp; omega) | (simp; done)) _ | refine Below.alloc ?_ (by first | omega | (simp; omega) | (simp; done)) _ | refine Below.drew ?_ | refine below_drewN ?_ _ | refine Below.trans ?_ (Below.mono (by assumption) (by first | omega | (simp; omega) | (simp; done)))))
    have a0 : W.cell? ⟨w.heap.size, 0, none⟩ = some (vi rg) := by rw [hW]; simp [go_sem]
    have a1 : W.cell? ⟨w.heap.size, 1, none⟩ = some (.slice rA ri.length rcap) := by rw [hW]; simp [go_sem]
    try rw [← hW]
    clear hW
    go_loopw [5, 6] (fun ok i wr => ∃ k : Nat, k ≤ ls.length ∧ i = .int .i64 k ∧ Below W.heap.size W wr ∧ ((ok = .bool true ∧ Hid ((ls.take k).all (rLineB rg) = true)) ∨ (ok = .bool false ∧ Hid (v = false)))) (fun _ i _ => ls.length - (intOf i).toNat)
    case atStart => exact ⟨0, Nat.zero_le _, rfl, Below.refl _ _, .inl ⟨(by first | (simp; done) | (simp; omega)), by simp [Hid]⟩⟩
    obtain ⟨k, hk, rfl, hB, ⟨rfl, hall⟩ | ⟨rfl, hbad⟩⟩ := hrel
    · have HBr : Below w.heap.size w wr := HB0.trans (hB.mono HB0.size)
      by_cases hlt : k < ls.length
      · obtain ⟨l, hx⟩ : ∃ l, ls[k]? = some l := ⟨_, List.getElem?_eq_getElem hlt⟩
        obtain ⟨bb, off, rfl, hbb, x0, x1, x2, x3⟩ := row4 (HLS.out.to HBr).row hx rfl
        have HX := Lib.hid hx
        have a0r := cell_keep hB a0
        have a1r := cell_keep hB a1
        have za := cell_lt a0r
        have zb := cell_lt x0
        have hkI : (k : Int) < ls.length := by omega
        have h0k : (0 : Int) ≤ k := by omega
        clear hx
        obtain ⟨⟨ig, is, ic⟩, many⟩ := l
        simp only at x0 x1 x2 x3
        rcases q1 : rItemB rg ⟨ig, is, ic⟩ with _ | _
        · have HS : Hid (v = false) := by unfold Hid; rw [← HV.out]; exact all_not HX.out (by simp [rLineB, q1])
          have Q1 := Lib.hid q1
          clear q1
          go_wp2_with fail
          (refine wp_region_grow_lit (by kernel_rfl) (by kernel_rfl) ?_; (repeat (go_big_quiet_step ((go_at_call 59; refine Calls.grow_of (risItem_is (r := ⟨rg, rA, rcap, ri⟩) (it := ⟨ig, is, ic⟩) Q1.out _))))); refine wpQuiet_nil ?_; intro w1 hw1; have hb1 := below_of_plus hw1; clear hw1; obtain ⟨⟨hc1, hf1, hs1⟩, hz1⟩ := after hb1; (try simp only [World.size_alloc, World.size_setCell, World.size_drew] at hz1))
          have hbk : Below wr.heap.size wr w1 := by (repeat (first | exact Below.refl _ _ | refine Below.setCell ?_ (by first | omega | (simp; omega) | (simp; done)) _ | refine Below.alloc ?_ (by first | omega | (simp; omega) | (simp; done)) _ | refine Below.drew ?_ | refine below_drewN ?_ _ | refine Below.trans ?_ (Below.mono (by assumption) (by first | omega | (simp; omega) | (simp; done)))))
          clear hc1 hf1 hs1 hz1 hb1
          go_wp2_with fail
          go_roundw
          case rel => exact ⟨k + 1, by omega, by go_num, gr_trans hB hbk, .inr ⟨rfl, HS⟩⟩
          case measure => simp [intOf]; omega
        · obtain ⟨q2v, q2⟩ : ∃ q2v, (decide (1 ≤ many) && decide (many ≤ 1000)) = q2v := ⟨_, rfl⟩
          have Q1 := Lib.hid q1
          have Q2 := Lib.hid q2
          have HREL : Hid ((q2v = true ∧ (ls.take (k + 1)).all (rLineB rg) = true) ∨ (q2v = false ∧ v = false)) := by
            unfold Hid
            cases q2v with
            | true => exact .inl ⟨rfl, all_take hall.out HX.out (by simp only [rLineB, q1, q2, Bool.and_self])⟩
            | false => exact .inr ⟨rfl, by rw [← HV.out]; exact all_not HX.out (by simp only [rLineB, q1, q2, Bool.and_false])⟩
          clear q1 q2
          go_wp2_with fail
          (refine wp_region_grow_lit (by kernel_rfl) (by kernel_rfl) ?_; (repeat (go_big_quiet_step (first | (go_at_call 59; refine Calls.grow_of (risItem_is (r := ⟨rg, rA, rcap, ri⟩) (it := ⟨ig, is, ic⟩) Q1.out _)) | (go_at_call 36; refine Calls.grow_same (tween_is Q2.out _))))); refine wpQuiet_nil ?_; intro w1 hw1; have hb1 := below_of_plus hw1; clear hw1; obtain ⟨⟨hc1, hf1, hs1⟩, hz1⟩ := after hb1; (try simp only [World.size_alloc, World.size_setCell, World.size_drew] at hz1))
          have hbk : Below wr.heap.size wr w1 := by (repeat (first | exact Below.refl _ _ | refine Below.setCell ?_ (by first | omega | (simp; omega) | (simp; done)) _ | refine Below.alloc ?_ (by first | omega | (simp; omega) | (simp; done)) _ | refine Below.drew ?_ | refine below_drewN ?_ _ | refine Below.trans ?_ (Below.mono (by assumption) (by first | omega | (simp; omega) | (simp; done)))))
          clear hc1 hf1 hs1 hz1 hb1
          go_wp2_with fail
          go_roundw
          case rel =>
            rcases HREL.out with ⟨rfl, h2⟩ | ⟨rfl, h2⟩
            · exact ⟨k + 1, by omega, by go_num, gr_trans hB hbk, .inl ⟨rfl, h2⟩⟩
            · exact ⟨k + 1, by omega, by go_num, gr_trans hB hbk, .inr ⟨rfl, h2⟩⟩
          case measure => simp [intOf]; omega
      · obtain rfl : k = ls.length := by omega
        have E : Hid (v = true) := by
          have := hall.out
          rw [List.take_length] at this
          unfold Hid
          rw [← HV.out]
          unfold rLinesB
          rw [this, h20d]
          rfl
        go_wp2_with fail
        go_ret
        exact ⟨retB E.out.symm, HBr⟩
    · go_wp2_with fail
      go_ret
      exact ⟨retB hbad.out.symm, HB0.trans (hB.mono HB0.size)⟩
  · have h20d : decide ((ls.length : Int) ≤ 20) = false := by simpa using h20
    have E : Hid (v = false) := by
      unfold Hid
      rw [← HV.out]
      unfold rLinesB
      rw [h20d, Bool.false_and]
    go_enter Tryz.func67, Tryz.ntmps67
    go_wp2_with fail
    go_rounds 2
    go_ret
    refine ⟨retB E.out.symm, ?_⟩
    (repeat (first | exact Below.refl _ _ | refine Below.setCell ?_ (by first | omega | (simp; omega) | (simp; done)) _ | refine Below.alloc ?_ (by first | omega | (simp; omega) | (simp; done)) _ | refine Below.drew ?_ | refine below_drewN ?_ _ | refine Below.trans ?_ (Below.mono (by assumption) (by first | omega | (simp; omega) | (simp; done)))))
end Go.Proofs.YtpcajmkmmkmekaaGreatDoor

