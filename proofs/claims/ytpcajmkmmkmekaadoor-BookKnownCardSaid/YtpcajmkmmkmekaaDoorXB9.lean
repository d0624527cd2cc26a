/- Contract of printed: what a book says an item costs. -/
import Derived.Test.YtpcajmkmmkmekaaDoorXK8
import Derived.Test.YtpcajmkmmkmekaaDoorXB6
import Derived.BigQuiet
set_option linter.unusedVariables false
set_option linter.unusedSimpArgs false
namespace Go.Proofs.YtpcajmkmmkmekaaDoor
open Go Go.RowKit
set_option maxHeartbeats 8000000
theorem mute_step {it : Item} {l : List Entry} {k : Nat} {e : Entry} (h : ∀ y ∈ l.take k, muteB it y = true) (he : l[k]? = some e) (hm : muteB it e = true) : ∀ y ∈ l.take (k + 1), muteB it y = true := by
  obtain ⟨hk, rfl⟩ := List.getElem?_eq_some_iff.1 he
  intro y hy
  rw [List.take_succ_eq_append_getElem hk] at hy
  rcases List.mem_append.1 hy with h1 | h1
  · exact h y h1
  · obtain rfl : y = l[k] := by simpa using h1
    exact hm
theorem size_step {l : List Fit} {n : Int} {k : Nat} {f : Fit} (h : ((l.take k).find? fun f => f.size == n) = none) (hf : l[k]? = some f) : (f.size ≠ n → ((l.take (k + 1)).find? fun f => f.size == n) = none) ∧ (f.size = n → sizeO l n = some f.price) := by
  obtain ⟨h1, h2⟩ := find_step h hf
  refine ⟨fun hn => h1 (by simpa using hn), fun hn => ?_⟩
  unfold sizeO
  rw [h2 (by simpa using hn)]
  rfl
set_option maxRecDepth 100000 in
theorem printed_any (r : Rack) (x : Issue) (it : Item) (w : World) (hx : IssueAt w w.heap.size x) (hxo : IssueOk r x) (hc0 : 0 ≤ it.colour) (hc3 : it.colour ≤ 3) :
    Calls Tryd.prog 31 #[x.val, it.val] w fun e w' => e = .returned (vi (printedF x it)) ∧ Below w.heap.size w w' := by
  obtain ⟨PF, hPF⟩ : ∃ PF, PF = printedF x it := ⟨_, rfl⟩
  have H0 := Lib.hid (fun h => hPF.trans (printed_none (x := x) (it := it) h))
  have H1 := Lib.hid (fun (k : Nat) (e : Entry) (p : Int) h1 h2 h3 h4 => hPF.trans (printed_some (it := it) hxo (k := k) (e := e) (p := p) h1 h2 h3 h4))
  rw [← hPF]
  clear hPF hxo
  obtain ⟨xlo, xhi, xhd, xA, xcap, xl⟩ := x
  obtain ⟨ig, is, ic⟩ := it
  have hxe : EntriesAt w w.heap.size xA xcap xl := hx
  have xc1 := hxe.cap
  have xc2 := hxe.len
  simp only at hc0 hc3
  go_enter Tryd.func31, Tryd.ntmps31
  go_wp2_with fail
  obtain ⟨W, hW⟩ : ∃ W, W = (w.alloc (.cells #[vi xlo, vi xhi, vi xhd, .slice xA xl.length xcap] 47)).alloc (.cells #[vi ig, vi is, vi ic] 63) := ⟨_, rfl⟩
  have HB0 : Below w.heap.size w W := by rw [hW]; (repeat (first | exact Below.refl _ _ | refine Below.setCell ?_ (by first | omega | (simp; omega) | (simp; done)) _ | refine Below.alloc ?_ (by first | omega | (simp; omega) | (simp; done)) _ | refine Below.drew ?_ | refine below_drewN ?_ _ | refine Below.trans ?_ (Below.mono (by assumption) (by first | omega | (simp; omega) | (simp; done)))))
  have c3 : W.cell? ⟨w.heap.size, 3, none⟩ = some (.slice xA xl.length xcap) := by rw [hW]; simp [go_sem]
  have i0 : W.cell? ⟨w.heap.size + 1, 0, none⟩ = some (vi ig) := by rw [hW]; simp [go_sem]
  have i1 : W.cell? ⟨w.heap.size + 1, 1, none⟩ = some (vi is) := by rw [hW]; simp [go_sem]
  have i2 : W.cell? ⟨w.heap.size + 1, 2, none⟩ = some (vi ic) := by rw [hW]; simp [go_sem]
  have zW : w.heap.size + 1 < W.heap.size := by rw [hW]; simp
  rw [← hW]
  clear hW
  go_loopw [5] (fun i wr => ∃ j : Nat, j ≤ xl.length ∧ i = .int .i64 j ∧ Below W.heap.size W wr ∧ Hid (∀ y ∈ xl.take j, muteB ⟨ig, is, ic⟩ y = true)) (fun i _ => xl.length - (intOf i).toNat)
  case atStart => exact ⟨0, Nat.zero_le _, rfl, Below.refl _ _, by simp [Hid]⟩
  obtain ⟨j, hj, rfl, hB, hM⟩ := hrel
  have hBs := hB.size
  have HBr : Below w.heap.size w wr := HB0.trans (hB.mono HB0.size)
  have c3r := (hB.cell (p := ⟨w.heap.size, 3, none⟩) (by simp only; omega)).trans c3
  have i0r := (hB.cell (p := ⟨w.heap.size + 1, 0, none⟩) zW).trans i0
  have i1r := (hB.cell (p := ⟨w.heap.size + 1, 1, none⟩) zW).trans i1
  have i2r := (hB.cell (p := ⟨w.heap.size + 1, 2, none⟩) zW).trans i2
  have zr : w.heap.size + 1 < wr.heap.size := by omega
  have zr0 : w.heap.size < wr.heap.size := by omega
  by_cases hjt : j < xl.length
  · obtain ⟨⟨en, eg, ec, eA, ecap, el⟩, he⟩ : ∃ e, xl[j]? = some e := ⟨_, List.getElem?_eq_getElem hjt⟩
    have hxr := hxe.to HBr
    obtain ⟨qb, qoff, rfl, hqb, e0, e1, e2, e3⟩ := row4 hxr.row he rfl
    replace e3 : wr.cell? ⟨qb, qoff + j * 4 + 3, none⟩ = some (.slice eA el.length ecap) := e3
    have hee : FitsAt wr wr.heap.size eA ecap el := hxr.at_ he
    have ec1 := hee.cap
    have ec2 := hee.len
    have hjI : (j : Int) < xl.length := by omega
    have h0J : (0 : Int) ≤ j := by omega
    have HE := Lib.hid he
    have HS := Lib.hid (fun hm => mute_step (e := ⟨en, eg, ec, eA, ecap, el⟩) hM.out HE.out hm)
    clear he hM
    by_cases hg : eg = ig
    · obtain rfl := hg
      rcases hcol : hasColour ec ic with _ | _
      · have HST := Lib.hid (HS.out (by simp [muteB, hcol]))
        clear HS
        go_wp2_with (go_at_call 62; refine (in_any _ _ _ hc0 (by omega)).mono ?_; rintro e w1 ⟨rfl, rfl⟩)
        go_roundw
        case rel => exact ⟨j + 1, by omega, by go_num, hB.alloc hBs _, HST⟩
        case measure => simp [intOf]; omega
      · go_wp2_with (go_at_call 62; refine (in_any _ _ _ hc0 (by omega)).mono ?_; rintro e w1 ⟨rfl, rfl⟩)
        obtain ⟨Y, hY⟩ : ∃ Y, Y = wr.alloc (.cells #[vi en, vi eg, vi ec, .slice eA el.length ecap] 50) := ⟨_, rfl⟩
        have hBY : Below wr.heap.size wr Y := by rw [hY]; exact (Below.refl _ _).alloc (Nat.le_refl _) _
        have y3 : Y.cell? ⟨wr.heap.size, 3, none⟩ = some (.slice eA el.length ecap) := by rw [hY]; simp [go_sem]
        have zY : wr.heap.size < Y.heap.size := by rw [hY]; simp
        have j1 := (hBY.cell (p := ⟨w.heap.size + 1, 1, none⟩) zr).trans i1r
        have heY := hee.to hBY
        have hBWY : Below W.heap.size W Y := hB.trans (hBY.mono hBs)
        rw [← hY]
        clear hY c3r i0r i1r i2r e0 e1 e2 e3
        obtain ⟨wo, rfl⟩ : ∃ wo : World, wo = wr := ⟨_, rfl⟩
        go_loopw [7] (fun i wr => ∃ m : Nat, m ≤ el.length ∧ i = .int .i64 m ∧ Below Y.heap.size Y wr ∧ Hid (((el.take m).find? fun f => f.size == is) = none)) (fun i _ => el.length - (intOf i).toNat)
        case atStart => exact ⟨0, Nat.zero_le _, rfl, Below.refl _ _, by simp [Hid]⟩
        obtain ⟨m, hm, rfl, hC, hN⟩ := hrel
        have hCs := hC.size
        have y3r := (hC.cell (p := ⟨wo.heap.size, 3, none⟩) zY).trans y3
        have j1r := (hC.cell (p := ⟨w.heap.size + 1, 1, none⟩) (by simp only; omega)).trans j1
        have zr2 : w.heap.size + 1 < wr.heap.size := by omega
        have zr3 : wo.heap.size < wr.heap.size := by omega
        by_cases hmt : m < el.length
        · obtain ⟨⟨fs, flo, fhi, fp⟩, hf⟩ : ∃ f, el[m]? = some f := ⟨_, List.getElem?_eq_getElem hmt⟩
          obtain ⟨fb, foff, rfl, hfb, f0, f1, f2, f3⟩ := row4 (heY.to hC).row hf rfl
          have hmI : (m : Int) < el.length := by omega
          have h0M : (0 : Int) ≤ m := by omega
          have HF := Lib.hid (size_step hN.out hf)
          clear hf
          by_cases hfs : fs = is
          · obtain rfl := hfs
            have HP := Lib.hid (H1.out j _ fp HE.out rfl hcol (HF.out.2 rfl))
            have hq : (fs == fs) = true := by simp
            clear HF HS hN
            go_wp2_with fail
            go_quiet (fail)
            go_wp2
            go_ret
            refine ⟨retI HP.out.symm, ?_⟩
            (repeat (first | exact Below.refl _ _ | refine Below.setCell ?_ (by first | omega | (simp; omega) | (simp; done)) _ | refine Below.alloc ?_ (by first | omega | (simp; omega) | (simp; done)) _ | refine Below.drew ?_ | refine below_drewN ?_ _ | refine Below.trans ?_ (Below.mono (by assumption) (by first | omega | (simp; omega) | (simp; done)))))
          · have HN := Lib.hid (HF.out.1 hfs)
            have hq : (fs == is) = false := by simpa using hfs
            clear HF
            go_wp2_with fail
            go_quiet (fail)
            go_wp2
            go_roundw
            case rel => exact ⟨m + 1, by omega, by go_num, by (repeat (first | exact Below.refl _ _ | refine Below.setCell ?_ (by first | omega | (simp; omega) | (simp; done)) _ | refine Below.alloc ?_ (by first | omega | (simp; omega) | (simp; done)) _ | refine Below.drew ?_ | refine below_drewN ?_ _ | refine Below.trans ?_ (Below.mono (by assumption) (by first | omega | (simp; omega) | (simp; done))))), HN⟩
            case measure => simp [intOf]; omega
        · obtain rfl : m = el.length := by omega
          have HN : Hid (sizeO el is = none) := by have := hN.out; rw [List.take_length] at this; simp [Hid, sizeO, this]
          have HST := Lib.hid (HS.out (by simp [muteB, HN.out]))
          clear HS hN
          go_wp2_with fail
          go_roundw
          case rel => exact ⟨j + 1, by omega, by go_num, hBWY.trans (hC.mono hBWY.size), HST⟩
          case measure => simp [intOf]; omega
    · have hq : (eg == ig) = false := by simpa using hg
      have HST := Lib.hid (HS.out (by simp [muteB, hq]))
      clear HS
      go_wp2_with fail
      go_roundw
      case rel => exact ⟨j + 1, by omega, by go_num, hB.alloc hBs _, HST⟩
      case measure => simp [intOf]; omega
  · obtain rfl : j = xl.length := by omega
    have HP : Hid (PF = 0) := H0.out (by have := hM.out; rwa [List.take_length] at this)
    clear H0 H1 hM
    go_wp2_with fail
    go_ret
    refine ⟨retI HP.out.symm, ?_⟩
    exact HBr
end Go.Proofs.YtpcajmkmmkmekaaDoor
