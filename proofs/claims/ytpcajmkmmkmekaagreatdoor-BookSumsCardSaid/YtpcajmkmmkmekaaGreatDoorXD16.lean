/- Contract of the specification's adds. -/
import Derived.Test.YtpcajmkmmkmekaaGreatDoorXD15
import Derived.BigQuiet
import Derived.Deep.QuietTactic
set_option linter.unusedVariables false
set_option linter.unusedSimpArgs false
namespace Go.Proofs.YtpcajmkmmkmekaaGreatDoor
open Go Go.RowKit
set_option maxHeartbeats 4000000
theorem lines_many {r : Rack} {ls : List Line} (h : linesB r ls = true) : (∀ l ∈ ls, itemB r l.item = true ∧ 1 ≤ l.many ∧ l.many ≤ 1000) ∧ ls.length ≤ 20 := by
  rw [linesB, Bool.and_eq_true] at h
  obtain ⟨h1, h2⟩ := h
  rw [limB_iff] at h1
  simp [limLo, limHi] at h1
  rw [List.all_eq_true] at h2
  refine ⟨fun l hl => ?_, by omega⟩
  have := h2 l hl
  rw [lineB, Bool.and_eq_true, limB_iff] at this
  obtain ⟨h3, h4⟩ := this
  simp [limLo, limHi] at h4
  exact ⟨h3, by omega, by omega⟩
set_option maxRecDepth 100000 in
theorem radds_any (r : Rack) (d : Int) (ls : List Line) (hok : RackOk r) (hl : linesB r ls = true) (A : Option Addr) (cap : Nat) (w : World) (h : RackAt w w.heap.size r) (hls : LinesAt w w.heap.size A cap ls) :
    Calls Tryz.prog 68 #[r.val, vi d, .slice A ls.length cap] w fun e w' => e = .returned (.tuple #[vi (addI r d ls ls.length), .bool (addB r d ls ls.length)]) ∧ Below w.heap.size w w' := by
  obtain ⟨hmany, h20⟩ := lines_many hl
  have hm2 : ∀ l ∈ ls, 1 ≤ l.many ∧ l.many ≤ 1000 := fun l hl => (hmany l hl).2
  have RNG := Lib.hid (add_range hok (d := d) hm2)
  have MANY := Lib.hid hmany
  have OK := Lib.hid hok
  have HR := Lib.hid h
  have HLS := Lib.hid hls
  have hcap := IssuesAt.cap h
  have hlen := IssuesAt.len h
  have lcap := hls.cap
  have llen := hls.len
  have hCR : ∀ l ∈ ls, 0 ≤ costI r d l ∧ costI r d l ≤ 100000000 := fun l hl => cost_range hok (hm2 l hl).1 (hm2 l hl).2
  have CR := Lib.hid hCR
  clear hmany hm2 hok h hls hl hCR
  obtain ⟨rg, rA, rcap, ri⟩ := r
  simp only at hcap hlen
  obtain ⟨R, hRd⟩ : ∃ R : Rack, R = ⟨rg, rA, rcap, ri⟩ := ⟨_, rfl⟩
  have CI : Hid (∀ (it : Item) c, itemB R it = true → costN R.issues d it = c → ∀ W : World, Below w.heap.size w W → Calls Tryz.prog 60 #[.agg #[vi rg, .slice rA ri.length rcap], vi d, it.val] W fun e w' => e = .returned (vi c) ∧ Below W.heap.size W w') := by
    intro it c hi hc W hW
    rw [hRd] at hc hi
    have hcol := item_colour hi
    exact cost_is' (r := ⟨rg, rA, rcap, ri⟩) (it := it) hc OK.out hcol.1 hcol.2 W (HR.out.to hW)
  have CIS : Hid (∀ it, costN R.issues d it = (priceO R d it).getD 0) := fun it => by rw [hRd]; exact cost_is OK.out d it
  have CPOS : Hid (∀ it, (priceO R d it).isSome = decide (0 < costN R.issues d it) ∧ 0 ≤ costN R.issues d it ∧ costN R.issues d it ≤ 100000) := fun it => by
    rw [hRd]
    rcases cost_cases OK.out d it with ⟨k1, k2⟩ | ⟨p, k0, k1, k2⟩
    · rw [k1, k2]; simp
    · have := price_pos OK.out k2
      rw [k1, k2]
      simp
      omega
  rw [← hRd] at RNG MANY CR ⊢
  have hRv : R.val = .agg #[vi rg, .slice rA ri.length rcap] := by rw [hRd]
  rw [hRv]
  clear hRd hRv
  go_enter Tryz.func68, Tryz.ntmps68
  go_wp2_with fail
  obtain ⟨W, hW⟩ : ∃ W, W = w.alloc (.cells #[vi rg, .slice rA ri.length rcap] 24) := ⟨_, rfl⟩
  have HB0 : Below w.heap.size w W := by rw [hW]; (repeat (first | exact Below.refl _ _ | refine Below.setCell ?_ (by first | omega | (simp; omega) | (simp; done)) _ | refine Below.alloc ?_ (by first | omega | (simp; omega) | (simp; done)) _ | refine Below.drew ?_ | refine below_drewN ?_ _ | refine Below.trans ?_ (Below.mono (by assumption) (by first | omega | (simp; omega) | (simp; done)))))
  have a0 : W.cell? ⟨w.heap.size, 0, none⟩ = some (vi rg) := by rw [hW]; simp [go_sem]
  have a1 : W.cell? ⟨w.heap.size, 1, none⟩ = some (.slice rA ri.length rcap) := by rw [hW]; simp [go_sem]
  try rw [← hW]
  clear hW
  go_loopw [8, 9, 10] (fun s b i wr => ∃ k : Nat, k ≤ ls.length ∧ i = .int .i64 k ∧ Below W.heap.size W wr ∧ ∃ sv bv, s = vi sv ∧ b = .bool bv ∧ Hid (addI R d ls k = sv) ∧ Hid (addB R d ls k = bv)) (fun _ _ i _ => ls.length - (intOf i).toNat)
  case atStart => exact ⟨0, Nat.zero_le _, rfl, Below.refl _ _, 0, true, rfl, rfl, by simp [Hid, addI], by simp [Hid, addB]⟩
  obtain ⟨k, hk, rfl, hB, sv, bv, rfl, rfl, HS, HBV⟩ := hrel
  have HBr : Below w.heap.size w wr := HB0.trans (hB.mono HB0.size)
  have hrs := RNG.out k
  rw [HS.out] at hrs
  by_cases hlt : k < ls.length
  · obtain ⟨l, hx⟩ : ∃ l, ls[k]? = some l := ⟨_, List.getElem?_eq_getElem hlt⟩
    obtain ⟨bb, off, rfl, hbb, x0, x1, x2, x3⟩ := row4 (HLS.out.to HBr).row hx rfl
    obtain ⟨m0, m1, m2⟩ := MANY.out l (List.mem_of_getElem? hx)
    have M0 := Lib.hid m0
    have hcr := CR.out l (List.mem_of_getElem? hx)
    obtain ⟨e1, e2⟩ := add_step (r := R) (d := d) hx
    obtain ⟨c, hc⟩ : ∃ c, costN R.issues d l.item = c := ⟨_, rfl⟩
    obtain ⟨p1, p2, p3⟩ := CPOS.out l.item
    rw [p1, hc] at e2
    rw [hc] at p2 p3
    have hcost : costI R d l = c * paidI l.many := by unfold costI; rw [← CIS.out, hc]
    rw [hcost] at e1 hcr
    have hpr := paid_range m1 m2
    rw [HS.out] at e1
    rw [HBV.out] at e2
    have HC := Lib.hid hc
    have STS := Lib.hid e1
    have STB := Lib.hid e2
    obtain ⟨P, hP⟩ : ∃ P, P = paidI l.many := ⟨_, rfl⟩
    rw [← hP] at hpr hcr STS
    have hPe : P = l.many - l.many.tdiv 12 := by rw [hP]; rfl
    have a0r := cell_keep hB a0
    have a1r := cell_keep hB a1
    have za := cell_lt a0r
    have zb := cell_lt x0
    have hkI : (k : Int) < ls.length := by omega
    have h0k : (0 : Int) ≤ k := by omega
    clear hx e1 e2 p1 hc hcost hP m0 HS HBV
    obtain ⟨⟨ig, is, ic⟩, many⟩ := l
    simp only at x0 x1 x2 x3 hPe m1 m2 HC
    have htd : many.tdiv 12 = many / 12 := Int.tdiv_eq_ediv_of_nonneg (by omega)
    have hw1 : wrap64 (many.tdiv 12) = many.tdiv 12 := IntWalk.wrap64_in _ ⟨by omega, by omega⟩
    have hw2 : wrap64 (many - many.tdiv 12) = P := by rw [hPe]; exact IntWalk.wrap64_in _ ⟨by omega, by omega⟩
    have hw3 : wrap64 (c * P) = c * P := IntWalk.wrap64_in _ ⟨by omega, by omega⟩
    have hw4 : wrap64 (sv + c * P) = sv + c * P := IntWalk.wrap64_in _ ⟨by omega, by omega⟩
    go_wp2_with fail
    (refine wp_region_grow_lit (by kernel_rfl) (by kernel_rfl) ?_; (repeat (go_big_quiet_step ((go_at_call 60; refine Calls.grow_of (CI.out ⟨ig, is, ic⟩ _ M0.out HC.out _ (HBr.trans (Below.mono (by (repeat (first | exact Below.refl _ _ | refine Below.setCell ?_ (by first | omega | (simp; omega) | (simp; done)) _ | refine Below.alloc ?_ (by first | omega | (simp; omega) | (simp; done)) _ | refine Below.drew ?_ | refine below_drewN ?_ _ | refine Below.trans ?_ (Below.mono (plus_below _ _) (by first | omega | (simp; omega) | (simp; done))) | refine Below.trans ?_ (Below.mono (by assumption) (by first | omega | (simp; omega) | (simp; done)))))) HBr.size))))))); refine wpQuiet_nil ?_; intro w1 hw1; have hb1 := below_of_plus hw1; clear hw1; obtain ⟨⟨hc1, hf1, hs1⟩, hz1⟩ := after hb1; (try simp only [World.size_alloc, World.size_setCell, World.size_drew] at hz1))
    have hbk : Below wr.heap.size wr w1 := by (repeat (first | exact Below.refl _ _ | refine Below.setCell ?_ (by first | omega | (simp; omega) | (simp; done)) _ | refine Below.alloc ?_ (by first | omega | (simp; omega) | (simp; done)) _ | refine Below.drew ?_ | refine below_drewN ?_ _ | refine Below.trans ?_ (Below.mono (by assumption) (by first | omega | (simp; omega) | (simp; done)))))
    have x3' := cell_keep hbk x3
    have zb' := cell_lt x3'
    clear hc1 hf1 hs1 hz1 hb1 x0 x1 x2 x3
    have zb2 : bb < w1.heap.size := zb'
    clear zb'
    rcases bv with _ | _
    · go_wp2_with fail
      go_quiet (fail)
      go_wp2
      go_roundw
      case rel => exact ⟨k + 1, by omega, by go_num, gr_trans hB (gr_trans hbk (by (repeat (first | exact Below.refl _ _ | refine Below.setCell ?_ (by first | omega | (simp; omega) | (simp; done)) _ | refine Below.alloc ?_ (by first | omega | (simp; omega) | (simp; done)) _ | refine Below.drew ?_ | refine below_drewN ?_ _ | refine Below.trans ?_ (Below.mono (by assumption) (by first | omega | (simp; omega) | (simp; done))))))), _, _, rfl, rfl, by unfold Hid; rw [STS.out]; rw [show many - many / 12 = P by rw [hPe, htd], hw3, hw4], by unfold Hid; rw [STB.out]; first | done | rfl | simp⟩
      case measure => simp [intOf]; omega
    · go_wp2_with fail
      go_quiet (fail)
      go_wp2
      go_roundw
      case rel => exact ⟨k + 1, by omega, by go_num, gr_trans hB (gr_trans hbk (by (repeat (first | exact Below.refl _ _ | refine Below.setCell ?_ (by first | omega | (simp; omega) | (simp; done)) _ | refine Below.alloc ?_ (by first | omega | (simp; omega) | (simp; done)) _ | refine Below.drew ?_ | refine below_drewN ?_ _ | refine Below.trans ?_ (Below.mono (by assumption) (by first | omega | (simp; omega) | (simp; done))))))), _, _, rfl, rfl, by unfold Hid; rw [STS.out]; rw [show many - many / 12 = P by rw [hPe, htd], hw3, hw4], by unfold Hid; rw [STB.out]; first | done | rfl | simp⟩
      case measure => simp [intOf]; omega
  · obtain rfl : k = ls.length := by omega
    go_wp2_with fail
    go_ret2
    exact ⟨by rw [HS.out, HBV.out]; rfl, HBr⟩
end Go.Proofs.YtpcajmkmmkmekaaGreatDoor

