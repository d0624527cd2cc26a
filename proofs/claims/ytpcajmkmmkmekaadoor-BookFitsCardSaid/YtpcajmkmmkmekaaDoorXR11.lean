/- Contracts of the specification's sizes, where the question can be asked. -/
import Derived.Test.YtpcajmkmmkmekaaDoorXR10
set_option linter.unusedVariables false
set_option linter.unusedSimpArgs false
namespace Go.Proofs.YtpcajmkmmkmekaaDoor
open Go Go.RowKit
set_option maxHeartbeats 4000000
theorem at_none {l : List Entry} {n : Int} (h : (l.find? fun e => e.number == n) = none) : atF l n = -1 := by
  rw [List.find?_eq_none] at h
  unfold atF
  rw [List.findIdx?_eq_none_iff.2 fun x hx => by simpa using h x hx]
theorem at_some {l : List Entry} {n : Int} {e : Entry} (h : (l.find? fun e => e.number == n) = some e) : ∃ k : Nat, atF l n = k ∧ l[k]? = some e := by
  rw [List.find?_eq_some_iff_getElem] at h
  obtain ⟨hp, k, hk, he, hmin⟩ := h
  refine ⟨k, ?_, by rw [List.getElem?_eq_getElem hk, he]⟩
  unfold atF
  rw [List.findIdx?_eq_some_iff_getElem.2 ⟨hk, by rw [he]; exact hp, fun j hj => by have := hmin j hj; simpa using this⟩]
theorem at_is {x : Issue} {n v : Int} (h : atF x.entries n = v) (w : World) (hx : IssueAt w w.heap.size x) :
    Calls Tryd.prog 75 #[x.val, vi n] w fun e w' => e = .returned (vi v) ∧ Below w.heap.size w w' := by
  subst h
  exact at_any x n w hx
set_option maxRecDepth 100000 in
theorem rsizes_none (r : Rack) (issue number a b : Int) (hv : validB r = true) (ha : askB r issue number a b = true) (hf : lookF r issue number = none) (w : World) (h : RackAt w w.heap.size r) :
    Calls Tryd.prog 46 #[r.val, vi issue, vi number, .agg #[vi a, vi b]] w fun e' w' => e' = .returned (.tuple #[.slice none 0 0, vi 4]) ∧ Below w.heap.size w w' := by
  have he : askedE r true = 0 := by simp [askedE, hv]
  have HE := Lib.hid he
  have ha' := ha
  rw [ask_ref, Bool.and_eq_true] at ha'
  obtain ⟨q1, q23⟩ := ha'
  rw [Bool.and_eq_true] at q23
  obtain ⟨q2, q3⟩ := q23
  have Q1 := Lib.hid q1
  have Q2 := Lib.hid q2
  have Q3 := Lib.hid q3
  simp only [Bool.and_eq_true, decide_eq_true_eq] at q1
  obtain ⟨i0, i1⟩ := q1
  obtain ⟨n, rfl⟩ := Int.eq_ofNat_of_zero_le i0
  have hn : n < r.issues.length := by omega
  obtain ⟨x, hx⟩ : ∃ x, r.issues[n]? = some x := ⟨_, List.getElem?_eq_getElem hn⟩
  have hxi := IssuesAt.at_ h hx
  have hat : atF x.entries number = -1 := at_none (by simpa [lookF, hx] using hf)
  have HAT := Lib.hid hat
  have HR := Lib.hid h
  have hcap := IssuesAt.cap h
  have hlen := IssuesAt.len h
  have hfew := IssuesAt.few h
  obtain ⟨rg, rA, rcap, ri⟩ := r
  simp only at hn hx hcap hlen hfew i1
  obtain ⟨bb, off, hrA, hb, c0, c1, c2, c3⟩ := row4 (IssuesAt.row h) hx rfl
  simp only at hrA
  subst hrA
  have hXI : IssueAt w w.heap.size x := hxi
  have hnI : (n : Int) < ri.length := by omega
  have h0n : (0 : Int) ≤ n := by omega
  clear he ha hf hat hx q2 q3 hv h hxi i0 i1
  obtain ⟨xlo, xhi, xhd, xA, xcap, xl⟩ := x
  show Calls Tryd.prog 46 #[.agg #[vi rg, .slice (some ⟨bb, off, none⟩) ri.length rcap], vi n, vi number, .agg #[vi a, vi b]] w _
  go_enter Tryd.func46, Tryd.ntmps46
  go_wp2_with fail
  (refine wp_region_grow_lit (by kernel_rfl) (by kernel_rfl) ?_; (repeat (go_big_quiet_step (first | (go_at_call 32; refine Calls.grow_same (tween_is Q1.out _)) | (go_at_call 74; refine Calls.grow_same (isNumber_is Q2.out _)) | (go_at_call 50; refine Calls.grow_of (proper_is Q3.out _)) | (go_at_call 73; refine Calls.grow_of (asked_is HE.out _ (HR.out.to (by (repeat (first | exact Below.refl _ _ | refine Below.setCell ?_ (by first | omega | (simp; omega) | (simp; done)) _ | refine Below.alloc ?_ (by first | omega | (simp; omega) | (simp; done)) _ | refine Below.drew ?_ | refine below_drewN ?_ _ | refine Below.trans ?_ (Below.mono (plus_below _ _) (by first | omega | (simp; omega) | (simp; done))) | refine Below.trans ?_ (Below.mono (by assumption) (by first | omega | (simp; omega) | (simp; done)))))))))))); refine wpQuiet_nil ?_; intro w1 hw1; have hb1 := below_of_plus hw1; clear hw1; obtain ⟨⟨hc1, hf1, hs1⟩, hz1⟩ := after hb1; (try simp only [World.size_alloc, World.size_setCell, World.size_drew] at hz1))
  have HB1 : Below w.heap.size w w1 := by (repeat (first | exact Below.refl _ _ | refine Below.setCell ?_ (by first | omega | (simp; omega) | (simp; done)) _ | refine Below.alloc ?_ (by first | omega | (simp; omega) | (simp; done)) _ | refine Below.drew ?_ | refine below_drewN ?_ _ | refine Below.trans ?_ (Below.mono (by assumption) (by first | omega | (simp; omega) | (simp; done)))))
  have r0 : w1.cell? ⟨w.heap.size, 0, none⟩ = some (vi rg) := cell_keep hb1 (by simp [go_sem])
  have r1 : w1.cell? ⟨w.heap.size, 1, none⟩ = some (.slice (some ⟨bb, off, none⟩) ri.length rcap) := cell_keep hb1 (by simp [go_sem])
  have k0 := cell_keep HB1 c0
  have k1 := cell_keep HB1 c1
  have k2 := cell_keep HB1 c2
  have k3 := cell_keep HB1 c3
  have z1 : w.heap.size < w1.heap.size := cell_lt r0
  have zb : bb < w1.heap.size := cell_lt k0
  clear hc1 hf1 hs1 hb1 c0 c1 c2 c3
  go_wp2_with fail
  refine (at_is HAT.out _ (hXI.to HB1)).mono ?_
  rintro e w2 ⟨rfl, hb2⟩
  go_wp2_with fail
  go_ret2
  exact ⟨rfl, HB1.trans (hb2.mono HB1.size)⟩
set_option maxRecDepth 100000 in
theorem rsizes_some (r : Rack) (issue number a b : Int) (y : Entry) (hv : validB r = true) (ha : askB r issue number a b = true) (hf : lookF r issue number = some y) (w : World) (h : RackAt w w.heap.size r) :
    Calls Tryd.prog 46 #[r.val, vi issue, vi number, .agg #[vi a, vi b]] w fun e' w' => e' = .returned (.tuple #[y.slice, vi 0]) ∧ Below w.heap.size w w' := by
  have he : askedE r true = 0 := by simp [askedE, hv]
  have HE := Lib.hid he
  have ha' := ha
  rw [ask_ref, Bool.and_eq_true] at ha'
  obtain ⟨q1, q23⟩ := ha'
  rw [Bool.and_eq_true] at q23
  obtain ⟨q2, q3⟩ := q23
  have Q1 := Lib.hid q1
  have Q2 := Lib.hid q2
  have Q3 := Lib.hid q3
  simp only [Bool.and_eq_true, decide_eq_true_eq] at q1
  obtain ⟨i0, i1⟩ := q1
  obtain ⟨n, rfl⟩ := Int.eq_ofNat_of_zero_le i0
  have hn : n < r.issues.length := by omega
  obtain ⟨x, hx⟩ : ∃ x, r.issues[n]? = some x := ⟨_, List.getElem?_eq_getElem hn⟩
  have hxi := IssuesAt.at_ h hx
  obtain ⟨k, hat, hy⟩ := at_some (l := x.entries) (n := number) (e := y) (by simpa [lookF, hx] using hf)
  have HAT := Lib.hid hat
  have HR := Lib.hid h
  have hcap := IssuesAt.cap h
  have hlen := IssuesAt.len h
  have hfew := IssuesAt.few h
  have xcap2 := hxi.cap
  have xlen2 := hxi.len
  have hkx : k < x.entries.length := (List.getElem?_eq_some_iff.1 hy).1
  obtain ⟨rg, rA, rcap, ri⟩ := r
  simp only at hn hx hcap hlen hfew i1
  obtain ⟨bb, off, hrA, hb, c0, c1, c2, c3⟩ := row4 (IssuesAt.row h) hx rfl
  simp only at hrA
  subst hrA
  have hXI : IssueAt w w.heap.size x := hxi
  have hnI : (n : Int) < ri.length := by omega
  have h0n : (0 : Int) ≤ n := by omega
  obtain ⟨xlo, xhi, xhd, xA, xcap, xl⟩ := x
  simp only at xcap2 xlen2 hkx hy
  obtain ⟨yn, yg, yc, yA, ycap, yl⟩ := y
  obtain ⟨eb, eoff, hxA, heb, e0, e1, e2, e3⟩ := row4 (EntriesAt.row hxi) hy rfl
  simp only at hxA
  subst hxA
  have hkI : (k : Int) < xl.length := by omega
  have h0k : (0 : Int) ≤ k := by omega
  clear he ha hf hat hx q2 q3 hv h hxi i0 i1 hy
  show Calls Tryd.prog 46 #[.agg #[vi rg, .slice (some ⟨bb, off, none⟩) ri.length rcap], vi n, vi number, .agg #[vi a, vi b]] w _
  go_enter Tryd.func46, Tryd.ntmps46
  go_wp2_with fail
  (refine wp_region_grow_lit (by kernel_rfl) (by kernel_rfl) ?_; (repeat (go_big_quiet_step (first | (go_at_call 32; refine Calls.grow_same (tween_is Q1.out _)) | (go_at_call 74; refine Calls.grow_same (isNumber_is Q2.out _)) | (go_at_call 50; refine Calls.grow_of (proper_is Q3.out _)) | (go_at_call 73; refine Calls.grow_of (asked_is HE.out _ (HR.out.to (by (repeat (first | exact Below.refl _ _ | refine Below.setCell ?_ (by first | omega | (simp; omega) | (simp; done)) _ | refine Below.alloc ?_ (by first | omega | (simp; omega) | (simp; done)) _ | refine Below.drew ?_ | refine below_drewN ?_ _ | refine Below.trans ?_ (Below.mono (plus_below _ _) (by first | omega | (simp; omega) | (simp; done))) | refine Below.trans ?_ (Below.mono (by assumption) (by first | omega | (simp; omega) | (simp; done)))))))))))); refine wpQuiet_nil ?_; intro w1 hw1; have hb1 := below_of_plus hw1; clear hw1; obtain ⟨⟨hc1, hf1, hs1⟩, hz1⟩ := after hb1; (try simp only [World.size_alloc, World.size_setCell, World.size_drew] at hz1))
  have HB1 : Below w.heap.size w w1 := by (repeat (first | exact Below.refl _ _ | refine Below.setCell ?_ (by first | omega | (simp; omega) | (simp; done)) _ | refine Below.alloc ?_ (by first | omega | (simp; omega) | (simp; done)) _ | refine Below.drew ?_ | refine below_drewN ?_ _ | refine Below.trans ?_ (Below.mono (by assumption) (by first | omega | (simp; omega) | (simp; done)))))
  have r0 : w1.cell? ⟨w.heap.size, 0, none⟩ = some (vi rg) := cell_keep hb1 (by simp [go_sem])
  have r1 : w1.cell? ⟨w.heap.size, 1, none⟩ = some (.slice (some ⟨bb, off, none⟩) ri.length rcap) := cell_keep hb1 (by simp [go_sem])
  have k0 := cell_keep HB1 c0
  have k1 := cell_keep HB1 c1
  have k2 := cell_keep HB1 c2
  have k3 := cell_keep HB1 c3
  have z1 : w.heap.size < w1.heap.size := cell_lt r0
  have zb : bb < w1.heap.size := cell_lt k0
  clear hc1 hf1 hs1 hb1 c0 c1 c2 c3
  go_wp2_with fail
  refine (at_is HAT.out _ (hXI.to HB1)).mono ?_
  rintro e w2 ⟨rfl, hb2⟩
  have HB2 : Below w.heap.size w w2 := HB1.trans (hb2.mono HB1.size)
  have r02 := cell_keep hb2 r0
  have r12 := cell_keep hb2 r1
  have k02 := cell_keep hb2 k0
  have k12 := cell_keep hb2 k1
  have k22 := cell_keep hb2 k2
  have k32 : w2.cell? ⟨bb, off + n * 4 + 3, none⟩ = some (.slice (some ⟨eb, eoff, none⟩) xl.length xcap) := cell_keep hb2 k3
  have g3 : w2.cell? ⟨eb, eoff + k * 4 + 3, none⟩ = some (.slice yA yl.length ycap) := cell_keep HB2 e3
  have z2 : w.heap.size < w2.heap.size := cell_lt r02
  have zb2 : bb < w2.heap.size := cell_lt k02
  have ze2 : eb < w2.heap.size := cell_lt g3
  clear hb2 r0 r1 k0 k1 k2 k3 e0 e1 e2 e3 z1 zb
  go_wp2_with fail
  go_ret2
  exact ⟨rfl, HB2⟩
end Go.Proofs.YtpcajmkmmkmekaaDoor
