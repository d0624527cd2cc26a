/- What a valid rack is, in plain inequalities. -/
import Derived.Test.YtpcajmkmmkmekaaDoorGo
set_option linter.unusedVariables false
set_option linter.unusedSimpArgs false
namespace Go.Proofs.YtpcajmkmmkmekaaDoor
open Go Go.RowKit
structure FitOk (f : Fit) : Prop where
  s1 : 1 ≤ f.size
  s2 : f.size ≤ 99
  f1 : 1 ≤ f.lo
  f2 : f.lo ≤ f.hi
  f3 : f.hi ≤ 400
  p1 : 1 ≤ f.price
  p2 : f.price ≤ 100000
structure EntryOk (r : Rack) (e : Entry) : Prop where
  n1 : 1 ≤ e.number
  n2 : e.number ≤ 9999
  g1 : 0 ≤ e.good
  g2 : e.good < r.goods
  c1 : 1 ≤ e.colours
  c2 : e.colours ≤ 15
  z1 : 1 ≤ e.sizes.length
  z2 : e.sizes.length ≤ 8
  fits : ∀ f ∈ e.sizes, FitOk f
  climb : ∀ (k : Nat) (f g : Fit), e.sizes[k]? = some f → e.sizes[k + 1]? = some g → f.size < g.size
structure IssueOk (r : Rack) (x : Issue) : Prop where
  d1 : 0 ≤ x.lo
  d2 : x.lo ≤ x.hi
  d3 : x.hi ≤ 20000
  h1 : x.lo ≤ x.held
  h2 : x.held ≤ 20000
  n1 : x.entries.length ≤ 24
  entries : ∀ e ∈ x.entries, EntryOk r e
  apart : ∀ (i k : Nat) (e o : Entry), i < k → x.entries[i]? = some o → x.entries[k]? = some e → o.number ≠ e.number ∧ o.good ≠ e.good
structure RackOk (r : Rack) : Prop where
  g1 : 1 ≤ r.goods
  g2 : r.goods ≤ 24
  n1 : 1 ≤ r.issues.length
  n2 : r.issues.length ≤ 4
  issues : ∀ x ∈ r.issues, IssueOk r x
theorem limB_iff {k n : Int} : limB k n = true ↔ limLo k ≤ n ∧ n ≤ limHi k := by simp [limB]
theorem limS_iff {k a b : Int} : limS k a b = true ↔ a ≤ b ∧ (limLo k ≤ a ∧ a ≤ limHi k) ∧ limLo k ≤ b ∧ b ≤ limHi k := by simp [limS, limB]
theorem fit_ok {f : Fit} (h : fitB f = true) : FitOk f := by
  simp only [fitB, Bool.and_eq_true, limB_iff, limS_iff] at h
  obtain ⟨h1, h2, h3⟩ := h
  simp [limLo, limHi] at h1 h2 h3
  exact ⟨by omega, by omega, by omega, by omega, by omega, by omega, by omega⟩
theorem fits_ok {l : List Fit} (h : fitsB l = true) : (1 ≤ l.length ∧ l.length ≤ 8) ∧ (∀ f ∈ l, FitOk f) ∧ ∀ (k : Nat) (f g : Fit), l[k]? = some f → l[k + 1]? = some g → f.size < g.size := by
  simp only [fitsB, Bool.and_eq_true, limB_iff, List.all_eq_true, List.mem_range] at h
  obtain ⟨h1, h2⟩ := h
  simp [limLo, limHi] at h1
  refine ⟨by omega, fun f hf => ?_, fun k f g hf hg => ?_⟩
  · obtain ⟨k, hk⟩ := List.getElem?_of_mem hf
    have := h2 k (List.getElem?_eq_some_iff.1 hk).1
    simp only [goodFit, hk, Bool.and_eq_true] at this
    exact fit_ok this.1
  · have := h2 (k + 1) (List.getElem?_eq_some_iff.1 hg).1
    rw [goodFit1 hg hf] at this
    simp only [Bool.and_eq_true, decide_eq_true_eq] at this
    exact this.2
theorem entry_ok {r : Rack} {e : Entry} (h : entryB r e = true) : EntryOk r e := by
  simp only [entryB, Bool.and_eq_true, limB_iff, goodB, decide_eq_true_eq] at h
  obtain ⟨h1, h2, h3, h4⟩ := h
  rw [set_is] at h3
  simp only [Bool.and_eq_true, decide_eq_true_eq] at h3
  simp [limLo, limHi] at h1
  obtain ⟨k1, k2, k3⟩ := fits_ok h4
  exact ⟨by omega, by omega, by omega, by omega, by omega, by omega, by omega, by omega, k2, k3⟩
theorem issue_ok {r : Rack} {x : Issue} (h : catB r x = true) : IssueOk r x := by
  simp only [catB, headB, Bool.and_eq_true, limB_iff, limS_iff, List.all_eq_true, List.mem_range] at h
  obtain ⟨⟨h1, h2, h3⟩, h4⟩ := h
  simp [limLo, limHi] at h1 h2 h3
  have key : ∀ (k : Nat) (e : Entry), x.entries[k]? = some e → entryB r e = true ∧ repB (x.entries.take k) e = false := by
    intro k e he
    have := h4 k (List.getElem?_eq_some_iff.1 he).1
    rw [goodEntry_of he] at this
    simpa using this
  refine ⟨by omega, by omega, by omega, by omega, by omega, by omega, fun e he => ?_, fun i k e o hik ho he => ?_⟩
  · obtain ⟨k, hk⟩ := List.getElem?_of_mem he
    exact entry_ok (key k e hk).1
  · have h5 := (key k e he).2
    rw [repB, List.any_eq_false] at h5
    have h6 := h5 o (List.mem_of_getElem? (i := i) (by rw [List.getElem?_take, if_pos hik]; exact ho))
    simpa [sameB, not_or] using h6
theorem rack_ok {r : Rack} (h : validB r = true) : RackOk r := by
  simp only [validB, Bool.and_eq_true, limB_iff, List.all_eq_true, List.mem_range] at h
  obtain ⟨⟨h1, h2⟩, h3⟩ := h
  simp [limLo, limHi] at h1 h2
  refine ⟨by omega, by omega, by omega, by omega, fun x hx => ?_⟩
  obtain ⟨k, hk⟩ := List.getElem?_of_mem hx
  have := h3 k (List.getElem?_eq_some_iff.1 hk).1
  rw [goodIssue_of hk] at this
  exact issue_ok this
end Go.Proofs.YtpcajmkmmkmekaaDoor
/- Contract of sound: it says whether a rack is valid. -/
namespace Go.Proofs.YtpcajmkmmkmekaaDoor
open Go Go.RowKit
set_option maxHeartbeats 4000000
theorem tween_yes (a b c : Int) (w : World) (h1 : b ≤ a) (h2 : a ≤ c) :
    Calls Tryd.prog 32 #[vi a, vi b, vi c] w fun e w' => e = .returned (.bool true) ∧ w = w' := by
  have := tween_any a b c w
  rwa [show (decide (b ≤ a) && decide (a ≤ c)) = true by simp [h1, h2]] at this
theorem proper_yes (a b c d : Int) (w : World) (h1 : c ≤ a) (h2 : a ≤ b) (h3 : b ≤ d) :
    Calls Tryd.prog 50 #[.agg #[vi a, vi b], vi c, vi d] w fun e w' => e = .returned (.bool true) ∧ Below w.heap.size w w' := by
  have := proper_any a b c d w
  rwa [show (decide (c ≤ a) && decide (a ≤ b) && decide (b ≤ d)) = true by simp [h1, h2, h3]] at this
theorem sound_no (r : Rack) (w : World) (hl : Lim w) (hr : RackAt w w.heap.size r) (hv : validB r = false) :
    Calls Tryd.prog 20 #[r.val] w fun e w' => e = .returned (.bool false) ∧ Below w.heap.size w w' := by
  go_enter Tryd.func20, Tryd.ntmps20
  go_wp2_with (go_at_call 42; refine (check_bad r _ (by repeat (first | assumption | refine Lim.alloc ?_ _ | refine Lim.setCell ?_ (by first | (simp; done) | (simp; omega) | omega) _ | refine Lim.drew ?_)) (hr.to (by (repeat (first | exact Below.refl _ _ | refine Below.setCell ?_ (by first | omega | (simp; omega) | (simp; done)) _ | refine Below.alloc ?_ (by first | omega | (simp; omega) | (simp; done)) _ | refine Below.drew ?_ | refine below_drewN ?_ _ | refine Below.trans ?_ (Below.mono (by assumption) (by first | omega | (simp; omega) | (simp; done))))))) hv).mono ?_; rintro e w1 ⟨rfl, hb1⟩; obtain ⟨⟨hc1, hf1, hs1⟩, hz1⟩ := after hb1; (try simp only [World.size_alloc, World.size_setCell, World.size_drew] at hz1))
  go_rounds 2
  go_ret
  refine ⟨rfl, ?_⟩
  (repeat (first | exact Below.refl _ _ | refine Below.setCell ?_ (by first | omega | (simp; omega) | (simp; done)) _ | refine Below.alloc ?_ (by first | omega | (simp; omega) | (simp; done)) _ | refine Below.drew ?_ | refine below_drewN ?_ _ | refine Below.trans ?_ (Below.mono (by assumption) (by first | omega | (simp; omega) | (simp; done)))))
set_option maxRecDepth 100000 in
theorem sound_yes (r : Rack) (w : World) (hl : Lim w) (hr : RackAt w w.heap.size r) (hv : validB r = true) :
    Calls Tryd.prog 20 #[r.val] w fun e w' => e = .returned (.bool true) ∧ Below w.heap.size w w' := by
  have hok := rack_ok hv
  have g1 := hok.g1
  have g2 := hok.g2
  have n1 := hok.n1
  have n2 := hok.n2
  have OK := Lib.hid hok.issues
  clear hok
  obtain ⟨rg, rA, rcap, ri⟩ := r
  have hcap := IssuesAt.cap hr
  have hfew := IssuesAt.few hr
  have hlen := IssuesAt.len hr
  have hri : IssuesAt w w.heap.size rA rcap ri := hr
  have hn1 : (1 : Int) ≤ ri.length := by simp only at n1; omega
  have hn2 : (ri.length : Int) ≤ 4 := by simp only at n2; omega
  simp only at g1 g2 n1 n2
  go_enter Tryd.func20, Tryd.ntmps20
  go_wp2_with fail
  refine (check_ok ⟨rg, rA, rcap, ri⟩ _ (by repeat (first | assumption | refine Lim.alloc ?_ _ | refine Lim.setCell ?_ (by first | (simp; done) | (simp; omega) | omega) _ | refine Lim.drew ?_)) (hr.to (by (repeat (first | exact Below.refl _ _ | refine Below.setCell ?_ (by first | omega | (simp; omega) | (simp; done)) _ | refine Below.alloc ?_ (by first | omega | (simp; omega) | (simp; done)) _ | refine Below.drew ?_ | refine below_drewN ?_ _ | refine Below.trans ?_ (Below.mono (by assumption) (by first | omega | (simp; omega) | (simp; done))))))) hv).mono ?_
  rintro e W ⟨rfl, hb⟩
  have HB0 : Below w.heap.size w W := by (repeat (first | exact Below.refl _ _ | refine Below.setCell ?_ (by first | omega | (simp; omega) | (simp; done)) _ | refine Below.alloc ?_ (by first | omega | (simp; omega) | (simp; done)) _ | refine Below.drew ?_ | refine below_drewN ?_ _ | refine Below.trans ?_ (Below.mono (by assumption) (by first | omega | (simp; omega) | (simp; done)))))
  have c0 : W.cell? ⟨w.heap.size, 0, none⟩ = some (vi rg) := (hb.cell (p := ⟨w.heap.size, 0, none⟩) (by simp)).trans (by simp [go_sem])
  have c1 : W.cell? ⟨w.heap.size, 1, none⟩ = some (.slice rA ri.length rcap) := (hb.cell (p := ⟨w.heap.size, 1, none⟩) (by simp)).trans (by simp [go_sem])
  have z0 : w.heap.size < W.heap.size := by have := hb.size; simp at this; omega
  have hriW : IssuesAt W w.heap.size rA rcap ri := hri.below HB0
  clear hb
  go_wp2_with (go_at_call 32; refine (tween_yes _ _ _ _ (by omega) (by omega)).mono ?_; rintro e w1 ⟨rfl, rfl⟩)
  go_loopw [3, 4] (fun ok i wr => ∃ k : Nat, k ≤ ri.length ∧ i = .int .i64 k ∧ ok = .bool true ∧ Below W.heap.size W wr) (fun _ i _ => ri.length - (intOf i).toNat)
  case atStart => exact ⟨0, Nat.zero_le _, rfl, rfl, Below.refl _ _⟩
  case round =>
    obtain ⟨k, hk, rfl, rfl, hB⟩ := hrel
    have hs := hB.size
    have r0 := (hB.cell (p := ⟨w.heap.size, 0, none⟩) z0).trans c0
    have r1 := (hB.cell (p := ⟨w.heap.size, 1, none⟩) z0).trans c1
    have zr : w.heap.size < wr.heap.size := by omega
    by_cases hlt : k < ri.length
    · obtain ⟨x, hx⟩ : ∃ x, ri[k]? = some x := ⟨_, List.getElem?_eq_getElem hlt⟩
      obtain ⟨xlo, xhi, xhd, xA, xcap, xl⟩ := x
      obtain ⟨d1, d2, d3, h1, h2, m1, hent, -⟩ := OK.out _ (List.mem_of_getElem? hx)
      have hxe : EntriesAt wr w.heap.size xA xcap xl := (hriW.below (hB.mono (by omega))).at_ hx
      obtain ⟨bb, off, rfl, hbb, a0, a1, a2, a3⟩ := row4 (hriW.below (hB.mono (by omega))).row hx rfl
      have ENT := Lib.hid hent
      have zb : bb < wr.heap.size := by omega
      have hkI : (k : Int) < ri.length := by omega
      have h0I : (0 : Int) ≤ k := by omega
      have hcap2 : (rcap : Int) ≤ 9223372036854775807 := by have : rcap ≤ 9223372036854775807 := hcap; omega
      have xcap2 := hxe.cap
      have xlen2 := hxe.len
      have hml : (xl.length : Int) ≤ 24 := by simp only at m1; omega
      simp only at d1 d2 d3 h1 h2 m1
      clear hx hent
      go_wp2_with (first
        | (go_at_call 50; refine (proper_yes _ _ _ _ _ (by omega) (by omega) (by omega)).mono ?_; rintro e w5 ⟨rfl, hb5⟩; obtain ⟨⟨hc5, hf5, hs5⟩, hz5⟩ := after hb5; (try simp only [World.size_alloc] at hz5); have hq5 : wr.heap.size < w5.heap.size := (by omega))
        | (go_at_call 32; refine (tween_yes _ _ _ _ (by omega) (by omega)).mono ?_; rintro e w1 ⟨rfl, rfl⟩))
      have HB5 : Below wr.heap.size wr w5 := by (repeat (first | exact Below.refl _ _ | refine Below.setCell ?_ (by first | omega | (simp; omega) | (simp; done)) _ | refine Below.alloc ?_ (by first | omega | (simp; omega) | (simp; done)) _ | refine Below.drew ?_ | refine below_drewN ?_ _ | refine Below.trans ?_ (Below.mono (by assumption) (by first | omega | (simp; omega) | (simp; done)))))
      have X3 : w5.cell? ⟨wr.heap.size, 3, none⟩ = some (.slice xA xl.length xcap) := by rw [hc5 _ _ (by simp)]; simp [go_sem]
      have hxe5 : EntriesAt w5 w.heap.size xA xcap xl := hxe.below (HB5.mono (by omega))
      have R0 := (HB5.cell (p := ⟨w.heap.size, 0, none⟩) zr).trans r0
      have R1 := (HB5.cell (p := ⟨w.heap.size, 1, none⟩) zr).trans r1
      have zw5 : w.heap.size < w5.heap.size := by omega
      have hB5 : Below W.heap.size W w5 := hB.trans (HB5.mono hs)
      clear hxe hb5 hc5 hf5 hs5 a0 a1 a2 a3 r0 r1
      obtain ⟨Y, rfl⟩ : ∃ Y, Y = w5 := ⟨_, rfl⟩
      obtain ⟨wo, rfl⟩ : ∃ wo : World, wo = wr := ⟨_, rfl⟩
      go_loopw [3, 6] (fun ok j wq => ∃ m : Nat, m ≤ xl.length ∧ j = .int .i64 m ∧ ok = .bool true ∧ Below Y.heap.size Y wq) (fun _ j _ => xl.length - (intOf j).toNat)
      case atStart => exact ⟨0, Nat.zero_le _, rfl, rfl, Below.refl _ _⟩
      case round =>
        obtain ⟨m, hm, rfl, rfl, hC⟩ := hrel
        have hsC := hC.size
        have x3 := (hC.cell (p := ⟨wo.heap.size, 3, none⟩) hq5).trans X3
        have s0 := (hC.cell (p := ⟨w.heap.size, 0, none⟩) zw5).trans R0
        have zwr : w.heap.size < wr.heap.size := by omega
        have zwo : wo.heap.size < wr.heap.size := by omega
        by_cases hlt2 : m < xl.length
        · obtain ⟨e, he⟩ : ∃ e, xl[m]? = some e := ⟨_, List.getElem?_eq_getElem hlt2⟩
          obtain ⟨en, eg, ec, eA, ecap, el⟩ := e
          obtain ⟨p1, p2, p3, p4, p5, p6, p7, p8, hfit, -⟩ := ENT.out _ (List.mem_of_getElem? he)
          have hee : FitsAt wr w.heap.size eA ecap el := (hxe5.below (hC.mono (by omega))).at_ he
          obtain ⟨ab, aoff, rfl, habb, b0, b1, b2, b3⟩ := row4 (hxe5.below (hC.mono (by omega))).row he rfl
          have FIT := Lib.hid hfit
          have zab : ab < wr.heap.size := by omega
          have hmI : (m : Int) < xl.length := by omega
          have h0M : (0 : Int) ≤ m := by omega
          have ecap2 := hee.cap
          have elen2 := hee.len
          simp only at p1 p2 p3 p4 p5 p6 p7 p8
          have q1 : (1 : Int) ≤ el.length := by omega
          have q2 : (el.length : Int) ≤ 8 := by omega
          have q3 : eg ≤ rg - 1 := by omega
          clear he hfit
          go_wp2_with (go_at_call 32; refine (tween_yes _ _ _ _ (by omega) (by omega)).mono ?_; rintro e w1 ⟨rfl, rfl⟩)
          obtain ⟨Z, hZ⟩ : ∃ Z, Z = wr.alloc (.cells #[vi en, vi eg, vi ec, .slice eA el.length ecap] 50) := ⟨_, rfl⟩
          have hCZ : Below Y.heap.size Y Z := by rw [hZ]; (repeat (first | exact Below.refl _ _ | refine Below.setCell ?_ (by first | omega | (simp; omega) | (simp; done)) _ | refine Below.alloc ?_ (by first | omega | (simp; omega) | (simp; done)) _ | refine Below.drew ?_ | refine below_drewN ?_ _ | refine Below.trans ?_ (Below.mono (by assumption) (by first | omega | (simp; omega) | (simp; done)))))
          have zZ : wr.heap.size < Z.heap.size := by rw [hZ]; simp
          have E3 : Z.cell? ⟨wr.heap.size, 3, none⟩ = some (.slice eA el.length ecap) := by rw [hZ]; simp [go_sem]
          have heeZ : FitsAt Z w.heap.size eA ecap el := by rw [hZ]; exact hee.below ((Below.refl _ wr).alloc (by omega) _)
          rw [← hZ]
          clear hZ hee b0 b1 b2 b3 x3 s0
          obtain ⟨wi, rfl⟩ : ∃ wi : World, wi = wr := ⟨_, rfl⟩
          go_loopw [3, 8] (fun ok q wr => ∃ p : Nat, p ≤ el.length ∧ q = .int .i64 p ∧ ok = .bool true ∧ Below Z.heap.size Z wr) (fun _ q _ => el.length - (intOf q).toNat)
          case atStart => exact ⟨0, Nat.zero_le _, rfl, rfl, Below.refl _ _⟩
          case round =>
            obtain ⟨p, hp, rfl, rfl, hD⟩ := hrel
            have hsD := hD.size
            have e3 := (hD.cell (p := ⟨wi.heap.size, 3, none⟩) zZ).trans E3
            have zi : wi.heap.size < wr.heap.size := by omega
            by_cases hlt3 : p < el.length
            · obtain ⟨f, hf⟩ : ∃ f, el[p]? = some f := ⟨_, List.getElem?_eq_getElem hlt3⟩
              obtain ⟨fs, flo, fhi, fp⟩ := f
              obtain ⟨t1, t2, t3, t4, t5, t6, t7⟩ := FIT.out _ (List.mem_of_getElem? hf)
              obtain ⟨fb, foff, rfl, hfb, k0, k1, k2, k3⟩ := row4 (heeZ.below (hD.mono (by omega))).row hf rfl
              have zfb : fb < wr.heap.size := by omega
              have hpI : (p : Int) < el.length := by omega
              have h0P : (0 : Int) ≤ p := by omega
              simp only at t1 t2 t3 t4 t5 t6 t7
              clear hf
              go_wp2_with (first
                | (go_at_call 50; refine (proper_yes _ _ _ _ _ (by omega) (by omega) (by omega)).mono ?_; rintro e w5 ⟨rfl, hb5⟩; obtain ⟨⟨hc5, hf5, hs5⟩, hz5⟩ := after hb5; (try simp only [World.size_alloc] at hz5); have hq9 : wr.heap.size < w5.heap.size := (by omega))
                | (go_at_call 32; refine (tween_yes _ _ _ _ (by omega) (by omega)).mono ?_; rintro e w1 ⟨rfl, rfl⟩))
              go_roundw
              case rel => exact ⟨p + 1, by omega, by go_num, rfl, by (repeat (first | exact Below.refl _ _ | refine Below.setCell ?_ (by first | omega | (simp; omega) | (simp; done)) _ | refine Below.alloc ?_ (by first | omega | (simp; omega) | (simp; done)) _ | refine Below.drew ?_ | refine below_drewN ?_ _ | refine Below.trans ?_ (Below.mono (by assumption) (by first | omega | (simp; omega) | (simp; done)))))⟩
              case measure => simp [intOf]; omega
            · obtain rfl : p = el.length := by omega
              go_wp2
              go_roundw
              case rel => exact ⟨m + 1, by omega, by go_num, rfl, hCZ.trans (hD.mono (by have := hCZ.size; omega))⟩
              case measure => simp [intOf]; omega
        · obtain rfl : m = xl.length := by omega
          go_wp2
          go_roundw
          case rel => exact ⟨k + 1, by omega, by go_num, rfl, hB5.trans (hC.mono (by have := hB5.size; omega))⟩
          case measure => simp [intOf]; omega
    · obtain rfl : k = ri.length := by omega
      go_wp2
      go_ret
      exact ⟨rfl, HB0.trans (hB.mono HB0.size)⟩
end Go.Proofs.YtpcajmkmmkmekaaDoor
/- Contracts of Climbs. -/
namespace Go.Proofs.YtpcajmkmmkmekaaDoor
open Go Go.RowKit
set_option maxHeartbeats 1000000
def climbsB (n : Int) : Int → List Int → Bool
  | _, [] => true
  | b, x :: r => decide (b < x) && (decide (x < n) && climbsB n x r)
theorem climbs_step {n b : Int} {l : List Int} {k : Nat} {x : Int} (h : climbsB n b (l.drop k) = true) (hx : l[k]? = some x) : b < x ∧ x < n ∧ climbsB n x (l.drop (k + 1)) = true := by
  obtain ⟨hk, rfl⟩ := List.getElem?_eq_some_iff.1 hx
  rw [List.drop_eq_getElem_cons hk, climbsB] at h
  simp only [Bool.and_eq_true, decide_eq_true_eq] at h
  exact h
theorem climbs_yes (A : Option Addr) (cap : Nat) (l : List Int) (n : Int) (w : World) (hh : IntsAt w w.heap.size A cap l) (hc : climbsB n (-1) l = true) :
    Calls Tryd.prog 27 #[.slice A l.length cap, vi n] w fun e w' => e = .returned (.bool true) ∧ w' = w := by
  have hcap := hh.cap
  have hlen := hh.len
  have HC := Lib.hid hc
  clear hc
  go_enter Tryd.func27, Tryd.ntmps27
  go_wp2
  go_loopw [5, 6] (fun b i wr => ∃ (k : Nat) (m : Int), k ≤ l.length ∧ i = .int .i64 k ∧ b = vi m ∧ wr = w ∧ Hid (climbsB n m (l.drop k) = true)) (fun _ i _ => l.length - (intOf i).toNat)
  case atStart => exact ⟨0, -1, Nat.zero_le _, rfl, rfl, rfl, by have := HC.out; unfold Hid; simpa using this⟩
  case round =>
    obtain ⟨k, m, hk, rfl, rfl, rfl, hc⟩ := hrel
    by_cases hlt : k < l.length
    · obtain ⟨x, hx⟩ : ∃ x, l[k]? = some x := ⟨_, List.getElem?_eq_getElem hlt⟩
      obtain ⟨bb, off, rfl, hb, c0⟩ := hh.at_ hx
      obtain ⟨h1, h2, h3⟩ := climbs_step hc.out hx
      have H3 := Lib.hid h3
      have hltI : (k : Int) < l.length := by omega
      have h0I : (0 : Int) ≤ k := by omega
      clear hx h3
      go_wp2
      go_roundw
      case rel => exact ⟨k + 1, x, by omega, by go_num, rfl, trivial, H3⟩
      case measure => simp [intOf]; omega
    · obtain rfl : k = l.length := by omega
      go_wp2
      go_ret
      exact ⟨rfl, rfl⟩
end Go.Proofs.YtpcajmkmmkmekaaDoor
