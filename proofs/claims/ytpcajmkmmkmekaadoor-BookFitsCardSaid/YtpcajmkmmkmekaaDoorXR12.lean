/- Contracts of the specification's Fits and Sure. -/
import Derived.Test.YtpcajmkmmkmekaaDoorXR11
import Derived.Test.YtpcajmkmmkmekaaDoorGd
set_option linter.unusedVariables false
set_option linter.unusedSimpArgs false
namespace Go.Proofs.YtpcajmkmmkmekaaDoor
open Go Go.RowKit
set_option maxHeartbeats 4000000
theorem look_cases (r : Rack) (issue number a b : Int) :
    (∃ e, (e = 10 ∨ e = 11) ∧ askedE r (askB r issue number a b) = e ∧ lookErr r issue number a b = e ∧ ∀ p, lookL p r issue number a b = []) ∨
    (validB r = true ∧ askB r issue number a b = true ∧ lookF r issue number = none ∧ lookErr r issue number a b = 4 ∧ ∀ p, lookL p r issue number a b = []) ∨
    ∃ y, validB r = true ∧ askB r issue number a b = true ∧ lookF r issue number = some y ∧ lookErr r issue number a b = 0 ∧ ∀ p, lookL p r issue number a b = sizesV p y.sizes := by
  cases hv : validB r with
  | false => exact .inl ⟨10, .inl rfl, by simp [askedE, hv], by simp [lookErr, hv], fun p => by simp [lookL, hv]⟩
  | true =>
    cases ha : askB r issue number a b with
    | false => exact .inl ⟨11, .inr rfl, by simp [askedE, hv], by simp [lookErr, hv, ha], fun p => by simp [lookL, ha]⟩
    | true =>
      cases hf : lookF r issue number with
      | none => exact .inr (.inl ⟨rfl, rfl, rfl, by simp [lookErr, hv, ha, hf], fun p => by simp [lookL, hv, ha, hf, sizesO]⟩)
      | some y => exact .inr (.inr ⟨y, rfl, rfl, rfl, by simp [lookErr, hv, ha, hf], fun p => by simp [lookL, hv, ha, hf, sizesO]⟩)
theorem look_at {r : Rack} {issue number a b : Int} {y : Entry} (hv : validB r = true) (ha : askB r issue number a b = true) (hf : lookF r issue number = some y) : EntryOk r y ∧ a ≤ b ∧ (∀ w : World, RackAt w w.heap.size r → EntryAt w w.heap.size y) := by
  unfold lookF at hf
  cases hx : r.issues[issue.toNat]? with
  | none => rw [hx] at hf; cases hf
  | some x =>
    rw [hx] at hf
    have hm := List.mem_of_find?_eq_some hf
    refine ⟨((rack_ok hv).issues x (List.mem_of_getElem? hx)).entries y hm, ?_, fun w h => (IssuesAt.at_ h hx).each y hm⟩
    simp only [askB, Bool.and_eq_true, limS_iff] at ha
    omega
theorem common_is {a b c d m n : Int} (hm : max a c = m) (hn : min b d = n) (w : World) :
    Calls Tryd.prog 47 #[.agg #[vi a, vi b], .agg #[vi c, vi d]] w fun e w' => e = .returned (.agg #[vi m, vi n]) ∧ Below w.heap.size w w' := by
  subst hm hn
  exact common_any a b c d w
theorem inner_is {a b c d : Int} {v : Bool} (h : coverB c d a b = v) (w : World) :
    Calls Tryd.prog 49 #[.agg #[vi a, vi b], .agg #[vi c, vi d]] w fun e w' => e = .returned (.bool v) ∧ Below w.heap.size w w' := by
  subst h
  exact inner_any a b c d w
theorem set2_below {B : Nat} {w w1 : World} (h : Below B w w1) {L : Nat} (hL : B ≤ L) (a b : Value) : Below B w ((w1.setCell ⟨L, 0, none⟩ a).setCell ⟨L, 1, none⟩ b) := (h.setCell hL a).setCell hL b
set_option maxRecDepth 100000 in
theorem rfits_any (r : Rack) (issue number a b : Int) (w : World) (h : RackAt w w.heap.size r) :
    Calls Tryd.prog 15 #[r.val, vi issue, vi number, .agg #[vi a, vi b]] w fun e w' => ∃ A cap, e = .returned (.tuple #[.slice A (lookL (fitsP a b) r issue number a b).length cap, vi (lookErr r issue number a b)]) ∧ IntsAt w' w'.heap.size A (lookL (fitsP a b) r issue number a b).length (lookL (fitsP a b) r issue number a b) ∧ Below w.heap.size w w' := by
  rcases look_cases r issue number a b with ⟨e, hne, he, e1, e2⟩ | ⟨hv, ha, hf, e1, e2⟩ | ⟨y, hv, ha, hf, e1, e2⟩
  · rw [e1, e2]
    have HE := Lib.hid he
    have HNE := Lib.hid hne
    clear he e1 e2
    rcases hne with rfl | rfl
    all_goals
      go_enter Tryd.func15, Tryd.ntmps15
      go_wp2_with (go_at_call 46; refine (rsizes_err r _ _ _ _ _ HE.out HNE.out _ (h.to (by (repeat (first | exact Below.refl _ _ | refine Below.setCell ?_ (by first | omega | (simp; omega) | (simp; done)) _ | refine Below.alloc ?_ (by first | omega | (simp; omega) | (simp; done)) _ | refine Below.drew ?_ | refine below_drewN ?_ _ | refine Below.trans ?_ (Below.mono (by assumption) (by first | omega | (simp; omega) | (simp; done)))))))).mono ?_; rintro e w1 ⟨rfl, hb1⟩; obtain ⟨⟨hc1, hf1, hs1⟩, hz1⟩ := after hb1; (try simp only [World.size_alloc, World.size_setCell, World.size_drew] at hz1))
      go_ret2
      refine ⟨none, 0, rfl, ⟨Nat.le_refl _, by simp, fun hl => absurd hl (by simp)⟩, ?_⟩
      (repeat (first | exact Below.refl _ _ | refine Below.setCell ?_ (by first | omega | (simp; omega) | (simp; done)) _ | refine Below.alloc ?_ (by first | omega | (simp; omega) | (simp; done)) _ | refine Below.drew ?_ | refine below_drewN ?_ _ | refine Below.trans ?_ (Below.mono (by assumption) (by first | omega | (simp; omega) | (simp; done)))))
  · rw [e1, e2]
    have HV := Lib.hid hv
    have HA := Lib.hid ha
    have HF := Lib.hid hf
    clear hv ha hf e1 e2
    go_enter Tryd.func15, Tryd.ntmps15
    go_wp2_with (go_at_call 46; refine (rsizes_none r _ _ _ _ HV.out HA.out HF.out _ (h.to (by (repeat (first | exact Below.refl _ _ | refine Below.setCell ?_ (by first | omega | (simp; omega) | (simp; done)) _ | refine Below.alloc ?_ (by first | omega | (simp; omega) | (simp; done)) _ | refine Below.drew ?_ | refine below_drewN ?_ _ | refine Below.trans ?_ (Below.mono (by assumption) (by first | omega | (simp; omega) | (simp; done)))))))).mono ?_; rintro e w1 ⟨rfl, hb1⟩; obtain ⟨⟨hc1, hf1, hs1⟩, hz1⟩ := after hb1; (try simp only [World.size_alloc, World.size_setCell, World.size_drew] at hz1))
    go_ret2
    refine ⟨none, 0, rfl, ⟨Nat.le_refl _, by simp, fun hl => absurd hl (by simp)⟩, ?_⟩
    (repeat (first | exact Below.refl _ _ | refine Below.setCell ?_ (by first | omega | (simp; omega) | (simp; done)) _ | refine Below.alloc ?_ (by first | omega | (simp; omega) | (simp; done)) _ | refine Below.drew ?_ | refine below_drewN ?_ _ | refine Below.trans ?_ (Below.mono (by assumption) (by first | omega | (simp; omega) | (simp; done)))))
  · rw [e1, e2]
    obtain ⟨yok, hab, hya⟩ := look_at hv ha hf
    have hfit := yok.fits
    have yl1 := yok.z2
    have hyw : EntryAt w w.heap.size y := hya w h
    have HV := Lib.hid hv
    have HA := Lib.hid ha
    have HF := Lib.hid hf
    have FIT := Lib.hid hfit
    clear hv ha hf e1 e2 yok hya hfit
    obtain ⟨yn, yg, yc, yA, ycap, yl⟩ := y
    have hfw : FitsAt w w.heap.size yA ycap yl := hyw
    have yc1 := hfw.cap
    have yc2 := hfw.len
    simp only at yl1 FIT
    obtain ⟨p, hp⟩ : ∃ p : Fit → Bool, p = fitsP a b := ⟨_, rfl⟩
    have HP : Hid (∀ f : Fit, f.lo ≤ f.hi → p f = decide (max f.lo a ≤ min f.hi b)) := fun f hff => by
      rw [hp, Bool.eq_iff_iff]
      simp only [fitsP, meetB, Bool.and_eq_true, decide_eq_true_eq]
      omega
    rw [← hp]
    clear hp
    have RS : Hid (∀ W' : World, RackAt W' W'.heap.size r → Calls Tryd.prog 46 #[r.val, vi issue, vi number, .agg #[vi a, vi b]] W' fun e' w' => e' = .returned (.tuple #[.slice yA yl.length ycap, vi 0]) ∧ Below W'.heap.size W' w') := fun W' g => rsizes_some r _ _ _ _ _ HV.out HA.out HF.out W' g
    go_enter Tryd.func15, Tryd.ntmps15
    go_wp2_with fail
    refine (RS.out _ (h.to (by (repeat (first | exact Below.refl _ _ | refine Below.setCell ?_ (by first | omega | (simp; omega) | (simp; done)) _ | refine Below.alloc ?_ (by first | omega | (simp; omega) | (simp; done)) _ | refine Below.drew ?_ | refine below_drewN ?_ _ | refine Below.trans ?_ (Below.mono (by assumption) (by first | omega | (simp; omega) | (simp; done)))))))).mono ?_
    rintro e W ⟨rfl, hb⟩
    have HB0 : Below w.heap.size w W := by (repeat (first | exact Below.refl _ _ | refine Below.setCell ?_ (by first | omega | (simp; omega) | (simp; done)) _ | refine Below.alloc ?_ (by first | omega | (simp; omega) | (simp; done)) _ | refine Below.drew ?_ | refine below_drewN ?_ _ | refine Below.trans ?_ (Below.mono (by assumption) (by first | omega | (simp; omega) | (simp; done)))))
    have f0 : W.cell? ⟨w.heap.size + 1, 0, none⟩ = some (vi a) := cell_keep hb (by simp [go_sem])
    have f1 : W.cell? ⟨w.heap.size + 1, 1, none⟩ = some (vi b) := cell_keep hb (by simp [go_sem])
    clear hb
    go_wp2_with fail
    go_loopw [12, 13] (fun v i wr => ∃ k : Nat, k ≤ yl.length ∧ i = .int .i64 k ∧ Below W.heap.size W wr ∧ wr.ownsRow W.heap.size 3 1 v (sizesV p (yl.take k)).length ((sizesV p (yl.take k)).map vi)) (fun _ i _ => yl.length - (intOf i).toNat)
    case atStart => exact ⟨0, Nat.zero_le _, rfl, Below.refl _ _, by simpa [sizesV] using World.ownsRow_nil _ _ _ _⟩
    obtain ⟨k, hk, rfl, hB, hown⟩ := hrel
    have hbs := hB.size
    have HBr : Below w.heap.size w wr := HB0.trans (hB.mono HB0.size)
    have f0r := cell_keep hB f0
    have f1r := cell_keep hB f1
    have zf : w.heap.size + 1 < wr.heap.size := cell_lt f0r
    by_cases hlt : k < yl.length
    · obtain ⟨x, hx⟩ : ∃ x, yl[k]? = some x := ⟨_, List.getElem?_eq_getElem hlt⟩
      obtain ⟨bb, off, rfl, hbb, x0, x1, x2, x3⟩ := row4 (hfw.to HBr).row hx rfl
      have G := Lib.hid (sizesV_succ (p := p) hx)
      have hn := sizesV_le p yl k
      have E := Lib.hid (HP.out x (FIT.out x (List.mem_of_getElem? hx)).f2)
      have zbb : bb < wr.heap.size := cell_lt x0
      have hkI : (k : Int) < yl.length := by omega
      have h0k : (0 : Int) ≤ k := by omega
      clear hx
      obtain ⟨xs, xlo, xhi, xp⟩ := x
      simp only at x0 x1 x2 x3 E G
      obtain ⟨mx, hmx⟩ : ∃ mx, max xlo a = mx := ⟨_, rfl⟩
      obtain ⟨mn, hmn⟩ : ∃ mn, min xhi b = mn := ⟨_, rfl⟩
      rw [hmx, hmn] at E
      have HMX := Lib.hid hmx
      have HMN := Lib.hid hmn
      clear hmx hmn
      go_upto_region 8 with fail
      refine' wp_region_box (fun w' => Below wr.heap.size wr w') (stays_below _) [0, 1, 2, 3, 4, 5, 6] 2 53 (by kernel_rfl) (by kernel_rfl) rfl (by kernel_rfl) (by kernel_rfl) rfl (by kernel_rfl) ?hl8 (Below.refl _ _) ?hq8 ?hr8
      case hl8 =>
        simp only [List.map_cons, List.map_nil, List.getD_cons_zero, List.getD_cons_succ]
        exact rfl
      case hq8 =>
        intro w0 hw0
        have u0 := cell_keep hw0 f0r
        have u1 := cell_keep hw0 f1r
        have y0 := cell_keep hw0 x0
        have y1 := cell_keep hw0 x1
        have y2 := cell_keep hw0 x2
        have v1 : w.heap.size + 1 < w0.heap.size := cell_lt u0
        have v2 : bb < w0.heap.size := cell_lt y0
        (repeat (go_big_quiet_step ((go_at_call 47; refine Calls.grow_of (common_is HMX.out HMN.out _)))))
        exact wpQuiet_nil rfl
      refine wpUp_one (i := 7) (by kernel_rfl) rfl rfl (fun w1 h1 h2 K hK => ?_)
      go_simp
      refine hK _ _ (h2.alloc h2.size _) ?_
      refine wpUp_one (i := 8) (by kernel_rfl) rfl rfl (fun w2 h3 h4 K2 hK2 => ?_)
      have F0 : w2.frozen? ⟨w1.heap.size, 0, none⟩ = false := soft_keep h3 (by simp) (by simp [go_sem])
      have F1 : w2.frozen? ⟨w1.heap.size, 1, none⟩ = false := soft_keep h3 (by simp) (by simp [go_sem])
      have k0 : w2.cell? ⟨w1.heap.size, 0, none⟩ = some (vi 0) := cell_keep h3 (by simp [go_sem])
      have k1 : w2.cell? ⟨w1.heap.size, 1, none⟩ = some (vi 0) := cell_keep h3 (by simp [go_sem])
      go_simp
      have hw1 := h1.size
      refine hK2 _ _ (set2_below h4 (by omega) _ _) (wpUp_done (by kernel_rfl) (fun W4 h7 h8 => NoPanic.normal ?_))
      have Z0 : W4.cell? ⟨w1.heap.size, 0, none⟩ = some (vi mx) := cell_keep h7 (by simp [go_sem, k0, k1])
      have Z1 : W4.cell? ⟨w1.heap.size, 1, none⟩ = some (vi mn) := cell_keep h7 (by simp [go_sem, k0, k1])
      have hown4 := own_keep hown h8
      have HB4 : Below W.heap.size W W4 := gr_trans hB h8
      have y0 := cell_keep h8 x0
      have zb4 : bb < W4.heap.size := cell_lt y0
      obtain ⟨ib, hib⟩ : ∃ ib, ib = w1.heap.size := ⟨_, rfl⟩
      rw [← hib] at Z0 Z1 ⊢
      have zib : ib < W4.heap.size := cell_lt Z0
      have hz4 := HB4.size
      clear hib F0 F1 k0 k1 h1 h2 h3 h4 h7 h8 hK hK2 K K2 hw1 w2 w1 x0 x1 x2 x3 f0r f1r
      by_cases hle : mx ≤ mn
      · obtain ⟨i0, hi, hy0, hy1, hy2⟩ := info_parts info_int
        go_wp2_with (at_builtin; go_loud (refine wpList_append_own _ rfl _ _ 28 rfl W.heap.size 3 i0 (.int .i64 0) 1 8 Tryd.underlying28 hi hy0 hy1 hy2 rfl (by decide) _ _ _ rfl (hown4.alloc _) ⟨W4.heap.size, 0, none⟩ 1 1 [vi xs] rfl rfl (cell_one_new _ _ _) (by simp [Value.oneCell']) (by unfold maxLen; omega) (by omega) (by simp; omega) ?_; intro v5 w5 hown5 hgrow5 _))
        have HB5 : Below W.heap.size W w5 := Below.grown (by (repeat (first | exact Below.refl _ _ | refine Below.setCell ?_ (by first | omega | (simp; omega) | (simp; done)) _ | refine Below.alloc ?_ (by first | omega | (simp; omega) | (simp; done)) _ | refine Below.drew ?_ | refine below_drewN ?_ _ | refine Below.trans ?_ (Below.mono (by assumption) (by first | omega | (simp; omega) | (simp; done)))))) hgrow5 (by simp; omega) (fun j e => (hown4.lt j e).1)
        have HG : Hid (sizesV p (yl.take (k + 1)) = sizesV p (yl.take k) ++ [xs]) := by unfold Hid; rw [G.out, E.out]; simp [hle]
        clear G E
        go_roundw
        case rel =>
          refine ⟨k + 1, by omega, by go_num, HB5, ?_⟩
          rw [HG.out]
          simpa using hown5
        case measure => simp [intOf]; omega
      · have HG : Hid (sizesV p (yl.take (k + 1)) = sizesV p (yl.take k)) := by unfold Hid; rw [G.out, E.out]; simp [hle]
        clear G E
        go_wp2_with fail
        go_roundw
        case rel =>
          refine ⟨k + 1, by omega, by go_num, HB4, ?_⟩
          rw [HG.out]
          exact hown4
        case measure => simp [intOf]; omega
    · obtain rfl : k = yl.length := by omega
      rw [List.take_length] at hown
      have hn := sizesV_le p yl yl.length
      rw [List.take_length] at hn
      obtain ⟨A', c', rfl, hi'⟩ := own_ints (m := sizesV p yl) hown rfl (by omega)
      clear hown
      go_wp2_with fail
      go_ret2
      exact ⟨A', c', rfl, hi', HBr⟩
set_option maxRecDepth 100000 in
theorem rsure_any (r : Rack) (issue number a b : Int) (w : World) (h : RackAt w w.heap.size r) :
    Calls Tryd.prog 18 #[r.val, vi issue, vi number, .agg #[vi a, vi b]] w fun e w' => e = .returned (.tuple #[vi (sureV r issue number a b), vi (sureErr r issue number a b)]) ∧ Below w.heap.size w w' := by
  have hs1 : sureErr r issue number a b = if lookErr r issue number a b = 0 then if (lookL (sureP a b) r issue number a b).isEmpty then 4 else 0 else lookErr r issue number a b := rfl
  have hs2 : sureV r issue number a b = if lookErr r issue number a b = 0 then (lookL (sureP a b) r issue number a b).headD 0 else 0 := rfl
  rcases look_cases r issue number a b with ⟨e, hne, he, e1, e2⟩ | ⟨hv, ha, hf, e1, e2⟩ | ⟨y, hv, ha, hf, e1, e2⟩
  · have hs3 : sureErr r issue number a b = e ∧ sureV r issue number a b = 0 := by rw [hs1, hs2, e1]; rcases hne with rfl | rfl <;> simp
    rw [hs3.1, hs3.2]
    have HE := Lib.hid he
    have HNE := Lib.hid hne
    clear he e1 e2 hs1 hs2 hs3
    rcases hne with rfl | rfl
    all_goals
      go_enter Tryd.func18, Tryd.ntmps18
      go_wp2_with (go_at_call 46; refine (rsizes_err r _ _ _ _ _ HE.out HNE.out _ (h.to (by (repeat (first | exact Below.refl _ _ | refine Below.setCell ?_ (by first | omega | (simp; omega) | (simp; done)) _ | refine Below.alloc ?_ (by first | omega | (simp; omega) | (simp; done)) _ | refine Below.drew ?_ | refine below_drewN ?_ _ | refine Below.trans ?_ (Below.mono (by assumption) (by first | omega | (simp; omega) | (simp; done)))))))).mono ?_; rintro e w1 ⟨rfl, hb1⟩; obtain ⟨⟨hc1, hf1, hs1⟩, hz1⟩ := after hb1; (try simp only [World.size_alloc, World.size_setCell, World.size_drew] at hz1))
      go_ret2
      refine ⟨rfl, ?_⟩
      (repeat (first | exact Below.refl _ _ | refine Below.setCell ?_ (by first | omega | (simp; omega) | (simp; done)) _ | refine Below.alloc ?_ (by first | omega | (simp; omega) | (simp; done)) _ | refine Below.drew ?_ | refine below_drewN ?_ _ | refine Below.trans ?_ (Below.mono (by assumption) (by first | omega | (simp; omega) | (simp; done)))))
  · have hs3 : sureErr r issue number a b = 4 ∧ sureV r issue number a b = 0 := by rw [hs1, hs2, e1]; simp
    rw [hs3.1, hs3.2]
    have HV := Lib.hid hv
    have HA := Lib.hid ha
    have HF := Lib.hid hf
    clear hv ha hf e1 e2 hs1 hs2 hs3
    go_enter Tryd.func18, Tryd.ntmps18
    go_wp2_with (go_at_call 46; refine (rsizes_none r _ _ _ _ HV.out HA.out HF.out _ (h.to (by (repeat (first | exact Below.refl _ _ | refine Below.setCell ?_ (by first | omega | (simp; omega) | (simp; done)) _ | refine Below.alloc ?_ (by first | omega | (simp; omega) | (simp; done)) _ | refine Below.drew ?_ | refine below_drewN ?_ _ | refine Below.trans ?_ (Below.mono (by assumption) (by first | omega | (simp; omega) | (simp; done)))))))).mono ?_; rintro e w1 ⟨rfl, hb1⟩; obtain ⟨⟨hc1, hf1, hs1⟩, hz1⟩ := after hb1; (try simp only [World.size_alloc, World.size_setCell, World.size_drew] at hz1))
    go_ret2
    refine ⟨rfl, ?_⟩
    (repeat (first | exact Below.refl _ _ | refine Below.setCell ?_ (by first | omega | (simp; omega) | (simp; done)) _ | refine Below.alloc ?_ (by first | omega | (simp; omega) | (simp; done)) _ | refine Below.drew ?_ | refine below_drewN ?_ _ | refine Below.trans ?_ (Below.mono (by assumption) (by first | omega | (simp; omega) | (simp; done)))))
  · have hs3 : sureErr r issue number a b = (if (firstO a b y.sizes).isSome then 0 else 4) ∧ sureV r issue number a b = ((firstO a b y.sizes).map Fit.size).getD 0 := by
      rw [hs1, hs2, e1, e2]
      obtain ⟨e3, e4⟩ := sizes_head (sureP a b) y.sizes
      rw [if_pos rfl, if_pos rfl, e3, e4]
      unfold firstO
      cases y.sizes.find? (sureP a b) <;> simp
    rw [hs3.1, hs3.2]
    obtain ⟨yok, -, hya⟩ := look_at hv ha hf
    have yl1 := yok.z2
    have hyw : EntryAt w w.heap.size y := hya w h
    have HV := Lib.hid hv
    have HA := Lib.hid ha
    have HF := Lib.hid hf
    clear hv ha hf e1 e2 hs1 hs2 hs3 yok hya
    obtain ⟨yn, yg, yc, yA, ycap, yl⟩ := y
    have hfw : FitsAt w w.heap.size yA ycap yl := hyw
    have yc1 := hfw.cap
    have yc2 := hfw.len
    simp only at yl1
    obtain ⟨se, hse⟩ : ∃ se : Int, se = (if (firstO a b yl).isSome then 0 else 4) := ⟨_, rfl⟩
    obtain ⟨sv, hsv⟩ : ∃ sv : Int, sv = ((firstO a b yl).map Fit.size).getD 0 := ⟨_, rfl⟩
    simp only
    rw [← hse, ← hsv]
    have HYES : Hid (∀ (k : Nat) (x : Fit), yl[k]? = some x → (∀ z ∈ yl.take k, sureP a b z = false) → sureP a b x = true → se = 0 ∧ sv = x.size) := fun k x hx hno hyes => by
      have : firstO a b yl = some x := by
        unfold firstO
        obtain ⟨hk, rfl⟩ := List.getElem?_eq_some_iff.1 hx
        rw [List.find?_eq_some_iff_getElem]
        exact ⟨hyes, k, hk, rfl, fun j hj => by
          have := hno yl[j] (by rw [List.mem_take_iff_getElem]; exact ⟨j, by omega, rfl⟩)
          simp [this]⟩
      rw [hse, hsv, this]
      simp
    have HNON : Hid ((∀ z ∈ yl, sureP a b z = false) → se = 4 ∧ sv = 0) := fun hno => by
      have : firstO a b yl = none := by
        unfold firstO
        rw [List.find?_eq_none]
        intro z hz
        simp [hno z hz]
      rw [hse, hsv, this]
      simp
    have RS : Hid (∀ W' : World, RackAt W' W'.heap.size r → Calls Tryd.prog 46 #[r.val, vi issue, vi number, .agg #[vi a, vi b]] W' fun e' w' => e' = .returned (.tuple #[.slice yA yl.length ycap, vi 0]) ∧ Below W'.heap.size W' w') := fun W' g => rsizes_some r _ _ _ _ _ HV.out HA.out HF.out W' g
    clear hse hsv
    go_enter Tryd.func18, Tryd.ntmps18
    go_wp2_with fail
    refine (RS.out _ (h.to (by (repeat (first | exact Below.refl _ _ | refine Below.setCell ?_ (by first | omega | (simp; omega) | (simp; done)) _ | refine Below.alloc ?_ (by first | omega | (simp; omega) | (simp; done)) _ | refine Below.drew ?_ | refine below_drewN ?_ _ | refine Below.trans ?_ (Below.mono (by assumption) (by first | omega | (simp; omega) | (simp; done)))))))).mono ?_
    rintro e W ⟨rfl, hb⟩
    have HB0 : Below w.heap.size w W := by (repeat (first | exact Below.refl _ _ | refine Below.setCell ?_ (by first | omega | (simp; omega) | (simp; done)) _ | refine Below.alloc ?_ (by first | omega | (simp; omega) | (simp; done)) _ | refine Below.drew ?_ | refine below_drewN ?_ _ | refine Below.trans ?_ (Below.mono (by assumption) (by first | omega | (simp; omega) | (simp; done)))))
    have f0 : W.cell? ⟨w.heap.size + 1, 0, none⟩ = some (vi a) := cell_keep hb (by simp [go_sem])
    have f1 : W.cell? ⟨w.heap.size + 1, 1, none⟩ = some (vi b) := cell_keep hb (by simp [go_sem])
    clear hb
    go_wp2_with fail
    go_loopw [12] (fun i wr => ∃ k : Nat, k ≤ yl.length ∧ i = .int .i64 k ∧ Below W.heap.size W wr ∧ Hid (∀ z ∈ yl.take k, sureP a b z = false)) (fun i _ => yl.length - (intOf i).toNat)
    case atStart => exact ⟨0, Nat.zero_le _, rfl, Below.refl _ _, by simp [Hid]⟩
    obtain ⟨k, hk, rfl, hB, hno⟩ := hrel
    have HBr : Below w.heap.size w wr := HB0.trans (hB.mono HB0.size)
    have f0r := cell_keep hB f0
    have f1r := cell_keep hB f1
    have zf : w.heap.size + 1 < wr.heap.size := cell_lt f0r
    by_cases hlt : k < yl.length
    · obtain ⟨x, hx⟩ : ∃ x, yl[k]? = some x := ⟨_, List.getElem?_eq_getElem hlt⟩
      obtain ⟨bb, off, rfl, hbb, x0, x1, x2, x3⟩ := row4 (hfw.to HBr).row hx rfl
      have zbb : bb < wr.heap.size := cell_lt x0
      have hkI : (k : Int) < yl.length := by omega
      have h0k : (0 : Int) ≤ k := by omega
      rcases hc : sureP a b x with _ | _
      · have hstep : ∀ z ∈ yl.take (k + 1), sureP a b z = false := by
          intro z hz
          rw [List.take_add_one, hx, List.mem_append] at hz
          rcases hz with hz | hz
          · exact hno.out z hz
          · simp at hz; subst hz; exact hc
        have HST := Lib.hid hstep
        have HC : Hid (coverB x.lo x.hi a b = false) := hc
        clear hx hc hstep hno
        obtain ⟨xs, xlo, xhi, xp⟩ := x
        simp only at x0 x1 x2 x3 HC
        go_wp2_with fail
        (refine wp_region_grow_lit (by kernel_rfl) (by kernel_rfl) ?_; (repeat (go_big_quiet_step ((go_at_call 49; refine Calls.grow_of (inner_is HC.out _))))); refine wpQuiet_nil ?_; intro w1 hw1; have hb1 := below_of_plus hw1; clear hw1; obtain ⟨⟨hc1, hf1, hs1⟩, hz1⟩ := after hb1; (try simp only [World.size_alloc, World.size_setCell, World.size_drew] at hz1))
        have hb9 : Below W.heap.size W w1 := gr_trans hB hb1
        go_wp2_with fail
        go_roundw
        case rel => exact ⟨k + 1, by omega, by go_num, hb9, HST⟩
        case measure => simp [intOf]; omega
      · have hyes := HYES.out k x hx hno.out hc
        have HYE := Lib.hid hyes
        have HC : Hid (coverB x.lo x.hi a b = true) := hc
        clear hx hc hyes hno
        obtain ⟨xs, xlo, xhi, xp⟩ := x
        simp only at x0 x1 x2 x3 HC HYE
        go_wp2_with fail
        (refine wp_region_grow_lit (by kernel_rfl) (by kernel_rfl) ?_; (repeat (go_big_quiet_step ((go_at_call 49; refine Calls.grow_of (inner_is HC.out _))))); refine wpQuiet_nil ?_; intro w1 hw1; have hb1 := below_of_plus hw1; clear hw1; obtain ⟨⟨hc1, hf1, hs1⟩, hz1⟩ := after hb1; (try simp only [World.size_alloc, World.size_setCell, World.size_drew] at hz1))
        have HB9 : Below w.heap.size w w1 := HBr.trans (hb1.mono HBr.size)
        have q0 := cell_keep hb1 x0
        have zq : bb < w1.heap.size := cell_lt q0
        clear hc1 hf1 hs1 x0 x1 x2 x3 hb1
        go_wp2_with fail
        go_ret2
        exact ⟨by rw [HYE.out.1, HYE.out.2]; rfl, HB9⟩
    · obtain rfl : k = yl.length := by omega
      have hnn := HNON.out (fun z hz => hno.out z (by rw [List.take_length]; exact hz))
      have HNN := Lib.hid hnn
      clear hnn hno
      go_wp2_with fail
      go_ret2
      exact ⟨by rw [HNN.out.1, HNN.out.2]; rfl, HBr⟩
end Go.Proofs.YtpcajmkmmkmekaaDoor
