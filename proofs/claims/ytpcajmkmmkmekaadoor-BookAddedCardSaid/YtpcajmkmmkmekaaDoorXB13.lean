/- Contract of lines: the lines that numbers choose. -/
import Derived.Test.YtpcajmkmmkmekaaDoorXK13
import Derived.Test.YtpcajmkmmkmekaaDoorXB11
import Derived.Laws.AppendOwn
set_option linter.unusedVariables false
set_option linter.unusedSimpArgs false
namespace Go.Proofs.YtpcajmkmmkmekaaDoor
open Go Go.RowKit
set_option maxHeartbeats 8000000
theorem info_line : (Tryd.prog.info? 79).map (fun i => (i.zero, i.size, i.bytes)) = some (some (.agg #[vi 0, vi 0, vi 0, vi 0]), 4, 32) := by kernel_rfl
set_option maxRecDepth 100000 in
theorem lines_any (r : Rack) (A : Option Addr) (cap : Nat) (bits : List Int) (w : World) (hr : RackAt w w.heap.size r) (hok : RackOk r) (hbits : IntsAt w w.heap.size A cap bits)
    (hrange : ∀ b ∈ bits, -9223372036854775808 ≤ b ∧ b ≤ 9223372036854775807) :
    Calls Tryd.prog 36 #[r.val, .slice A bits.length cap] w fun e w' => ∃ A' cap', e = .returned (.slice A' (linesF r bits).length cap') ∧ (linesF r bits).length ≤ cap' ∧ cap' ≤ 9223372036854775807 ∧ RowAt w' w'.heap.size 4 A' ((linesF r bits).map Line.cells) ∧ Below w.heap.size w w' := by
  obtain ⟨i0, hi, hy0, hy1, hy2⟩ := info_parts info_line
  have bc1 := hbits.cap
  have bc2 := hbits.len
  obtain ⟨m, hm⟩ : ∃ m, m = linesN bits := ⟨_, rfl⟩
  have hm20 : m ≤ 20 := by rw [hm]; unfold linesN; omega
  have hm5 : 5 * m ≤ bits.length := by rw [hm]; unfold linesN; omega
  have hml : m < 20 → bits.length < 5 * (m + 1) := by rw [hm]; unfold linesN; omega
  have SA := Lib.hid (fun (n0 n1 n2 n3 : Int) (W : World) g a0 a1 b0 b1 d0 d1 e0 e1 => some_any r n0 n1 n2 n3 W g hok a0 a1 b0 b1 d0 d1 e0 e1)
  have HR := Lib.hid hrange
  have hLF : linesF r bits = (List.range m).map (lineAt r bits) := by rw [hm]; rfl
  have HLF := Lib.hid hLF
  clear hm hLF hrange hok
  obtain ⟨rg, rA, rcap, ri⟩ := r
  have hri : IssuesAt w w.heap.size rA rcap ri := hr
  show Calls Tryd.prog 36 #[.agg #[vi rg, .slice rA ri.length rcap], .slice A bits.length cap] w _
  go_enter Tryd.func36, Tryd.ntmps36
  go_wp2_with fail
  obtain ⟨W, hW⟩ : ∃ W, W = w.alloc (.cells #[vi rg, .slice rA ri.length rcap] 24) := ⟨_, rfl⟩
  have HB0 : Below w.heap.size w W := by rw [hW]; exact (Below.refl _ _).alloc (Nat.le_refl _) _
  have c0 : W.cell? ⟨w.heap.size, 0, none⟩ = some (vi rg) := by rw [hW]; simp [go_sem]
  have c1 : W.cell? ⟨w.heap.size, 1, none⟩ = some (.slice rA ri.length rcap) := by rw [hW]; simp [go_sem]
  have zW : W.heap.size = w.heap.size + 1 := by rw [hW]; simp
  rw [← hW]
  clear hW
  go_loopw [5, 6] (fun v i wr => ∃ c d : Nat, c ≤ m ∧ i = .int .i64 (d : Nat) ∧ Hid (d = 5 * c) ∧ Below W.heap.size W wr ∧ wr.ownsRow W.heap.size 79 4 v c (((List.range c).map (lineAt ⟨rg, rA, rcap, ri⟩ bits)).map Line.cells).flatten) (fun _ i _ => (5 * m - (intOf i).toNat))
  case atStart => exact ⟨0, 0, Nat.zero_le _, rfl, rfl, Below.refl _ _, by simpa using World.ownsRow_nil _ _ _ _⟩
  obtain ⟨c, d, hc, rfl, HD, hB, hown⟩ := hrel
  obtain ⟨oA, oc, hv, ho1, ho2⟩ := own_form hown
  have hBs := hB.size
  have HBr : Below w.heap.size w wr := HB0.trans (hB.mono HB0.size)
  have c0r := cell_keep hB c0
  have c1r := cell_keep hB c1
  by_cases hlt : c < m
  · have hbit : ∀ t : Nat, t < 5 → bits[5 * c + t]? = some (bitAt bits (5 * c + t)) := fun t ht => bit_some (by omega)
    have hrg : ∀ t : Nat, t < 5 → -9223372036854775808 ≤ bitAt bits (5 * c + t) ∧ bitAt bits (5 * c + t) ≤ 9223372036854775807 := fun t ht => HR.out _ (List.mem_of_getElem? (hbit t ht))
    have hbr := hbits.to HBr
    obtain ⟨bb, boff, rfl, hbb, x0w⟩ := hbits.at_ (hbit 0 (by omega))
    have x0 := cell_keep HBr x0w
    clear x0w
    have key : ∀ t : Nat, t < 5 → wr.cell? ⟨bb, boff + (5 * c + t), none⟩ = some (vi (bitAt bits (5 * c + t))) := fun t ht => by
      obtain ⟨b', o', e, _, h⟩ := hbr.at_ (hbit t ht)
      cases e
      exact h
    have r0 := hrg 0 (by omega)
    have r1 := hrg 1 (by omega)
    have r2 := hrg 2 (by omega)
    have r3 := hrg 3 (by omega)
    have r4 := hrg 4 (by omega)
    have x1 := key 1 (by omega)
    have x2 := key 2 (by omega)
    have x3 := key 3 (by omega)
    have x4 := key 4 (by omega)
    have hla : lineAt ⟨rg, rA, rcap, ri⟩ bits c = ⟨someT ⟨rg, rA, rcap, ri⟩ (bitAt bits (5 * c)) (bitAt bits (5 * c + 1)) (bitAt bits (5 * c + 2)) (bitAt bits (5 * c + 3)), 1 + spinI (bitAt bits (5 * c + 4)) 40⟩ := rfl
    rw [Nat.add_zero] at x0 r0
    generalize hq0 : bitAt bits (5 * c) = p0 at x0 r0 hla
    generalize hq1 : bitAt bits (5 * c + 1) = p1 at x1 r1 hla
    generalize hq2 : bitAt bits (5 * c + 2) = p2 at x2 r2 hla
    generalize hq3 : bitAt bits (5 * c + 3) = p3 at x3 r3 hla
    generalize hq4 : bitAt bits (5 * c + 4) = p4 at x4 r4 hla
    have SX := Lib.hid (fun (W' : World) g => SA.out p0 p1 p2 p3 W' g r0.1 r0.2 r1.1 r1.2 r2.1 r2.2 r3.1 r3.2)
    have hla2 := Lib.hid hla
    clear hq0 hq1 hq2 hq3 hq4 hbit hrg key hla
    obtain ⟨IT, hIT⟩ : ∃ IT, IT = someT ⟨rg, rA, rcap, ri⟩ p0 p1 p2 p3 := ⟨_, rfl⟩
    obtain ⟨sI, hsI⟩ : ∃ sI, sI = someI ⟨rg, rA, rcap, ri⟩ p0 := ⟨_, rfl⟩
    rw [← hIT, ← hsI] at SX
    rw [← hIT] at hla2
    clear hIT hsI
    obtain ⟨ig, is, ic⟩ := IT
    have hd : 5 * c = d := HD.out.symm
    rw [hd] at x0 x1 x2 x3 x4
    have hdI : (d : Int) + 4 < bits.length := by omega
    have hd0 : (0 : Int) ≤ d := by omega
    have hcI : (c : Int) < 20 := by omega
    have blI : (bits.length : Int) ≤ 17592186044416 := by omega
    have zr0 : w.heap.size < wr.heap.size := cell_lt c0r
    have zbb : bb < wr.heap.size := by omega
    subst hv
    go_upto_region 5 with fail
    have hdn : ∀ t : Nat, ((d : Int) + t).toNat = d + t := fun t => by omega
    refine' wp_region_box (fun w' => Below wr.heap.size wr w') (stays_below _) [0, 1, 2, 3, 4, 5, 6, 7, 8, 9, 10, 11, 12, 13, 14, 15, 16, 17, 18, 19, 20, 21, 22, 23, 24] 3 59 (by kernel_rfl) (by kernel_rfl) rfl (by kernel_rfl) (by kernel_rfl) rfl (by kernel_rfl) ?hl5 (Below.refl _ _) ?hq5 ?hr5
    case hl5 =>
      simp only [List.map_cons, List.map_nil, List.getD_cons_zero, List.getD_cons_succ]
      exact rfl
    case hq5 =>
      intro w0 hw0
      have zw0 := hw0.size
      have u0 := cell_keep hw0 c0r
      have u1 := cell_keep hw0 c1r
      have y0 := cell_keep hw0 x0
      have y1 := cell_keep hw0 x1
      have y2 := cell_keep hw0 x2
      have y3 := cell_keep hw0 x3
      have v1 : w.heap.size < w0.heap.size := by omega
      have v2 : bb < w0.heap.size := by omega
      (repeat (go_big_quiet_step ((go_at_call 29; refine Calls.grow_of (SX.out _ (hr.to (HBr.trans ((gr_trans hw0 (plus_below w0 _)).mono HBr.size))))))))
      exact wpQuiet_nil rfl
    refine wpUp_one (i := 25) (by kernel_rfl) rfl rfl (fun w1 h1 h2 K hK => ?_)
    go_simp
    refine hK _ _ (h2.alloc h2.size _) ?_
    refine wpUp_one (i := 26) (by kernel_rfl) rfl rfl (fun w2 h3 h4 K2 hK2 => ?_)
    have F0 : w2.frozen? ⟨w1.heap.size, 0, none⟩ = false := soft_keep h3 (by simp) (by simp [go_sem])
    have F1 : w2.frozen? ⟨w1.heap.size, 1, none⟩ = false := soft_keep h3 (by simp) (by simp [go_sem])
    have F2 : w2.frozen? ⟨w1.heap.size, 2, none⟩ = false := soft_keep h3 (by simp) (by simp [go_sem])
    have k0 : w2.cell? ⟨w1.heap.size, 0, none⟩ = some (vi 0) := cell_keep h3 (by simp [go_sem])
    have k1 : w2.cell? ⟨w1.heap.size, 1, none⟩ = some (vi 0) := cell_keep h3 (by simp [go_sem])
    have k2 : w2.cell? ⟨w1.heap.size, 2, none⟩ = some (vi 0) := cell_keep h3 (by simp [go_sem])
    go_simp
    have hw1 := h1.size
    refine hK2 _ _ (set3_below h4 (by omega) _ _ _) ?_
    obtain ⟨Y, hY⟩ : ∃ Y, Y = (((w2.setCell ⟨w1.heap.size, 0, none⟩ (vi ig)).setCell ⟨w1.heap.size, 1, none⟩ (vi is)).setCell ⟨w1.heap.size, 2, none⟩ (vi ic)) := ⟨_, rfl⟩
    have Y0 : Y.cell? ⟨w1.heap.size, 0, none⟩ = some (vi ig) := by rw [hY]; simp [go_sem, k0, k1, k2]
    have Y1 : Y.cell? ⟨w1.heap.size, 1, none⟩ = some (vi is) := by rw [hY]; simp [go_sem, k0, k1, k2]
    have Y2 : Y.cell? ⟨w1.heap.size, 2, none⟩ = some (vi ic) := by rw [hY]; simp [go_sem, k0, k1, k2]
    have HBY : Below wr.heap.size wr Y := by rw [hY]; exact set3_below h4 (by omega) _ _ _
    rw [← hY]
    clear hY F0 F1 F2 k0 k1 k2 h4 h3
    refine wpUp_one (i := 27) (by kernel_rfl) rfl rfl (fun w3 h5 h6 K3 hK3 => ?_)
    go_simp
    refine hK3 _ _ h6 (wpUp_done (by kernel_rfl) (fun W4 h7 h8 => NoPanic.normal ?_))
    have hY4 := gr_trans h5 h7
    have Z0 := cell_keep hY4 Y0
    have Z1 := cell_keep hY4 Y1
    have Z2 := cell_keep hY4 Y2
    have hown4 := own_keep hown h8
    have X4 := cell_keep h8 x4
    obtain ⟨ib, hib⟩ : ∃ ib, ib = w1.heap.size := ⟨_, rfl⟩
    have hib2 : wr.heap.size ≤ ib := by omega
    rw [← hib] at Z0 Z1 Z2 ⊢
    have zib : ib < W4.heap.size := cell_lt Z0
    have hz4 := h8.size
    clear hib hY4 Y0 Y1 Y2 HBY h1 h2 h5 h6 h7 hK hK2 hK3 K K2 K3 hw1 w3 Y w2 w1 x0 x1 x2 x3 x4 c0r c1r SX
    go_upto_region 6 with fail
    have q1 := spin_range p4 40 (by omega)
    have hst : Stays (fun w' => Below W.heap.size W4 w' ∧ w'.cell? ⟨ib, 0, none⟩ = some (vi ig) ∧ w'.cell? ⟨ib, 1, none⟩ = some (vi is) ∧ w'.cell? ⟨ib, 2, none⟩ = some (vi ic)) := fun x y hx hxy =>
      ⟨hx.1.trans (hxy.mono (by have := hx.1.size; omega)), cell_keep hxy hx.2.1, cell_keep hxy hx.2.2.1, cell_keep hxy hx.2.2.2⟩
    refine' wp_region_box (fun w' => Below W.heap.size W4 w' ∧ w'.cell? ⟨ib, 0, none⟩ = some (vi ig) ∧ w'.cell? ⟨ib, 1, none⟩ = some (vi is) ∧ w'.cell? ⟨ib, 2, none⟩ = some (vi ic)) hst [0, 1, 2, 3, 4, 5, 6, 7, 8, 9] 3 59 (by kernel_rfl) (by kernel_rfl) rfl (by kernel_rfl) (by kernel_rfl) rfl (by kernel_rfl) ?hl6 ⟨Below.refl _ _, Z0, Z1, Z2⟩ ?hq6 ?hr6
    case hl6 =>
      simp only [List.map_cons, List.map_nil, List.getD_cons_zero, List.getD_cons_succ]
      exact rfl
    case hq6 =>
      rintro w0 ⟨hw0, u0, u1, u2⟩
      have zw0 := hw0.size
      have u4 : w0.cell? ⟨bb, boff + (d + 4), none⟩ = some (vi p4) := (hw0.cell (by simp only; omega)).trans X4
      have v1 : ib < w0.heap.size := by omega
      have v2 : bb < w0.heap.size := by omega
      (repeat (go_big_quiet_step ((go_at_call 21; refine Calls.grow_same (spin_any p4 40 _ (by omega) (by omega) (by omega))))))
      exact wpQuiet_nil rfl
    refine wpUp_one (i := 10) (by kernel_rfl) rfl rfl (fun w5 h1 h2 K hK => ?_)
    go_simp
    obtain ⟨V, hV⟩ : ∃ V, V = w5.alloc (.cells #[vi ig, vi is, vi ic, vi (1 + spinI p4 40)] 79) := ⟨_, rfl⟩
    have hbV : Below w5.heap.size w5 V := by rw [hV]; exact (Below.refl _ _).alloc (Nat.le_refl _) _
    have N0 : V.cell? ⟨w5.heap.size, 0, none⟩ = some (vi ig) := by rw [hV]; simp [go_sem]
    have N1 : V.cell? ⟨w5.heap.size, 1, none⟩ = some (vi is) := by rw [hV]; simp [go_sem]
    have N2 : V.cell? ⟨w5.heap.size, 2, none⟩ = some (vi ic) := by rw [hV]; simp [go_sem]
    have N3 : V.cell? ⟨w5.heap.size, 3, none⟩ = some (vi (1 + spinI p4 40)) := by rw [hV]; simp [go_sem]
    rw [← hV]
    clear hV
    refine hK _ _ (hst _ _ h2 hbV) ?_
    refine wpUp_one (i := 11) (by kernel_rfl) rfl rfl (fun w7 h3 h4 K2 hK2 => ?_)
    have h47 := gr_trans (gr_trans h1 hbV) h3
    have hown7 := own_keep hown4 h47
    have z7 := h47.size
    have zw57 : W.heap.size ≤ w7.heap.size := by omega
    have hnews : ∀ (j : Nat) (u : Value), [vi ig, vi is, vi ic, vi (1 + spinI p4 40)][j]? = some u → w7.cell? ((⟨w5.heap.size, 0, none⟩ : Addr).add j) = some u := by
      intro j u hj
      rcases j with _ | _ | _ | _ | j
      · simp at hj; subst hj; exact cell_keep h3 N0
      · simp at hj; subst hj; exact cell_keep h3 N1
      · simp at hj; subst hj; exact cell_keep h3 N2
      · simp at hj; subst hj; exact cell_keep h3 N3
      · simp at hj
    have hblk : ∀ j, (Value.slice oA c oc).ownBlock = some j → W.heap.size ≤ j ∧ j < wr.heap.size := by
      intro j hj
      rcases hown.2 with ⟨e, _⟩ | ⟨g, cap', cur, e, e1, e2, _⟩
      · rw [e] at hj; simp [Value.ownBlock] at hj
      · rw [e] at hj
        simp [Value.ownBlock] at hj
        subst hj
        exact ⟨e1, (Array.getElem?_eq_some_iff.1 e2).1⟩
    refine wp_append_own _ _ _ _ (by rfl) W.heap.size 79 i0 _ 4 32 Tryd.underlying75 hi hy0 hy1 hy2 rfl (by omega) (.slice oA c oc) c _ (by rfl) hown7 ⟨w5.heap.size, 0, none⟩ 1 1 [vi ig, vi is, vi ic, vi (1 + spinI p4 40)] (by rfl) (by rfl) hnews (by simp [Value.oneCell']) (by unfold maxLen; omega) (by omega) zw57 ?_
    intro v' w8 hown8 hgrow hnil
    simp only [Act.put, List.setIfInBounds_toArray, List.set_cons_zero, List.set_cons_succ]
    have far : ∀ o : Nat, w8.cell? ⟨ib, o, none⟩ = w7.cell? ⟨ib, o, none⟩ := fun o => hgrow.cell_far _ (by simp only; omega) (by
      intro he
      have := hblk ib he.symm
      omega)
    refine hK2 _ _ ⟨Below.grown h4.1 hgrow zw57 (fun j e => (hblk j e).1), (far 0).trans h4.2.1, (far 1).trans h4.2.2.1, (far 2).trans h4.2.2.2⟩ ?_
    refine wpUp_one (i := 12) (by kernel_rfl) rfl rfl (fun w9 h5 h6 K3 hK3 => ?_)
    go_simp
    refine hK3 _ _ h6 (wpUp_done (by kernel_rfl) (fun w10 h7 h8' => NoPanic.normal ?_))
    have hown10 := own_keep hown8 (gr_trans h5 h7)
    have hB10 : Below W.heap.size W w10 := hB.trans ((h8.mono hBs).trans h8'.1)
    have OWN : Hid (w10.ownsRow W.heap.size 79 4 v' (c + 1) (((List.range (c + 1)).map (lineAt ⟨rg, rA, rcap, ri⟩ bits)).map Line.cells).flatten) := by
      unfold Hid
      rw [List.range_succ, List.map_append, List.map_append, List.flatten_append]
      simpa [hla2.out, Line.cells] using hown10
    clear hown10 hown8 hown7 hown4 hown hgrow far hK hK2 hK3 h1 h2 h3 h4 h5 h6 h7 h8' hnews
    go_wp2_with fail
    go_roundw
    case rel => exact ⟨c + 1, d + 5, by omega, by go_num, by unfold Hid; omega, hB10, OWN.out⟩
    case measure => simp [intOf]; omega
  · obtain rfl : c = m := by omega
    have hlen : (linesF ⟨rg, rA, rcap, ri⟩ bits).length = c := by rw [HLF.out]; simp
    have hrow : RowAt wr wr.heap.size 4 oA ((linesF ⟨rg, rA, rcap, ri⟩ bits).map Line.cells) := by
      rw [HLF.out]
      rcases hown.2 with ⟨e, h0⟩ | ⟨g, cap', cur, e, _⟩
      · subst h0
        exact fun hl => absurd hl (by simp)
      · rw [e] at hv hown
        cases hv
        exact row_of_own (by intro r hr; obtain ⟨p, _, rfl⟩ := List.mem_map.1 hr; rfl) hown
    have hd := HD.out
    have hmx : oc ≤ 9223372036854775807 := by have : maxLen = 9223372036854775807 := by decide
                                              omega
    subst hv
    have hdx : (d : Int) ≤ 100 := by omega
    have hdy : (0 : Int) ≤ d := by omega
    by_cases h1 : (d : Int) + 4 < bits.length
    · have hc20 : c = 20 := by omega
      have hq : decide ((c : Int) < 20) = false := by simp; omega
      clear HLF hd hown hc20
      go_wp2_with fail
      go_ret
      exact ⟨oA, oc, by first | rfl | (rw [hlen]; rfl), by first | exact ho1 | (rw [hlen]; exact ho1), hmx, hrow, HBr⟩
    · have hq : decide ((d : Int) + 4 < bits.length) = false := by simpa using h1
      clear HLF hd hown
      go_wp2_with fail
      go_ret
      exact ⟨oA, oc, by first | rfl | (rw [hlen]; rfl), by first | exact ho1 | (rw [hlen]; exact ho1), hmx, hrow, HBr⟩
end Go.Proofs.YtpcajmkmmkmekaaDoor
