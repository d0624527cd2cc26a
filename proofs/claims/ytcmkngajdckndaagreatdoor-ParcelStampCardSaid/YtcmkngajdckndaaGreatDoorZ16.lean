/- What the functions of package parcel answer, for any book, and why the law's comparison holds; how a book of a world reads. Conditions: none. -/
import Derived.Test.YtcmkngajdckndaaGreatDoorZ15
set_option linter.unusedVariables false
set_option linter.unusedSimpArgs false
namespace Go.Proofs.YtcmkngajdckndaaGreatDoor
open Go Go.Proofs Go.Lm
set_option maxRecDepth 10000
set_option maxHeartbeats 64000000
theorem loop11a {ih : Rec} {b : Bk} {zs : List Int} {n c : Int} {z : Z} {vs : Vs} {h : Hp} {nx p3 : Nat} {v : Value} (hF : b.Fine) (hb : b.At h nx) (hl : zs.length = b.S.length) (hB : ∀ x, x ∈ zs → 0 ≤ x) (hn : 0 ≤ n ∧ n ≤ 1000000000)
    (hless : ∀ i (hi : i < zs.length) (hiV : i < b.S.length), 0 < zs[i] → n - b.S[i] < c) (hv : Lst h nx 1 v (ints zs)) (hp3 : rowL h p3 = some b.cells)
    (g3 : vs 3 = some (pt p3)) (g7 : vs 7 = some (vi c)) (g8 : vs 8 = some v) (g10 : vs 10 = some (vi n)) (g13 : vs 13 = some (vi 0)) {r : R} (hr : loopR (sC Tryz.prog 177 177 ih l11_0) z vs h nx = r) :
    ∃ vs', r = .exi 0 z vs' h nx ∧ vs' 2 = vs 2 ∧ vs' 3 = vs 3 ∧ vs' 7 = vs 7 ∧ vs' 8 = vs 8 ∧ vs' 10 = vs 10 ∧ vs' 11 = vs 11 := by
  subst hr
  obtain ⟨V1, V2⟩ := fine_v hF
  have hs5 := hF.s5
  refine loop_rule (Post := fun r => ∃ vs', r = .exi 0 z vs' h nx ∧ vs' 2 = vs 2 ∧ vs' 3 = vs 3 ∧ vs' 7 = vs 7 ∧ vs' 8 = vs 8 ∧ vs' 10 = vs 10 ∧ vs' 11 = vs 11)
    (fun i z' vs' h' nx' => i ≤ zs.length ∧ z' = z ∧ nx' = nx ∧ h' = h ∧ vs' 2 = vs 2 ∧ vs' 3 = vs 3 ∧ vs' 7 = vs 7 ∧ vs' 8 = vs 8 ∧ vs' 10 = vs 10 ∧ vs' 11 = vs 11 ∧ vs' 13 = some (vi (i : Int))) zs.length (by omega)
    ⟨Nat.zero_le _, rfl, rfl, rfl, rfl, rfl, rfl, rfl, rfl, rfl, g13⟩ ?_
  rintro i z' vs' h' nx' ⟨hi, rfl, rfl, rfl, e2, e3, e7, e8, e10, e11, e13⟩
  have f3 := e3.trans g3
  have f7 := e7.trans g7
  have f8 := e8.trans g8
  have f10 := e10.trans g10
  obtain ⟨va, vc, hvf, _⟩ := hv.form
  rw [ints_len] at hvf
  rw [hvf] at f8
  by_cases hlt : i < zs.length
  · left
    have h1 : ((i : Int) < (zs.length : Int)) := by omega
    obtain ⟨rr, o, cs, cc, hv2, hcs, hrn, hel⟩ := int_at hv hlt
    rw [hvf] at hv2
    cases hv2
    have hlt2 : i < b.S.length := by omega
    obtain ⟨r1, o1, cs1, c1, hsv, hcs1, hrn1, hel1⟩ := int_at hb.s hlt2
    have x6 : part1 false 1 b.cells 6 = some b.sv := rfl
    rw [hsv] at x6
    have h2 : ((i : Int) < (b.S.length : Int)) := by omega
    have v1 := V1 _ (List.getElem_mem hlt2)
    have v2 := V2 _ (List.getElem_mem hlt2)
    have hle := hless i hlt hlt2
    have ha := hB _ (List.getElem_mem hlt)
    generalize zs[i] = x at *
    generalize b.S[i] = y at *
    by_cases hx : 0 < x
    · have hq := hle hx
      have hq2 : ¬ c ≤ n - y := by omega
      refine ⟨hlt, z', _, _, _, (by simp (maxSteps := 10000000) (implicitDefEqProofs := false) (disch := omega) only [l11_0, f3, f7, f8, f10, e13, h1, h2, hcs, hel, hp3, x6, hcs1, hel1, hx, hq2, gt_iff_lt, ge_iff_le, g_un, gq_un, hb_21, hb_31, plS_24_0_, plS_24_2_0_1, bz, put_none2, Nat.reduceEqDiff, Nat.reduceLT, Nat.reduceAdd]; exact rfl), by omega, rfl, rfl, rfl, ?_, ?_, ?_, ?_, ?_, ?_, ?_⟩
      all_goals first
        | (simp only [pq, Nat.reduceEqDiff, e2, e3, e7, e8, e10, e11]; done)
        | (simp only [pq, Nat.reduceEqDiff]; rfl)
    · refine ⟨hlt, z', _, _, _, (by simp (maxSteps := 10000000) (implicitDefEqProofs := false) (disch := omega) only [l11_0, f3, f7, f8, f10, e13, h1, h2, hcs, hel, hp3, x6, hcs1, hel1, hx, gt_iff_lt, ge_iff_le, g_un, gq_un, hb_21, hb_31, plS_24_0_, plS_24_2_0_1, bz, put_none2, Nat.reduceEqDiff, Nat.reduceLT, Nat.reduceAdd]; exact rfl), by omega, rfl, rfl, rfl, ?_, ?_, ?_, ?_, ?_, ?_, ?_⟩
      all_goals first
        | (simp only [pq, Nat.reduceEqDiff, e2, e3, e7, e8, e10, e11]; done)
        | (simp only [pq, Nat.reduceEqDiff]; rfl)
  · right
    have h1 : ¬ ((i : Int) < (zs.length : Int)) := by omega
    have e : ∃ vs2, sC Tryz.prog 177 177 ih l11_0 z' vs' h' nx' = .exi 0 z' vs2 h' nx' ∧ vs2 2 = vs' 2 ∧ vs2 3 = vs' 3 ∧ vs2 7 = vs' 7 ∧ vs2 8 = vs' 8 ∧ vs2 10 = vs' 10 ∧ vs2 11 = vs' 11 := by
      refine ⟨_, by simp (maxSteps := 10000000) (implicitDefEqProofs := false) (disch := omega) only [l11_0, f8, e13, h1, hb_21, hb_31, plS_24_0_, plS_24_2_0_1, bz, put_none2, Nat.reduceEqDiff, Nat.reduceLT, Nat.reduceAdd]; exact rfl, ?_, ?_, ?_, ?_, ?_, ?_⟩ <;>
      simp only [pg, Nat.reduceEqDiff]
    obtain ⟨vs2, e, q2, q3, q7, q8, q10, q11⟩ := e
    rw [e]
    exact ⟨trivial, vs2, rfl, q2.trans e2, q3.trans e3, q7.trans e7, q8.trans e8, q10.trans e10, q11.trans e11⟩
structure Oth (V : List Int) (c : Int) (o : List Int) (lf : Int) : Prop where
  len : o.length ≤ V.length
  pos : ∀ x, x ∈ o → 0 ≤ x
  lo : 0 ≤ lf
  hi : lf ≤ c
  enough : c ≤ dotS (V.take o.length) o + lf
  few : ∀ i (hi : i < o.length) (hV : i < V.length), o[i] * V[i] + lf ≤ c + V[i]
  first : ∀ (h : 0 < o.length), o[0] = 0
theorem oth_zero {V : List Int} {c : Int} (hc : 0 ≤ c) : Oth V c [] c := ⟨by simp, fun x hx => by simp at hx, hc, Int.le_refl _, by simp [dotS], fun i hi => by simp at hi, fun h => by simp at h⟩
theorem oth_add {V o : List Int} {c lf k : Int} (h : Oth V c o lf) (hl : o.length < V.length) (hv : ∀ v, v ∈ V → 1 ≤ v) (hk : 0 ≤ k) (hk2 : k * V[o.length] ≤ lf + V[o.length]) (hf : o.length = 0 → k = 0) : Oth V c (o ++ [k]) (max 0 (lf - k * V[o.length])) := by
  have hd := dot_app (o := o) (k := k) hl
  have hv1 := hv _ (List.getElem_mem hl)
  have hm := Int.mul_nonneg hk (show 0 ≤ V[o.length] by omega)
  have hlo := h.lo
  have hhi := h.hi
  have hen := h.enough
  have hlen : (o ++ [k]).length = o.length + 1 := by simp
  refine ⟨by rw [hlen]; omega, fun x hx => ?_, by omega, by omega, by rw [hlen, hd]; omega, fun i hi hV => ?_, fun h0 => ?_⟩
  · rcases List.mem_append.1 hx with q | q
    · exact h.pos x q
    · simp at q; omega
  · by_cases q : i < o.length
    · have := h.few i q hV
      rw [List.getElem_append_left q]
      omega
    · have e : i = o.length := by rw [hlen] at hi; omega
      subst e
      have e2 : (o ++ [k])[o.length] = k := by simp
      rw [e2]; omega
  · by_cases q : 0 < o.length
    · rw [List.getElem_append_left q]; exact h.first q
    · have e : o = [] := List.eq_nil_of_length_eq_zero (by omega)
      subst e
      exact hf rfl
theorem loop11b {S : Kn} (hS : S.Only [22]) {m : Nat} (hm : 3 ≤ m) {b : Bk} {bits : List Int} {c : Int} {z : Z} {vs : Vs} {h : Hp} {nx p3 : Nat} {v2 : Value} (hF : b.Fine) (hb0 : b.At h z.n0) (hz : z.n0 ≤ nx) (hbl : bits.length ≤ 140737488355328) (hv : Lst h z.n0 1 v2 (ints bits)) (hp3 : rowL h p3 = some b.cells) (hpn : p3 < nx) (hc : 0 ≤ c) (hc2 : c ≤ 20000)
    (g2 : vs 2 = some v2) (g3 : vs 3 = some (pt p3)) (g14 : vs 14 = some (vi c)) (g15 : vs 15 = some (.slice none 0 0)) (g16 : vs 16 = some (vi 0)) {r : R} (hr : loopR (sC Tryz.prog 177 177 (execL Tryz.prog vmL S m) l11_1) z vs h nx = r) :
    ∃ vs' h' nx' u o lf, r = .exi 2 z vs' h' nx' ∧ nx ≤ nx' ∧ Same nx h h' ∧ Oth b.S c o lf ∧ o.length = b.S.length ∧ vs' 14 = some (vi lf) ∧ vs' 15 = some u ∧ OwnL h' nx nx' 1 u (lotV o) ∧ vs' 2 = vs 2 ∧ vs' 3 = vs 3 ∧ vs' 7 = vs 7 ∧ vs' 8 = vs 8 ∧ vs' 10 = vs 10 ∧ vs' 11 = vs 11 := by
  subst hr
  obtain ⟨V1, V2⟩ := fine_v hF
  have hs5 := hF.s5
  refine loop_rule (Post := fun r => ∃ vs' h' nx' u o lf, r = .exi 2 z vs' h' nx' ∧ nx ≤ nx' ∧ Same nx h h' ∧ Oth b.S c o lf ∧ o.length = b.S.length ∧ vs' 14 = some (vi lf) ∧ vs' 15 = some u ∧ OwnL h' nx nx' 1 u (lotV o) ∧ vs' 2 = vs 2 ∧ vs' 3 = vs 3 ∧ vs' 7 = vs 7 ∧ vs' 8 = vs 8 ∧ vs' 10 = vs 10 ∧ vs' 11 = vs 11)
    (fun i z' vs' h' nx' => i ≤ b.S.length ∧ z' = z ∧ nx ≤ nx' ∧ Same nx h h' ∧ vs' 2 = vs 2 ∧ vs' 3 = vs 3 ∧ vs' 7 = vs 7 ∧ vs' 8 = vs 8 ∧ vs' 10 = vs 10 ∧ vs' 11 = vs 11 ∧ vs' 16 = some (vi (i : Int)) ∧ ∃ u o lf, Oth b.S c o lf ∧ o.length = i ∧ vs' 14 = some (vi lf) ∧ vs' 15 = some u ∧ OwnL h' nx nx' 1 u (lotV o)) b.S.length (by omega)
    ⟨Nat.zero_le _, rfl, Nat.le_refl _, Same.refl _ _, rfl, rfl, rfl, rfl, rfl, rfl, g16, _, [], c, oth_zero hc, rfl, g14, g15, .nil⟩ ?_
  rintro i z' vs' h' nx' ⟨hi, rfl, hn, hs, e2, e3, e7, e8, e10, e11, e16, u, o, lf, ho, hol, e14, e15, hu⟩
  have f2 := e2.trans g2
  have f3 := e3.trans g3
  have hrow : rowL h' p3 = some b.cells := by rw [rowL_same hs hpn]; exact hp3
  have x6 : part1 false 1 b.cells 6 = some b.sv := rfl
  obtain ⟨sa, sc, hsvf, _⟩ := hb0.s.form
  rw [ints_len] at hsvf
  by_cases hlt : i < b.S.length
  · left
    have h1 : ((i : Int) < (b.S.length : Int)) := by omega
    have hbn := hb0.same (hs.mono hz) (nx' := z'.n0) (Nat.le_refl _)
    obtain ⟨r1, o1, cs1, c1, hsv, hcs1, hrn1, hel1⟩ := int_at hbn.s hlt
    rw [hsv] at x6
    have hx1 := V1 _ (List.getElem_mem hlt)
    have hx2 := V2 _ (List.getElem_mem hlt)
    have hlo := ho.lo
    have hhi := ho.hi
    obtain ⟨x, hx⟩ : ∃ x, x = b.S[i] := ⟨_, rfl⟩
    rw [← hx] at hel1 hx1 hx2
    have body : ∃ k, 0 ≤ k ∧ k * x ≤ lf + x ∧ (i = 0 → k = 0) ∧ ∃ vs3 h3 nx3 u3, sC Tryz.prog 177 177 (execL Tryz.prog vmL S m) l11_1 z' vs' h' nx' = .nor z' vs3 h3 nx3 ∧ nx ≤ nx3 ∧ Same nx h h3 ∧ vs3 2 = vs 2 ∧ vs3 3 = vs 3 ∧ vs3 7 = vs 7 ∧ vs3 8 = vs 8 ∧ vs3 10 = vs 10 ∧ vs3 11 = vs 11 ∧ vs3 16 = some (vi ((i + 1 : Nat) : Int)) ∧ vs3 14 = some (vi (max 0 (lf - k * x))) ∧ vs3 15 = some u3 ∧ OwnL h3 nx nx3 1 u3 (lotV (o ++ [k])) := by
      have app : ∀ k : Int, ∃ v' h2 M, appO (hset h' nx' (.cells [vi k] none)) (nx' + 1) (some 1) (some u) (some (.slice (some ⟨nx', 0, none⟩) 1 1)) = .gen v' h2 (nx' + 1 + 1) M ∧ logZ z' M = z' ∧ OwnL h2 nx (nx' + 1 + 1) 1 v' (lotV (o ++ [k])) ∧ Same nx h h2 ∧ rowL h2 r1 = some cs1 ∧ rowL h2 p3 = some b.cells := fun k => by
        have hsH : Same nx' h' (hset h' nx' (.cells [vi k] none)) := (Same.refl nx' h').set (Nat.le_refl _) _
        have evH : OwnL (hset h' nx' (.cells [vi k] none)) nx (nx' + 1) 1 u (lotV o) := hu.same (by omega) fun r len hv => by
          rcases hu.is with ⟨_, q⟩ | ⟨r', len', q1, q2, q3, _⟩
          · rw [q] at hv; cases hv
          · rw [q3] at hv; cases hv
            exact hsH _ (by omega)
        have htl : (lotV o).length = i * 1 := by rw [lotV_len]; omega
        obtain ⟨v', h2, M, ap, lg, own, fr, _⟩ := evH.app (k := i) (x := .slice (some ⟨nx', 0, none⟩) 1 1) (new := [vi k]) (by omega) (appended_row (rowL_hset_same _ _) rfl) rfl (by omega) htl (by omega)
        have hs2 : Same nx h h2 := fun s hss => by rw [fr s hss, hsH s (by omega)]; exact hs s hss
        refine ⟨v', h2, M, ap, lg z' hz, ?_, hs2, ?_, ?_⟩
        · have : lotV (o ++ [k]) = lotV o ++ [vi k] := by simp [lotV]
          rw [this]; exact own
        · unfold rowL at hcs1 ⊢
          rw [fr r1 (by omega), hsH r1 (by omega)]; exact hcs1
        · rw [rowL_same hs2 hpn]; exact hp3
      by_cases hi0 : i = 0
      · refine ⟨0, Int.le_refl _, by omega, fun _ => rfl, ?_⟩
        obtain ⟨v', h2, M, ap, lgz, own, hs2, hcs2, hrow2⟩ := app 0
        have hg : ¬ (0 : Int) < (i : Int) := by omega
        have hmx : ∀ P : Program, maxO P (some (.int .i64 0)) (some (.int .i64 (lf - 0 * x))) = some (vi (max 0 (lf - 0 * x))) := fun P => maxO_int 0 _
        refine ⟨_, _, _, v', by simp (maxSteps := 10000000) (implicitDefEqProofs := false) (disch := omega) only [l11_1, f2, f3, e14, e15, e16, h1, hrow, x6, hg, gt_iff_lt, hcs1, hel1, ap, lgz, appF_24, hcs2, hrow2, o_max2, hmx, hb_21, hb_31, plS_24_0_, plS_24_2_0_1, lokx8, bz, put_none2, Nat.reduceEqDiff, Nat.reduceLT, Nat.reduceAdd]; exact rfl, ?_, hs2, ?_, ?_, ?_, ?_, ?_, ?_, ?_, ?_, ?_, own⟩
        · omega
        all_goals first
          | (simp only [pq, Nat.reduceEqDiff, e2, e3, e7, e8, e10, e11]; done)
          | (simp only [pq, Nat.reduceEqDiff]; rfl)
      · obtain ⟨t, ht⟩ : ∃ t, t = takeQ bits i := ⟨_, rfl⟩
        obtain ⟨q, hq⟩ : ∃ q, lf.tdiv x = q := ⟨_, rfl⟩
        have hq1 : lf / x = q := by rw [← Int.tdiv_eq_ediv_of_nonneg hlo]; exact hq
        have hqn : 0 ≤ q := by rw [← hq1]; exact Int.ediv_nonneg hlo (by omega)
        have hqm : q * x ≤ lf := by rw [← hq1]; exact Int.ediv_mul_le lf (by omega)
        have hqx : q ≤ lf := by
          have : q * 1 ≤ q * x := Int.mul_le_mul_of_nonneg_left hx1 hqn
          omega
        have hk0 := Int.emod_nonneg t (show q + 2 ≠ 0 by omega)
        have hk1 := Int.emod_lt_of_pos t (show 0 < q + 2 by omega)
        obtain ⟨k, hk⟩ : ∃ k, t % (q + 2) = k := ⟨_, rfl⟩
        rw [hk] at hk0 hk1
        have hkm : k * x ≤ lf + x := by
          have : k * x ≤ (q + 1) * x := Int.mul_le_mul_of_nonneg_right (by omega) (by omega)
          rw [Int.add_mul] at this
          omega
        have hkm0 := Int.mul_nonneg hk0 (show 0 ≤ x by omega)
        refine ⟨k, hk0, hkm, fun w => absurd w hi0, ?_⟩
        obtain ⟨v', h2, M, ap, lgz, own, hs2, hcs2, hrow2⟩ := app k
        have hg : (0 : Int) < (i : Int) := by omega
        have k47 := fun (g : Hp) (n : Nat) (hl : Lst g n 1 v2 (ints bits)) => c47 hS (m := m) (h := g) (nx := n) (by omega) (i : Int) hbl hl
        have k47' := k47 h' nx' (hv.same (hs.mono hz) (by omega))
        rw [← ht] at k47'
        have k34 := c34w hS (m := m) (h := h') (nx := nx') (by omega) t (q + 2) (by omega) (by omega)
        rw [hk] at k34
        have hmx : ∀ P : Program, maxO P (some (.int .i64 0)) (some (.int .i64 (lf - k * x))) = some (vi (max 0 (lf - k * x))) := fun P => maxO_int 0 _
        have hmx1 : ∀ P : Program, maxO P (some (.int .i64 1)) (some (.int .i64 (q + 2))) = some (vi (q + 2)) := fun P => by
          rw [maxO_int, show max 1 (q + 2) = q + 2 by omega]
        refine ⟨_, _, _, v', by simp (maxSteps := 10000000) (implicitDefEqProofs := false) (disch := omega) only [l11_1, f2, f3, e14, e15, e16, h1, hrow, x6, hg, gt_iff_lt, hcs1, hel1, hq, k47', k34, ap, lgz, appF_24, hcs2, hrow2, o_max2, hmx, hmx1, hb_34, hb_47, g_un, gq_un, hb_21, hb_31, plS_24_0_, plS_24_2_0_1, lokx8, bz, put_none2, Nat.reduceEqDiff, Nat.reduceLT, Nat.reduceAdd]; exact rfl, ?_, hs2, ?_, ?_, ?_, ?_, ?_, ?_, ?_, ?_, ?_, own⟩
        · omega
        all_goals first
          | (simp only [pq, Nat.reduceEqDiff, e2, e3, e7, e8, e10, e11]; done)
          | (simp only [pq, Nat.reduceEqDiff]; rfl)
    obtain ⟨k, hk0, hk1, hk2, vs3, h3, nx3, u3, hbod, q1, q2, w2, w3, w7, w8, w10, w11, w16, w14, w15, own⟩ := body
    have hol2 : o.length < b.S.length := by omega
    have hxx : b.S[o.length] = x := by rw [hx]; congr 1
    have hadd := oth_add ho hol2 V1 hk0 (by rw [hxx]; exact hk1) (fun q => hk2 (by omega))
    rw [hxx] at hadd
    exact ⟨hlt, z', vs3, h3, nx3, hbod, by omega, rfl, q1, q2, w2, w3, w7, w8, w10, w11, w16, u3, o ++ [k], _, hadd, by rw [List.length_append, hol]; rfl, w14, w15, own⟩
  · right
    have h1 : ¬ ((i : Int) < (b.S.length : Int)) := by omega
    rw [hsvf] at x6
    have e : ∃ vs2, sC Tryz.prog 177 177 (execL Tryz.prog vmL S m) l11_1 z' vs' h' nx' = .exi 2 z' vs2 h' nx' ∧ vs2 2 = vs' 2 ∧ vs2 3 = vs' 3 ∧ vs2 7 = vs' 7 ∧ vs2 8 = vs' 8 ∧ vs2 10 = vs' 10 ∧ vs2 11 = vs' 11 ∧ vs2 14 = vs' 14 ∧ vs2 15 = vs' 15 := by
      refine ⟨_, by simp (maxSteps := 10000000) (implicitDefEqProofs := false) (disch := omega) only [l11_1, f3, e16, h1, hrow, x6, hb_21, hb_31, plS_24_0_, plS_24_2_0_1, lokx8, bz, put_none2, Nat.reduceEqDiff, Nat.reduceLT, Nat.reduceAdd]; exact rfl, ?_, ?_, ?_, ?_, ?_, ?_, ?_, ?_⟩ <;>
      simp only [pg, Nat.reduceEqDiff]
    obtain ⟨vs2, e, q2, q3, q7, q8, q10, q11, q14, q15⟩ := e
    rw [e]
    exact ⟨trivial, vs2, h', nx', u, o, lf, rfl, hn, hs, ho, by omega, q14.trans e14, q15.trans e15, hu, q2.trans e2, q3.trans e3, q7.trans e7, q8.trans e8, q10.trans e10, q11.trans e11⟩
theorem loop11c {S : Kn} (hS : S.Only [22]) {m : Nat} (hm : 3 ≤ m) {b : Bk} {bits : List Int} {c : Int} {z : Z} {vs : Vs} {h : Hp} {nx p3 : Nat} {v2 a7 a8 a10 a11 : Value} (hF : b.Fine) (hb0 : b.At h z.n0) (hz : z.n0 ≤ nx) (hbl : bits.length ≤ 140737488355328) (hv : Lst h z.n0 1 v2 (ints bits)) (hp3 : rowL h p3 = some b.cells) (hpn : p3 < nx) (hc : 0 ≤ c) (hc2 : c ≤ 20000)
    (g2 : vs 2 = some v2) (g3 : vs 3 = some (pt p3)) (g14 : vs 14 = some (vi c)) (g15 : vs 15 = some (.slice none 0 0)) (g16 : vs 16 = some (vi 0)) (g7 : vs 7 = some a7) (g8 : vs 8 = some a8) (g10 : vs 10 = some a10) (g11 : vs 11 = some a11) {r : R} (hr : loopR (sC Tryz.prog 177 177 (execL Tryz.prog vmL S m) l11_1) z vs h nx = r) :
    ∃ vs' h' nx' u o lf, r = .exi 2 z vs' h' nx' ∧ nx ≤ nx' ∧ Same nx h h' ∧ Oth b.S c o lf ∧ o.length = b.S.length ∧ vs' 14 = some (vi lf) ∧ vs' 15 = some u ∧ OwnL h' nx nx' 1 u (lotV o) ∧ vs' 2 = some v2 ∧ vs' 3 = some (pt p3) ∧ vs' 7 = some a7 ∧ vs' 8 = some a8 ∧ vs' 10 = some a10 ∧ vs' 11 = some a11 := by
  obtain ⟨vs3, H3, n3, uo, o, lf, e, q1, q2, q3, q4, q5, q6, q7, q8, q9, q10, q11, q12, q13⟩ := loop11b hS hm hF hb0 hz hbl hv hp3 hpn hc hc2 g2 g3 g14 g15 g16 hr
  exact ⟨vs3, H3, n3, uo, o, lf, e, q1, q2, q3, q4, q5, q6, q7, q8.trans g2, q9.trans g3, q10.trans g7, q11.trans g8, q12.trans g10, q13.trans g11⟩
set_option maxHeartbeats 128000000
theorem oth_le {b : Bk} (hF : b.Fine) {c lf : Int} {o : List Int} (hc : 0 ≤ c) (hc2 : c ≤ 20000) (ho : Oth b.S c o lf) (hl : o.length = b.S.length) {j : Nat} (hj : j < o.length) (hjS : j < b.S.length) {y : Int} (hy : 0 ≤ y) (hy2 : y * b.S[j] ≤ lf + b.S[j] - 1) (hyl : y ≤ lf) : ∀ x, x ∈ o.set j (o[j] + y) → 0 ≤ x ∧ x ≤ 20000 := by
  obtain ⟨V1, V2⟩ := fine_v hF
  have hlo := ho.lo
  have hhi := ho.hi
  intro x hx
  obtain ⟨i, hi, rfl⟩ := List.getElem_of_mem hx
  rw [List.length_set] at hi
  have hiS : i < b.S.length := by omega
  have hp := ho.pos _ (List.getElem_mem hi)
  have hpj := ho.pos _ (List.getElem_mem hj)
  have hf := ho.few i hi hiS
  have h2 : 0 < i → 2 ≤ b.S[i] := fun hi0 => by
    obtain ⟨k, rfl⟩ : ∃ k, i = k + 1 := ⟨i - 1, by omega⟩
    have := (incB_iff _).1 hF.si k _ _ (List.getElem?_eq_getElem (by omega)) (List.getElem?_eq_getElem hiS)
    have := V1 _ (List.getElem_mem (show k < b.S.length by omega))
    omega
  have hx2 := V2 _ (List.getElem_mem hiS)
  rw [List.getElem_set]
  split
  · rename_i e
    subst e
    by_cases h0 : j = 0
    · subst h0
      have := ho.first hi
      omega
    · refine ⟨by omega, le_of_mul2 (s := b.S[j]) (by omega) (h2 (by omega)) hx2 hc hc2 ?_⟩
      rw [Int.add_mul]
      omega
  · by_cases h0 : i = 0
    · subst h0
      have := ho.first hi
      omega
    · exact ⟨hp, le_of_mul2 (s := b.S[i]) hp (h2 (by omega)) hx2 hc hc2 (by have := V1 _ (List.getElem_mem hiS); omega)⟩
theorem c11 {S : Kn} (hS : S.Only [22]) (hK : Stamped S) {m : Nat} (hm : 17 ≤ m) {b : Bk} {h : Hp} {nx : Nat} (hb : b.At h nx) (cents : Int) {bits : List Int} {v2 : Value} (hbl : bits.length ≤ 140737488355328) (hv2 : Lst h nx 1 v2 (ints bits)) : callF 11 [.agg b.cells.toArray, vi cents, v2] (execL Tryz.prog vmL S m) h nx = .gen (.bool true) h nx [] := by
  refine fun11.ground (hS _ _ _ _ (by decide)) (by omega) rfl (by simp) ?_
  obtain ⟨G, eG⟩ : ∃ x, x = hset h nx (.cells b.cells none) := ⟨_, rfl⟩
  have hsm : Same nx h G := by rw [eG]; exact (Same.refl nx h).set (Nat.le_refl _) _
  have hb' := hb.same hsm (nx' := nx + 1) (by omega)
  have r0 : rowL G nx = some b.cells := by rw [eG]; exact rowL_hset_same _ _
  have hp7 : part1 true 7 b.cells 0 = some (.agg b.cells.toArray) := rfl
  have hpos := hb.pos
  have k35 := c35 hS (m := m - 1) (by omega) hb'
  rcases Bool.eq_false_or_eq_true b.valid with hv | hv
  · have hF := Bk.fine hv
    obtain ⟨V1, V2⟩ := fine_v hF
    have hs1 := hF.s1
    have hs5 := hF.s5
    have hc0 := Int.emod_nonneg cents (show (20001 : Int) ≠ 0 by omega)
    have hc1 := Int.emod_lt_of_pos cents (show (0 : Int) < 20001 by omega)
    have k34 := c34 hS (m := m - 1) (h := G) (nx := nx + 1) (by omega) cents 20001 (by omega) (by omega)
    obtain ⟨c, ec⟩ : ∃ c, cents % 20001 = c := ⟨_, rfl⟩
    rw [ec] at k34 hc0 hc1
    have hin : inB 0 20000 c = true := inB_true hc0 (by omega)
    obtain ⟨zs, hz, u, H2, n2, k30, w⟩ := c30 hS (m := m - 1) (by omega) (c := c) hb'
    have hst : StampsQ b.S c zs := by
      unfold SaidS at hz
      rw [if_pos (by rw [hv, hin]; rfl)] at hz
      exact hz
    rw [hv] at k35
    rw [hv, hin, checkI_tt] at k30
    have t2 := w.keep.2
    have n2' := w.keep.1
    have hs02 : Same nx h H2 := fun s hss => by rw [t2 s (by omega)]; exact hsm s hss
    have hb2 := hb'.same t2 (nx' := n2) (by omega)
    have r02 : rowL H2 nx = some b.cells := by rw [rowL_same t2 (by omega)]; exact r0
    have lz := new_lotL w
    obtain ⟨zb, zd, zl⟩ := told_le hF hc0 hst
    have zb2 : ∀ x, x ∈ zs → 0 ≤ x ∧ x ≤ 20000 := fun x hx => by have := zb x hx; omega
    have k46 := c46 hS (m := m - 1) (by omega) hF hb2 zl zb2 lz
    have db := dot_bound V1 V2 zb2 zl b.S.length (Nat.le_refl _)
    rw [List.take_length, List.take_of_length_le (by omega)] at db
    obtain ⟨ua, uc, hu0, _⟩ := lz.form
    rw [ints_len, zl] at hu0
    obtain ⟨sa, sc, hsv, _⟩ := hb.s.form
    rw [ints_len] at hsv
    have x6 : part1 false 1 b.cells 6 = some b.sv := rfl
    rw [hsv] at x6
    have hln : (((b.S.length : Nat) : Int) == (b.S.length : Int)) = true := beq_self_eq_true _
    have hnc : ¬ dotS b.S zs < c := by omega
    rw [hu0] at k30 k46
    simp (maxSteps := 10000000) (implicitDefEqProofs := false) (disch := omega) only [s11, s_loop, ← eG, r0, hp7, k35, hb_35, Bool.not_true, k34, hb_34, k30, hb_30, show ((0 : Int) == 0) = true from rfl, show ((0 : Int) != 0) = false from rfl, r02, x6, hln, bne_self_eq_false, k46, hb_46, hnc, g_un, gq_un, hb_21, hb_31, plS_147_1_0, plB_149_, plS_24_0_, plS_24_2_0_1, zeroE_147, appF_147, bz, put_none2, Nat.reduceEqDiff, Nat.reduceLT, Nat.reduceAdd]
    generalize hr : loopR _ _ _ _ _ = r
    obtain ⟨vs2, rfl, w2, w3, w7, w8, w10, w11⟩ : ∃ vs2, r = .exi 0 ⟨nx, none, [], []⟩ vs2 H2 n2 ∧ vs2 2 = some v2 ∧ vs2 3 = some (pt nx) ∧ vs2 7 = some (vi c) ∧ vs2 8 = some u ∧ vs2 10 = some (vi (dotS b.S zs)) ∧ vs2 11 = some (vi zs.sum) := by
      obtain ⟨vs2, e, w2, w3, w7, w8, w10, w11⟩ := loop11a (b := b) (zs := zs) (n := dotS b.S zs) (c := c) (v := u) (p3 := nx) hF hb2 zl (fun x hx => (zb x hx).1) (by omega) (fun i hi hiV hp => told_less hst V1 hi hiV hp) lz r02 rfl rfl (by rw [hu0]; rfl) rfl rfl hr
      exact ⟨vs2, e, w2, w3, w7, w8.trans (by rw [hu0]; rfl), w10, w11⟩
    simp (maxSteps := 10000000) (implicitDefEqProofs := false) (disch := omega) only [s_loop, w7, hb_21, hb_31, plS_147_1_0, plB_149_, plS_24_0_, plS_24_2_0_1, zeroE_147, appF_147, bz, put_none2, Nat.reduceEqDiff, Nat.reduceLT, Nat.reduceAdd]
    generalize hr2 : loopR _ _ _ _ _ = r2
    obtain ⟨vs3, H3, n3, uo, o, lf, rfl, hn3, hs3, ho, hol, y14, y15, own, y2, y3, y7, y8, y10, y11⟩ : ∃ vs3 H3 n3 uo o lf, r2 = .exi 2 ⟨nx, none, [], []⟩ vs3 H3 n3 ∧ n2 ≤ n3 ∧ Same n2 H2 H3 ∧ Oth b.S c o lf ∧ o.length = b.S.length ∧ vs3 14 = some (vi lf) ∧ vs3 15 = some uo ∧ OwnL H3 n2 n3 1 uo (lotV o) ∧ vs3 2 = some v2 ∧ vs3 3 = some (pt nx) ∧ vs3 7 = some (vi c) ∧ vs3 8 = some u ∧ vs3 10 = some (vi (dotS b.S zs)) ∧ vs3 11 = some (vi zs.sum) := by
      refine loop11c hS (m := m - 1) (by omega) (b := b) (bits := bits) (c := c) (p3 := nx) (v2 := v2) (z := ⟨nx, none, [], []⟩) (h := H2) (nx := n2) hF (hb.same hs02 (Nat.le_refl _)) (show nx ≤ n2 by omega) hbl (hv2.same hs02 (Nat.le_refl _)) r02 (by omega) hc0 (by omega) ?_ ?_ ?_ ?_ ?_ ?_ ?_ ?_ ?_ hr2
      · exact w2
      · exact w3
      · rfl
      · rfl
      · rfl
      · exact w7
      · exact w8
      · exact w10
      · exact w11
    have hs03 : Same nx h H3 := fun s hss => by rw [hs3 s (by omega)]; exact hs02 s hss
    have r03 : rowL H3 nx = some b.cells := by rw [rowL_same hs3 (by omega)]; exact r02
    have lv3 := hv2.same hs03 (nx' := n3) (by omega)
    have k47 := c47 hS (m := m - 1) (h := H3) (nx := n3) (by omega) 0 hbl lv3
    obtain ⟨t, ht⟩ : ∃ t, takeQ bits 0 = t := ⟨_, rfl⟩
    rw [ht] at k47
    have hj0 := Int.emod_nonneg t (show (b.S.length : Int) ≠ 0 by omega)
    have hj1 := Int.emod_lt_of_pos t (show (0 : Int) < b.S.length by omega)
    have k34j := c34w hS (m := m - 1) (h := H3) (nx := n3) (by omega) t b.S.length (by omega) (by omega)
    obtain ⟨j, hj⟩ : ∃ j : Nat, t % (b.S.length : Int) = j := ⟨(t % (b.S.length : Int)).toNat, by omega⟩
    rw [hj] at k34j hj0 hj1
    have hjS : j < b.S.length := by omega
    have hjo : j < o.length := by omega
    obtain ⟨ro, leno, hro, hron, huo, hgo, hleno, hpo⟩ : ∃ ro leno, n2 ≤ ro ∧ ro < n3 ∧ uo = .slice (some ⟨ro, 0, none⟩) leno SENT ∧ hget H3 ro = some (.cells (lotV o) (some 1)) ∧ (lotV o).length = leno * 1 ∧ 0 < leno := by
      rcases own.is with ⟨q, _⟩ | q
      · have : o = [] := by unfold lotV at q; simpa using q
        rw [this] at hjo; simp at hjo
      · exact q
    have hle2 : leno = b.S.length := by rw [lotV_len] at hleno; omega
    subst hle2
    rw [huo] at y15
    have hrowo : rowL H3 ro = some (lotV o) := by unfold rowL; rw [hgo]
    obtain ⟨r1, o1, cs1, c1, hsv1, hcs1, hrn1, hel1⟩ := int_at (hb.same hs03 (Nat.le_refl _)).s hjS
    rw [hsv] at hsv1
    injection hsv1 with ea _ ec1
    subst ea ec1
    have hoj : part1 false 1 (lotV o) (j * 1) = some (vi o[j]) := by
      rw [part1_one, Nat.mul_one]; unfold lotV; rw [List.getElem?_map, List.getElem?_eq_getElem hjo]; rfl
    have v1 := V1 _ (List.getElem_mem hjS)
    have v2' := V2 _ (List.getElem_mem hjS)
    have hlo := ho.lo
    have hhi := ho.hi
    have k48 := c48 hS (m := m - 1) (h := H3) (nx := n3) (by omega) lf b.S[j] v1 (by omega) (by omega) (by omega)
    obtain ⟨o1', o2', o3', o4'⟩ := over_mul lf b.S[j] v1 hlo
    obtain ⟨y, hy⟩ : ∃ y, -((-lf) / b.S[j]) = y := ⟨_, rfl⟩
    rw [hy] at k48 o1' o2' o3' o4'
    have hob := oth_le hF hc0 (by omega) ho hol hjo hjS o3' o2' o4'
    have hpoj := ho.pos _ (List.getElem_mem hjo)
    have hopb := hob (o[j] + y) (List.mem_of_getElem? (i := j) (by rw [List.getElem?_set_self hjo]))
    have hsp : splice (lotV o) (j * 1) [.int .i64 (o[j] + y)] = some (lotV (o.set j (o[j] + y))) := by rw [Nat.mul_one]; exact splice_set hjo _
    have hds := dot_set j y hjS hjo
    obtain ⟨oo, hoo⟩ : ∃ oo, o.set j (o[j] + y) = oo := ⟨_, rfl⟩
    rw [hoo] at hob hsp hds
    have hool : oo.length = b.S.length := by rw [← hoo, List.length_set]; exact hol
    obtain ⟨H4, eH4⟩ : ∃ x, x = hset H3 ro (.cells (lotV oo) (some 1)) := ⟨_, rfl⟩
    have hs4 : Same nx h H4 := fun s hss => by rw [eH4, hget_other _ (by omega)]; exact hs03 s hss
    have r04 : rowL H4 nx = some b.cells := by rw [eH4, rowL_hset_other _ (by omega)]; exact r03
    have loo : Lst H4 n3 1 (.slice (some ⟨ro, 0, none⟩) b.S.length SENT) (ints oo) := by
      have := lst_rowc (h := H4) (nx := n3) (l := lotV oo) SENT hron (by rw [eH4]; exact rowL_hset_same _ _)
      rw [lotV_len, hool] at this
      have e : (lotV oo).map (fun x => [x]) = ints oo := by unfold lotV ints; rw [List.map_map]; rfl
      rw [e] at this
      exact this
    have k46b := c46 hS (m := m - 1) (by omega) hF (hb.same hs4 (nx' := n3) (by omega)) hool hob loo
    have lz4 : Lst H4 n3 1 u (ints zs) := lz.same (fun s hss => by rw [eH4, hget_other _ (by omega)]; exact hs3 s hss) (by omega)
    rw [hu0] at lz4 y8
    have k49 := c49 hS (m := m - 1) (by omega) (A := oo) (B := zs) (by omega) (by omega) loo lz4
    have k22 := c22 hK (m := m - 1) (h := H4) (nx := n3) (by omega) (hb.same hs4 (nx' := n3) (by omega)).lim
    have hen := ho.enough
    rw [hol, List.take_length] at hen
    have hge : c ≤ dotS b.S oo := by rw [hds]; omega
    have hbest := told_best hst hool (fun x hx => (hob x hx).1) hge
    have hjl : (j : Int) < (b.S.length : Int) := by omega
    generalize dotS b.S oo = M at *
    generalize dotS b.S zs = N at *
    generalize oo.sum = E at *
    generalize zs.sum = D at *
    rcases hbest with q1 | ⟨q1, q2 | ⟨q2, q3⟩⟩
    · simp (maxSteps := 10000000) (implicitDefEqProofs := false) (disch := omega) only [y2, y3, y7, y8, y10, y11, y14, y15, r03, hp7, x6, lok23, lokx10, k47, hb_47, k34j, hb_34, hjl, hrowo, hgo, hoj, hcs1, hel1, k48, hb_48, hsp, ← eH4, r04, k46b, hb_46, hge, q1, ge_iff_le, gt_iff_lt, k22, hb_22, log_own, g_un, gq_un, hb_21, hb_31, plS_147_1_0, plB_149_, plS_24_0_, plS_24_2_0_1, zeroE_147, appF_147, bz, put_none2, Nat.reduceEqDiff, Nat.reduceLT, Nat.reduceAdd]
      exact ⟨_, _, rfl⟩
    · subst q1
      have q2' : D < E := q2
      have bs : (M == M) = true := beq_self_eq_true _
      simp (maxSteps := 10000000) (implicitDefEqProofs := false) (disch := omega) only [q2', bs, Int.lt_irrefl, y2, y3, y7, y8, y10, y11, y14, y15, r03, hp7, x6, lok23, lokx10, k47, hb_47, k34j, hb_34, hjl, hrowo, hgo, hoj, hcs1, hel1, k48, hb_48, hsp, ← eH4, r04, k46b, hb_46, hge, ge_iff_le, gt_iff_lt, k22, hb_22, log_own, g_un, gq_un, hb_21, hb_31, plS_147_1_0, plB_149_, plS_24_0_, plS_24_2_0_1, zeroE_147, appF_147, bz, put_none2, Nat.reduceEqDiff, Nat.reduceLT, Nat.reduceAdd]
      exact ⟨_, _, rfl⟩
    · subst q1 q2
      have bs : (M == M) = true := beq_self_eq_true _
      have be : (E == E) = true := beq_self_eq_true _
      rw [q3] at k49
      simp (maxSteps := 10000000) (implicitDefEqProofs := false) (disch := omega) only [bs, be, Int.lt_irrefl, k49, hb_49, Bool.not_false, y2, y3, y7, y8, y10, y11, y14, y15, r03, hp7, x6, lok23, lokx10, k47, hb_47, k34j, hb_34, hjl, hrowo, hgo, hoj, hcs1, hel1, k48, hb_48, hsp, ← eH4, r04, k46b, hb_46, hge, ge_iff_le, gt_iff_lt, k22, hb_22, log_own, g_un, gq_un, hb_21, hb_31, plS_147_1_0, plB_149_, plS_24_0_, plS_24_2_0_1, zeroE_147, appF_147, bz, put_none2, Nat.reduceEqDiff, Nat.reduceLT, Nat.reduceAdd]
      exact ⟨_, _, rfl⟩
  · have k22 := c22 hK (m := m - 1) (h := G) (nx := nx + 1) (by omega) hb'.lim
    rw [hv] at k35
    simp (maxSteps := 10000000) (implicitDefEqProofs := false) (disch := omega) only [s11, ← eG, r0, hp7, k35, hb_35, k22, hb_22, Bool.not_false, hb_21, hb_31, plS_147_1_0, plB_149_, plS_24_0_, plS_24_2_0_1, zeroE_147, appF_147, bz, put_none2, Nat.reduceEqDiff, Nat.reduceLT, Nat.reduceAdd]
    exact ⟨_, _, rfl⟩
end Go.Proofs.YtcmkngajdckndaaGreatDoor
