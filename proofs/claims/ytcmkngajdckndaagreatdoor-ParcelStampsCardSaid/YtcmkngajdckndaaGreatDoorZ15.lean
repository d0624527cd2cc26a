/- What the functions of package parcel answer, for any book, and why the law's comparison holds; how a book of a world reads. Conditions: none. -/
import Derived.Test.YtcmkngajdckndaaGreatDoorZ14
set_option linter.unusedVariables false
set_option linter.unusedSimpArgs false
namespace Go.Proofs.YtcmkngajdckndaaGreatDoor
open Go Go.Proofs Go.Lm
set_option maxRecDepth 10000
set_option maxHeartbeats 16000000
theorem all_take {α : Type} (l : List α) (p : α → Bool) {k : Nat} (hk : k < l.length) : (l.take (k + 1)).all p = ((l.take k).all p && p l[k]) := by
  rw [List.take_add_one, List.getElem?_eq_getElem hk, Option.toList_some, List.all_append]
  simp
theorem all_cut {α : Type} {l : List α} {p : α → Bool} {k : Nat} (h : (l.take k).all p = false) : l.all p = false := by
  cases q : l.all p with
  | false => rfl
  | true =>
    rw [← h]
    refine (List.all_eq_true.2 fun x hx => ?_).symm
    exact List.all_eq_true.1 q x (List.mem_of_mem_take hx)
theorem loop16a {S : Kn} (hS : S.Only [22]) {m : Nat} (hm : 2 ≤ m) {b : Bk} {z : Z} {vs : Vs} {h : Hp} {nx p1 : Nat} {a0 : Bool} (hb : b.At h nx) (hr1 : rowL h p1 = some b.cells) (hp1 : p1 < nx) (hz : z.n0 ≤ nx)
    (g1 : vs 1 = some (pt p1)) (g3 : vs 3 = some (.bool a0)) (g4 : vs 4 = some (vi 0)) {r : R} (hr : loopR (sC Tryz.prog 147 147 (execL Tryz.prog vmL S m) l16_0) z vs h nx = r) :
    ∃ vs' h' nx', r = .exi 0 z vs' h' nx' ∧ nx ≤ nx' ∧ Same nx h h' ∧ vs' 1 = some (pt p1) ∧ vs' 3 = some (.bool (a0 && b.P.all Pc.ok)) := by
  subst hr
  refine loop_rule (Post := fun r => ∃ vs' h' nx', r = .exi 0 z vs' h' nx' ∧ nx ≤ nx' ∧ Same nx h h' ∧ vs' 1 = some (pt p1) ∧ vs' 3 = some (.bool (a0 && b.P.all Pc.ok)))
    (fun k z' vs' h' nx' => k ≤ b.P.length ∧ z' = z ∧ nx ≤ nx' ∧ Same nx h h' ∧ vs' 1 = some (pt p1) ∧ vs' 3 = some (.bool (a0 && (b.P.take k).all Pc.ok)) ∧ vs' 4 = some (vi (k : Int))) b.P.length (by have := hb.pl; omega)
    ⟨Nat.zero_le _, rfl, Nat.le_refl _, Same.refl _ _, g1, by rw [g3]; simp, g4⟩ ?_
  rintro k z' vs' h' nx' ⟨hk, rfl, hn, hs, e1, e3, e4⟩
  have hpl := hb.pl
  have hrow : rowL h' p1 = some b.cells := by rw [rowL_same hs hp1]; exact hr1
  obtain ⟨pa, pc, hpv, _⟩ := hb.p.form
  rw [List.length_map] at hpv
  have hpk : part1 false 1 b.cells 0 = some b.pv := rfl
  rw [hpv] at hpk
  obtain ⟨a, ea⟩ : ∃ a, (a0 && (b.P.take k).all Pc.ok) = a := ⟨_, rfl⟩
  rw [ea] at e3
  by_cases hlt : k < b.P.length ∧ a = true
  · left
    obtain ⟨hlt, rfl⟩ := hlt
    have h1 : ((k : Int) < (b.P.length : Int)) := by omega
    have hb' := hb.same hs (nx' := nx') hn
    obtain ⟨rr, o, cs, c, hpv2, hcs, hrn, q1, q2, q3⟩ := hb'.piece hlt
    rw [hpv] at hpv2
    cases hpv2
    have k40 := fun (h : Hp) (nx : Nat) (x lo hi : Int) => c40 hS (m := m) (h := h) (nx := nx) (by omega) x lo hi
    have hall := all_take b.P Pc.ok hlt
    have ht : (a0 && (b.P.take (k + 1)).all Pc.ok) = b.P[k].ok := by
      rw [hall, ← Bool.and_assoc, ea, Bool.true_and]
    have hok : b.P[k].ok = (inB 1 500 b.P[k].size && (inB 1 5000 b.P[k].weight && inB 0 10000 b.P[k].worth)) := rfl
    obtain ⟨x, ex⟩ : ∃ x, b.P[k] = x := ⟨_, rfl⟩
    rw [ex] at ht hok q1
    have hrw : x.row = [vi x.size, vi x.weight, vi x.worth, .bool x.alone] := rfl
    rw [hrw] at q1
    rcases Bool.eq_false_or_eq_true (inB 1 500 x.size) with s1 | s1 <;> rcases Bool.eq_false_or_eq_true (inB 1 5000 x.weight) with s2 | s2 <;> rcases Bool.eq_false_or_eq_true (inB 0 10000 x.worth) with s3 | s3 <;> rw [s1, s2, s3] at hok
    all_goals refine ⟨hlt, z', _, _, _, (by simp (maxSteps := 10000000) (implicitDefEqProofs := false) (disch := omega) only [l16_0, e1, e3, e4, h1, hrow, hpk, hcs, q1, k40, s1, s2, s3, hb_40, g_un, bz, put_none2, Nat.reduceEqDiff, Nat.reduceLT, Nat.reduceAdd]; exact rfl), by omega, rfl, ?_, ?_, ?_, ?_, ?_⟩
    all_goals rotate_left 1
    all_goals first
      | exact (hs.set hn _).set hn _
      | omega
      | (simp only [pq, Nat.reduceEqDiff, e1]; done)
      | (rw [ht, hok]; simp only [pq, Nat.reduceEqDiff, Bool.and_true, Bool.and_false, Bool.true_and, Bool.false_and]; done)
      | (simp only [pq, Nat.reduceEqDiff]; rfl)
  · right
    have e : ∃ vs2, sC Tryz.prog 147 147 (execL Tryz.prog vmL S m) l16_0 z' vs' h' nx' = .exi 0 z' vs2 h' nx' ∧ vs2 1 = vs' 1 ∧ vs2 3 = vs' 3 := by
      cases a with
      | false => refine ⟨_, by simp (maxSteps := 10000000) (implicitDefEqProofs := false) (disch := omega) only [l16_0, e1, e3, e4, g_un, gq_un, bz, put_none2, Nat.reduceEqDiff, Nat.reduceLT, Nat.reduceAdd]; exact rfl, ?_, ?_⟩ <;> simp only [pg, Nat.reduceEqDiff]
      | true =>
        have h1 : ¬ ((k : Int) < (b.P.length : Int)) := fun q => hlt ⟨by omega, rfl⟩
        refine ⟨_, by simp (maxSteps := 10000000) (implicitDefEqProofs := false) (disch := omega) only [l16_0, e1, e3, e4, h1, hrow, hpk, g_un, gq_un, bz, put_none2, Nat.reduceEqDiff, Nat.reduceLT, Nat.reduceAdd]; exact rfl, ?_, ?_⟩ <;> simp only [pg, Nat.reduceEqDiff]
    obtain ⟨vs2, e, q1, q3⟩ := e
    rw [e]
    refine ⟨trivial, vs2, h', nx', rfl, hn, hs, q1.trans e1, q3.trans (e3.trans ?_)⟩
    rw [← ea] at hlt ⊢
    by_cases hkl : k < b.P.length
    · have : (a0 && (b.P.take k).all Pc.ok) = false := by
        cases q : (a0 && (b.P.take k).all Pc.ok) with
        | false => rfl
        | true => exact (hlt ⟨hkl, q⟩).elim
      rw [this]
      cases a0 with
      | false => rfl
      | true => rw [Bool.true_and] at this; rw [all_cut this]; rfl
    · rw [show k = b.P.length by omega, List.take_length]
theorem int_el {h : Hp} {nx : Nat} {v : Value} {zs : List Int} (hv : Lst h nx 1 v (ints zs)) {i : Nat} (hi : i < zs.length) : ∃ rr o cs c, v = .slice (some ⟨rr, o, none⟩) zs.length c ∧ rowL h rr = some cs ∧ rr < nx ∧ part1 false 1 cs (o + i * 1) = some (vi zs[i]) := by
  obtain ⟨a, c, rfl, _⟩ := hv.form
  have hil : (ints zs).length = zs.length := by simp [ints]
  rw [hil] at hv ⊢
  obtain ⟨_, rr, o, row, cs, rfl, hrn, hrow, hrl, hcs, ho, hseg⟩ := hv.load (i := i) hi
  have hrw : row = [vi zs[i]] := by
    unfold ints at hrow
    rw [List.getElem?_map, List.getElem?_eq_getElem hi] at hrow
    exact (Option.some.inj hrow).symm
  subst hrw
  exact ⟨rr, o, cs, c, rfl, hcs, hrn, part1_el (row := []) hseg⟩
theorem loop16b {S : Kn} (hS : S.Only [22]) {m : Nat} (hm : 2 ≤ m) {x : Kd} {z : Z} {vs : Vs} {h : Hp} {nx p7 : Nat} {a0 : Bool} (hv : Lst h nx 1 x.zv (ints x.zs)) (h5 : a0 = true → x.zs.length = 5) (hr7 : rowL h p7 = some x.row)
    (g3 : vs 3 = some (.bool a0)) (g7 : vs 7 = some (pt p7)) (g8 : vs 8 = some (vi 0)) {r : R} (hr : loopR (sC Tryz.prog 147 147 (execL Tryz.prog vmL S m) l16_1) z vs h nx = r) :
    ∃ vs', r = .exi 4 z vs' h nx ∧ vs' 1 = vs 1 ∧ vs' 6 = vs 6 ∧ vs' 3 = some (.bool (a0 && x.zs.all (inB 1 1000))) := by
  subst hr
  refine loop_rule (Post := fun r => ∃ vs', r = .exi 4 z vs' h nx ∧ vs' 1 = vs 1 ∧ vs' 6 = vs 6 ∧ vs' 3 = some (.bool (a0 && x.zs.all (inB 1 1000))))
    (fun k z' vs' h' nx' => (a0 = true → k ≤ 5) ∧ z' = z ∧ nx' = nx ∧ h' = h ∧ vs' 1 = vs 1 ∧ vs' 6 = vs 6 ∧ vs' 7 = some (pt p7) ∧ vs' 3 = some (.bool (a0 && (x.zs.take k).all (inB 1 1000))) ∧ vs' 8 = some (vi (k : Int))) 5 (by omega)
    ⟨fun _ => by omega, rfl, rfl, rfl, rfl, rfl, g7, by rw [g3]; simp, g8⟩ ?_
  rintro k z' vs' h' nx' ⟨hk, rfl, rfl, rfl, e1, e6, e7, e3, e8⟩
  obtain ⟨a, ea⟩ : ∃ a, (a0 && (x.zs.take k).all (inB 1 1000)) = a := ⟨_, rfl⟩
  rw [ea] at e3
  by_cases hlt : k < 5 ∧ a = true
  · left
    obtain ⟨hlt, rfl⟩ := hlt
    have ha0 : a0 = true := (Bool.and_eq_true_iff.1 ea).1
    have h5' := h5 ha0
    have h1 : ((k : Int) < 5) := by omega
    obtain ⟨rr, o, cs, c, hzv, hcs, hrn, q1⟩ := int_el hv (i := k) (by omega)
    rw [h5'] at hzv
    have k40 := fun (h : Hp) (nx : Nat) (x lo hi : Int) => c40 hS (m := m) (h := h) (nx := nx) (by omega) x lo hi
    have hall := all_take x.zs (inB 1 1000) (k := k) (by omega)
    have ht : (a0 && (x.zs.take (k + 1)).all (inB 1 1000)) = inB 1 1000 x.zs[k] := by
      rw [hall, ← Bool.and_assoc, ea, Bool.true_and]
    have hpz : part1 false 1 x.row 2 = some x.zv := rfl
    rw [hzv] at hpz
    refine ⟨hlt, z', _, _, _, (by simp (maxSteps := 10000000) (implicitDefEqProofs := false) (disch := omega) only [l16_1, e3, e7, e8, h1, hr7, hpz, hcs, q1, k40, hb_40, g_un, bz, put_none2, Nat.reduceEqDiff, Nat.reduceLT, Nat.reduceAdd]; exact rfl), fun _ => by omega, rfl, rfl, rfl, ?_, ?_, ?_, ?_, ?_⟩
    all_goals first
      | (simp only [pq, Nat.reduceEqDiff, e1, e6, e7]; done)
      | (rw [ht]; simp only [pq, Nat.reduceEqDiff]; done)
      | (simp only [pq, Nat.reduceEqDiff]; rfl)
  · right
    have e : ∃ vs2, sC Tryz.prog 147 147 (execL Tryz.prog vmL S m) l16_1 z' vs' h' nx' = .exi 4 z' vs2 h' nx' ∧ vs2 1 = vs' 1 ∧ vs2 6 = vs' 6 ∧ vs2 3 = vs' 3 := by
      cases a with
      | false => refine ⟨_, by simp (maxSteps := 10000000) (implicitDefEqProofs := false) (disch := omega) only [l16_1, e3, e8, g_un, gq_un, bz, put_none2, Nat.reduceEqDiff, Nat.reduceLT, Nat.reduceAdd]; exact rfl, ?_, ?_, ?_⟩ <;> simp only [pg, Nat.reduceEqDiff]
      | true =>
        have h1 : ¬ ((k : Int) < 5) := fun q => hlt ⟨by omega, rfl⟩
        refine ⟨_, by simp (maxSteps := 10000000) (implicitDefEqProofs := false) (disch := omega) only [l16_1, e3, e8, h1, g_un, gq_un, bz, put_none2, Nat.reduceEqDiff, Nat.reduceLT, Nat.reduceAdd]; exact rfl, ?_, ?_, ?_⟩ <;> simp only [pg, Nat.reduceEqDiff]
    obtain ⟨vs2, e, q1, q6, q3⟩ := e
    rw [e]
    refine ⟨trivial, vs2, rfl, q1.trans e1, q6.trans e6, q3.trans (e3.trans ?_)⟩
    rw [← ea] at hlt ⊢
    by_cases hkl : k < 5
    · have : (a0 && (x.zs.take k).all (inB 1 1000)) = false := by
        cases q : (a0 && (x.zs.take k).all (inB 1 1000)) with
        | false => rfl
        | true => exact (hlt ⟨hkl, q⟩).elim
      rw [this]
      cases a0 with
      | false => rfl
      | true => rw [Bool.true_and] at this; rw [all_cut this]; rfl
    · cases a0 with
      | false => rfl
      | true => rw [show k = x.zs.length by have := hk rfl; have := h5 rfl; omega, List.take_length]
theorem loop16d {S : Kn} (hS : S.Only [22]) {m : Nat} (hm : 2 ≤ m) {b : Bk} {z : Z} {vs : Vs} {h : Hp} {nx p1 : Nat} {a0 : Bool} (hb : b.At h nx) (hr1 : rowL h p1 = some b.cells)
    (g1 : vs 1 = some (pt p1)) (g3 : vs 3 = some (.bool a0)) (g9 : vs 9 = some (vi 1)) (g10 : vs 10 = some (vi 0)) {r : R} (hr : loopR (sC Tryz.prog 147 147 (execL Tryz.prog vmL S m) l16_3) z vs h nx = r) :
    ∃ vs', r = .exi 6 z vs' h nx ∧ vs' 3 = some (.bool (a0 && climbQ 1 1000 b.S)) := by
  subst hr
  refine loop_rule (Post := fun r => ∃ vs', r = .exi 6 z vs' h nx ∧ vs' 3 = some (.bool (a0 && climbQ 1 1000 b.S)))
    (fun k z' vs' h' nx' => k ≤ b.S.length ∧ z' = z ∧ nx' = nx ∧ h' = h ∧ vs' 1 = some (pt p1) ∧ vs' 10 = some (vi (k : Int)) ∧ ∃ (a : Bool) (l : Int), vs' 3 = some (.bool a) ∧ vs' 9 = some (vi l) ∧ (a = true → 1 ≤ l) ∧ (a0 && climbQ 1 1000 b.S) = (a && climbQ l 1000 (b.S.drop k))) b.S.length (by have := hb.sl; omega)
    ⟨Nat.zero_le _, rfl, rfl, rfl, g1, g10, a0, 1, g3, g9, fun _ => by omega, by rw [List.drop_zero]⟩ ?_
  rintro k z' vs' h' nx' ⟨hk, rfl, rfl, rfl, e1, e10, a, l, e3, e9, el, ea⟩
  have hsl := hb.sl
  obtain ⟨sa, sc, hsv, _⟩ := hb.s.form
  rw [ints_len] at hsv
  have hpk : part1 false 1 b.cells 6 = some b.sv := rfl
  rw [hsv] at hpk
  by_cases hlt : k < b.S.length ∧ a = true
  · left
    obtain ⟨hlt, rfl⟩ := hlt
    have h1 : ((k : Int) < (b.S.length : Int)) := by omega
    obtain ⟨rr, o, cs, c, hsv2, hcs, hrn, q1⟩ := int_el hb.s hlt
    rw [hsv] at hsv2
    cases hsv2
    have k40 := fun (h : Hp) (nx : Nat) (x lo hi : Int) => c40 hS (m := m) (h := h) (nx := nx) (by omega) x lo hi
    have hd : b.S.drop k = b.S[k] :: b.S.drop (k + 1) := List.drop_eq_getElem_cons hlt
    rw [hd] at ea
    obtain ⟨x, ex⟩ : ∃ x, b.S[k] = x := ⟨_, rfl⟩
    rw [ex] at ea q1
    simp only [climbQ, Bool.true_and] at ea
    refine ⟨hlt, z', _, _, _, (by simp (maxSteps := 10000000) (implicitDefEqProofs := false) (disch := omega) only [l16_3, e1, e3, e9, e10, h1, hr1, hpk, hcs, q1, k40, hb_40, g_un, bz, put_none2, Nat.reduceEqDiff, Nat.reduceLT, Nat.reduceAdd]; exact rfl), by omega, rfl, rfl, rfl, ?_, ?_, inB l 1000 x, IntKind.wrap .i64 (x + 1), ?_, ?_, ?_, ?_⟩
    · simp only [pq, Nat.reduceEqDiff, e1]
    · simp only [pq, Nat.reduceEqDiff]; rfl
    · simp only [pq, Nat.reduceEqDiff]
    · simp only [pq, Nat.reduceEqDiff]
    · intro q
      have := inB_iff q
      have := el rfl
      rw [wrap_small64 _ (by omega) (by omega)]; omega
    · rw [ea]
      cases q : inB l 1000 x with
      | false => rfl
      | true =>
        have := inB_iff q
        have := el rfl
        rw [wrap_small64 _ (by omega) (by omega)]
  · right
    have e : ∃ vs2, sC Tryz.prog 147 147 (execL Tryz.prog vmL S m) l16_3 z' vs' h' nx' = .exi 6 z' vs2 h' nx' ∧ vs2 3 = vs' 3 := by
      cases a with
      | false => refine ⟨_, by simp (maxSteps := 10000000) (implicitDefEqProofs := false) (disch := omega) only [l16_3, e1, e3, e10, g_un, gq_un, bz, put_none2, Nat.reduceEqDiff, Nat.reduceLT, Nat.reduceAdd]; exact rfl, ?_⟩ <;> simp only [pg, Nat.reduceEqDiff]
      | true =>
        have h1 : ¬ ((k : Int) < (b.S.length : Int)) := fun q => hlt ⟨by omega, rfl⟩
        refine ⟨_, by simp (maxSteps := 10000000) (implicitDefEqProofs := false) (disch := omega) only [l16_3, e1, e3, e10, h1, hr1, hpk, g_un, gq_un, bz, put_none2, Nat.reduceEqDiff, Nat.reduceLT, Nat.reduceAdd]; exact rfl, ?_⟩ <;> simp only [pg, Nat.reduceEqDiff]
    obtain ⟨vs2, e, q3⟩ := e
    rw [e]
    refine ⟨trivial, vs2, rfl, q3.trans (e3.trans ?_)⟩
    rw [ea]
    cases a with
    | false => rfl
    | true =>
      have : b.S.drop k = [] := List.drop_eq_nil_of_le (by have : ¬ k < b.S.length := fun q => hlt ⟨q, rfl⟩; omega)
      rw [this]; rfl
theorem Bk.At.kindw {b : Bk} {h : Hp} {nx : Nat} (hb : b.At h nx) {i : Nat} (hi : i < b.K.length) : ∃ r o cs c, b.kv = .slice (some ⟨r, o, none⟩) b.K.length c ∧ rowL h r = some cs ∧ r < nx ∧ part1 true 4 cs (o + i * 4) = some (.agg b.K[i].row.toArray) := by
  have hk := hb.k
  obtain ⟨a, c, hve, _⟩ := hk.form
  rw [List.length_map] at hve
  rw [hve] at hk
  obtain ⟨_, r, o, row, cs, rfl, hrn, hrow, hrl, hcs, ho, hseg⟩ := hk.load (i := i) (by simpa using hi)
  rw [List.getElem?_map, List.getElem?_eq_getElem hi] at hrow
  cases hrow
  exact ⟨r, o, cs, c, hve, hcs, hrn, part1_row (by omega) hseg⟩
theorem loop16c {S : Kn} (hS : S.Only [22]) {m : Nat} (hm : 2 ≤ m) {b : Bk} {z : Z} {vs : Vs} {h : Hp} {nx p1 : Nat} {a0 : Bool} (hb : b.At h nx) (hr1 : rowL h p1 = some b.cells) (hp1 : p1 < nx) (hz : z.n0 ≤ nx)
    (g1 : vs 1 = some (pt p1)) (g3 : vs 3 = some (.bool a0)) (g6 : vs 6 = some (vi 0)) {r : R} (hr : loopR (sC Tryz.prog 147 147 (execL Tryz.prog vmL S m) l16_2) z vs h nx = r) :
    ∃ vs' h' nx', r = .exi 2 z vs' h' nx' ∧ nx ≤ nx' ∧ Same nx h h' ∧ vs' 1 = some (pt p1) ∧ vs' 3 = some (.bool (a0 && b.K.all Kd.ok)) := by
  subst hr
  refine loop_rule (Post := fun r => ∃ vs' h' nx', r = .exi 2 z vs' h' nx' ∧ nx ≤ nx' ∧ Same nx h h' ∧ vs' 1 = some (pt p1) ∧ vs' 3 = some (.bool (a0 && b.K.all Kd.ok)))
    (fun k z' vs' h' nx' => k ≤ b.K.length ∧ z' = z ∧ nx ≤ nx' ∧ Same nx h h' ∧ vs' 1 = some (pt p1) ∧ vs' 3 = some (.bool (a0 && (b.K.take k).all Kd.ok)) ∧ vs' 6 = some (vi (k : Int))) b.K.length (by have := hb.kl; omega)
    ⟨Nat.zero_le _, rfl, Nat.le_refl _, Same.refl _ _, g1, by rw [g3]; simp, g6⟩ ?_
  rintro k z' vs' h' nx' ⟨hk, rfl, hn, hs, e1, e3, e6⟩
  have hkl := hb.kl
  have hrow : rowL h' p1 = some b.cells := by rw [rowL_same hs hp1]; exact hr1
  obtain ⟨ka, kc, hkv, _⟩ := hb.k.form
  rw [List.length_map] at hkv
  have hpk : part1 false 1 b.cells 1 = some b.kv := rfl
  rw [hkv] at hpk
  obtain ⟨a, ea⟩ : ∃ a, (a0 && (b.K.take k).all Kd.ok) = a := ⟨_, rfl⟩
  rw [ea] at e3
  by_cases hlt : k < b.K.length ∧ a = true
  · left
    obtain ⟨hlt, rfl⟩ := hlt
    have h1 : ((k : Int) < (b.K.length : Int)) := by omega
    have hb' := hb.same hs (nx' := nx') hn
    have k40 := fun (h : Hp) (nx : Nat) (x lo hi : Int) => c40 hS (m := m) (h := h) (nx := nx) (by omega) x lo hi
    have hall := all_take b.K Kd.ok hlt
    have ht : (a0 && (b.K.take (k + 1)).all Kd.ok) = b.K[k].ok := by
      rw [hall, ← Bool.and_assoc, ea, Bool.true_and]
    obtain ⟨rr, o, cs, c, hkv2, hcs, hrn, q1⟩ := hb'.kindw hlt
    rw [hkv] at hkv2
    cases hkv2
    have hzm := hb.z b.K[k] (List.getElem_mem hlt)
    obtain ⟨x, ex⟩ : ∃ x, b.K[k] = x := ⟨_, rfl⟩
    rw [ex] at ht q1 hzm
    obtain ⟨za, zc, hzv, _⟩ := hzm.form
    rw [ints_len] at hzv
    have hrw : x.row = [vi x.room, vi x.most, x.zv, vi x.step] := rfl
    rw [hrw, hzv] at q1
    have hok : x.ok = ((inB 1 500 x.room && (inB 1 5000 x.most && (decide ((x.zs.length : Int) = 5) && inB 0 1000 x.step))) && x.zs.all (inB 1 1000)) := by
      have h5 : inB 5 5 (x.zs.length : Int) = decide ((x.zs.length : Int) = 5) := by
        unfold inB
        by_cases q : (x.zs.length : Int) = 5
        · simp [q]
        · rw [decide_eq_false q]
          by_cases q2 : (5 : Int) ≤ x.zs.length
          · rw [decide_eq_false (show ¬ (x.zs.length : Int) ≤ 5 by omega), Bool.and_false]
          · rw [decide_eq_false q2, Bool.false_and]
      unfold Kd.ok kindB
      rw [h5]
      cases inB 1 500 x.room <;> cases inB 1 5000 x.most <;> cases decide ((x.zs.length : Int) = 5) <;> cases inB 0 1000 x.step <;> cases x.zs.all (inB 1 1000) <;> rfl
    obtain ⟨H, eH⟩ : ∃ y, y = hset (hset h' nx' (.cells [vi 0, vi 0, .slice none 0 0, vi 0] none)) nx' (.cells [vi x.room, vi x.most, .slice za x.zs.length zc, vi x.step] none) := ⟨_, rfl⟩
    have r7 : rowL H nx' = some x.row := by rw [eH, rowL_hset_same, hrw, hzv]
    have r7' : rowL H nx' = some [vi x.room, vi x.most, .slice za x.zs.length zc, vi x.step] := by rw [eH, rowL_hset_same]
    have sH : Same nx h H := by rw [eH]; exact (hs.set hn _).set hn _
    have body : ∃ vs2 h2 nx2, sC Tryz.prog 147 147 (execL Tryz.prog vmL S m) l16_2 z' vs' h' nx' = .nor z' vs2 h2 nx2 ∧ nx ≤ nx2 ∧ Same nx h h2 ∧ vs2 1 = some (pt p1) ∧ vs2 3 = some (.bool x.ok) ∧ vs2 6 = some (vi ((k : Int) + 1)) := by
      rcases Bool.eq_false_or_eq_true (inB 1 500 x.room) with s1 | s1 <;> rcases Bool.eq_false_or_eq_true (inB 1 5000 x.most) with s2 | s2 <;> rcases Bool.eq_false_or_eq_true (inB 0 1000 x.step) with s4 | s4 <;> by_cases s5 : (x.zs.length : Int) = 5
      all_goals (
        have s5' : ((x.zs.length : Int) == 5) = decide ((x.zs.length : Int) = 5) := rfl
        first | rw [decide_eq_true s5] at s5' hok | rw [decide_eq_false s5] at s5' hok
        rw [s1, s2, s4] at hok
        simp (maxSteps := 10000000) (implicitDefEqProofs := false) (disch := omega) only [l16_2, s_loop, e1, e3, e6, h1, hrow, hpk, hcs, q1, k40, s1, s2, s4, s5', ← eH, r7', hb_40, g_un, bz, put_none2, Nat.reduceEqDiff, Nat.reduceLT, Nat.reduceAdd]
        generalize hr : loopR _ _ _ _ _ = r
        obtain ⟨vs3, rfl, w1, w6, w3⟩ := loop16b hS hm (x := x) (h := H) (nx := nx' + 1) (hzm.same sH (by omega)) (by first | (intro q; cases q; done) | (intro _; omega)) r7 rfl rfl rfl hr
        have w1' := w1.trans (show _ = some (pt p1) by simp only [pq, Nat.reduceEqDiff, e1])
        have w6' := w6.trans (show _ = some (vi (k : Int)) by simp only [pq, Nat.reduceEqDiff, e6])
        refine ⟨_, _, _, by simp (maxSteps := 10000000) (implicitDefEqProofs := false) (disch := omega) only [w6', bz, put_none2, Nat.reduceEqDiff, Nat.reduceLT, Nat.reduceAdd]; exact rfl, by omega, sH, ?_, ?_, ?_⟩
        · simp only [pq, Nat.reduceEqDiff, w1']
        · rw [hok]; simp only [pq, Nat.reduceEqDiff, w3, Bool.and_true, Bool.and_false, Bool.true_and, Bool.false_and]
        · simp only [pq, Nat.reduceEqDiff])
    obtain ⟨vs2, h2, nx2, e, a1, a2, a3, a4, a5⟩ := body
    exact ⟨hlt, z', vs2, h2, nx2, e, by omega, rfl, a1, a2, a3, by rw [ht]; exact a4, a5⟩
  · right
    have e : ∃ vs2, sC Tryz.prog 147 147 (execL Tryz.prog vmL S m) l16_2 z' vs' h' nx' = .exi 2 z' vs2 h' nx' ∧ vs2 1 = vs' 1 ∧ vs2 3 = vs' 3 := by
      cases a with
      | false => refine ⟨_, by simp (maxSteps := 10000000) (implicitDefEqProofs := false) (disch := omega) only [l16_2, e1, e3, e6, g_un, gq_un, bz, put_none2, Nat.reduceEqDiff, Nat.reduceLT, Nat.reduceAdd]; exact rfl, ?_, ?_⟩ <;> simp only [pg, Nat.reduceEqDiff]
      | true =>
        have h1 : ¬ ((k : Int) < (b.K.length : Int)) := fun q => hlt ⟨by omega, rfl⟩
        refine ⟨_, by simp (maxSteps := 10000000) (implicitDefEqProofs := false) (disch := omega) only [l16_2, e1, e3, e6, h1, hrow, hpk, g_un, gq_un, bz, put_none2, Nat.reduceEqDiff, Nat.reduceLT, Nat.reduceAdd]; exact rfl, ?_, ?_⟩ <;> simp only [pg, Nat.reduceEqDiff]
    obtain ⟨vs2, e, q1, q3⟩ := e
    rw [e]
    refine ⟨trivial, vs2, h', nx', rfl, hn, hs, q1.trans e1, q3.trans (e3.trans ?_)⟩
    rw [← ea] at hlt ⊢
    by_cases hkl : k < b.K.length
    · have : (a0 && (b.K.take k).all Kd.ok) = false := by
        cases q : (a0 && (b.K.take k).all Kd.ok) with
        | false => rfl
        | true => exact (hlt ⟨hkl, q⟩).elim
      rw [this]
      cases a0 with
      | false => rfl
      | true => rw [Bool.true_and] at this; rw [all_cut this]; rfl
    · rw [show k = b.K.length by omega, List.take_length]
set_option maxHeartbeats 32000000
theorem inc_lt : ∀ (l : List Int) (y : Int), incB (y :: l) = true → ∀ t, t ∈ l → y < t := by
  intro l
  induction l with
  | nil => intro y _ t ht; cases ht
  | cons a l ih =>
    intro y h t ht
    simp only [incB, Bool.and_eq_true, decide_eq_true_eq] at h
    rcases List.mem_cons.1 ht with rfl | ht
    · exact h.1
    · have := ih a h.2 t ht; omega
theorem climb_inc : ∀ (s : List Int) (l : Int), climbQ l 1000 s = (s.all (inB l 1000) && incB s) := by
  intro s
  induction s with
  | nil => intro l; rfl
  | cons x s ih =>
    intro l
    simp only [climbQ]
    rw [ih, Bool.eq_iff_iff]
    simp only [Bool.and_eq_true, List.all_cons]
    constructor
    · rintro ⟨h1, h2, h3⟩
      have q := inB_iff h1
      refine ⟨⟨h1, List.all_eq_true.2 fun t ht => ?_⟩, ?_⟩
      · have := inB_iff (List.all_eq_true.1 h2 t ht)
        unfold inB; simp; omega
      · cases s with
        | nil => rfl
        | cons y s =>
          have := inB_iff (List.all_eq_true.1 h2 y List.mem_cons_self)
          simp only [incB, Bool.and_eq_true, decide_eq_true_eq]
          exact ⟨by omega, h3⟩
    · rintro ⟨⟨h1, h2⟩, h3⟩
      have hl := inc_lt s x h3
      refine ⟨h1, List.all_eq_true.2 fun t ht => ?_, ?_⟩
      · have := inB_iff (List.all_eq_true.1 h2 t ht)
        have := hl t ht
        unfold inB; simp; omega
      · cases s with
        | nil => rfl
        | cons y s => simp only [incB, Bool.and_eq_true] at h3; exact h3.2
theorem valid_is (b : Bk) : b.valid = ((((inB 1 7 b.P.length && (inB 1 4 b.K.length && (inB 1 5000 b.grams && (inB 0 10000 b.free && (inB 1 10000 b.unit && (inB 0 1000 b.fee && inB 1 5 b.S.length)))))) && b.P.all Pc.ok) && b.K.all Kd.ok) && climbQ 1 1000 b.S) := by
  rw [climb_inc]
  unfold Bk.valid
  cases inB 1 7 (b.P.length : Int) <;> cases inB 1 4 (b.K.length : Int) <;> cases inB 1 5000 b.grams <;> cases inB 0 10000 b.free <;> cases inB 1 10000 b.unit <;> cases inB 0 1000 b.fee <;> cases inB 1 5 (b.S.length : Int) <;> simp [Bool.and_assoc]
theorem c16 {S : Kn} (hS : S.Only [22]) {m : Nat} (hm : 3 ≤ m) {b : Bk} {h : Hp} {nx : Nat} (hb : b.At h nx) : callF 16 [.agg b.cells.toArray] (execL Tryz.prog vmL S m) h nx = .gen (vi (checkI b.valid true)) h nx [] := by
  refine fun16.ground (hS _ _ _ _ (by decide)) (by omega) rfl (by simp) ?_
  obtain ⟨G, eG⟩ : ∃ x, x = hset h nx (.cells b.cells none) := ⟨_, rfl⟩
  have hsm : Same nx h G := by rw [eG]; exact (Same.refl nx h).set (Nat.le_refl _) _
  have hb' := hb.same hsm (nx' := nx + 1) (by omega)
  have r0 : rowL G nx = some b.cells := by rw [eG]; exact rowL_hset_same _ _
  obtain ⟨pa, pc, hpv, _⟩ := hb.p.form
  rw [List.length_map] at hpv
  obtain ⟨ka, kc, hkv, _⟩ := hb.k.form
  rw [List.length_map] at hkv
  obtain ⟨sa, sc, hsv, _⟩ := hb.s.form
  rw [ints_len] at hsv
  have x0 : part1 false 1 b.cells 0 = some b.pv := rfl
  have x1 : part1 false 1 b.cells 1 = some b.kv := rfl
  have x2 : part1 false 1 b.cells 2 = some (vi b.grams) := rfl
  have x3 : part1 false 1 b.cells 3 = some (vi b.free) := rfl
  have x4 : part1 false 1 b.cells 4 = some (vi b.unit) := rfl
  have x5 : part1 false 1 b.cells 5 = some (vi b.fee) := rfl
  have x6 : part1 false 1 b.cells 6 = some b.sv := rfl
  rw [hpv] at x0
  rw [hkv] at x1
  rw [hsv] at x6
  have k40 := fun (h : Hp) (nx : Nat) (x lo hi : Int) => c40 hS (m := m - 1) (h := h) (nx := nx) (by omega) x lo hi
  have hval := valid_is b
  rcases Bool.eq_false_or_eq_true (inB 1 7 (b.P.length : Int)) with s1 | s1
  rcases Bool.eq_false_or_eq_true (inB 1 4 (b.K.length : Int)) with s2 | s2
  rcases Bool.eq_false_or_eq_true (inB 1 5000 b.grams) with s3 | s3
  rcases Bool.eq_false_or_eq_true (inB 0 10000 b.free) with s4 | s4
  rcases Bool.eq_false_or_eq_true (inB 1 10000 b.unit) with s5 | s5
  rcases Bool.eq_false_or_eq_true (inB 0 1000 b.fee) with s6 | s6
  rcases Bool.eq_false_or_eq_true (inB 1 5 (b.S.length : Int)) with s7 | s7
  all_goals (
    first
      | (simp only [s1, s2, s3, s4, s5, s6, s7, Bool.true_and, Bool.false_and] at hval; simp (maxSteps := 10000000) (implicitDefEqProofs := false) (disch := omega) only [s16, s_loop, ← eG, r0, x0, x1, x2, x3, x4, x5, x6, k40, s1, s2, s3, s4, s5, s6, s7, hb_40, g_un, gq_un, bz, put_none2, Nat.reduceEqDiff, Nat.reduceLT, Nat.reduceAdd])
      | (simp only [s1, s2, s3, s4, s5, s6, Bool.true_and, Bool.false_and] at hval; simp (maxSteps := 10000000) (implicitDefEqProofs := false) (disch := omega) only [s16, s_loop, ← eG, r0, x0, x1, x2, x3, x4, x5, x6, k40, s1, s2, s3, s4, s5, s6, hb_40, g_un, gq_un, bz, put_none2, Nat.reduceEqDiff, Nat.reduceLT, Nat.reduceAdd])
      | (simp only [s1, s2, s3, s4, s5, Bool.true_and, Bool.false_and] at hval; simp (maxSteps := 10000000) (implicitDefEqProofs := false) (disch := omega) only [s16, s_loop, ← eG, r0, x0, x1, x2, x3, x4, x5, x6, k40, s1, s2, s3, s4, s5, hb_40, g_un, gq_un, bz, put_none2, Nat.reduceEqDiff, Nat.reduceLT, Nat.reduceAdd])
      | (simp only [s1, s2, s3, s4, Bool.true_and, Bool.false_and] at hval; simp (maxSteps := 10000000) (implicitDefEqProofs := false) (disch := omega) only [s16, s_loop, ← eG, r0, x0, x1, x2, x3, x4, x5, x6, k40, s1, s2, s3, s4, hb_40, g_un, gq_un, bz, put_none2, Nat.reduceEqDiff, Nat.reduceLT, Nat.reduceAdd])
      | (simp only [s1, s2, s3, Bool.true_and, Bool.false_and] at hval; simp (maxSteps := 10000000) (implicitDefEqProofs := false) (disch := omega) only [s16, s_loop, ← eG, r0, x0, x1, x2, x3, x4, x5, x6, k40, s1, s2, s3, hb_40, g_un, gq_un, bz, put_none2, Nat.reduceEqDiff, Nat.reduceLT, Nat.reduceAdd])
      | (simp only [s1, s2, Bool.true_and, Bool.false_and] at hval; simp (maxSteps := 10000000) (implicitDefEqProofs := false) (disch := omega) only [s16, s_loop, ← eG, r0, x0, x1, x2, x3, x4, x5, x6, k40, s1, s2, hb_40, g_un, gq_un, bz, put_none2, Nat.reduceEqDiff, Nat.reduceLT, Nat.reduceAdd])
      | (simp only [s1, Bool.true_and, Bool.false_and] at hval; simp (maxSteps := 10000000) (implicitDefEqProofs := false) (disch := omega) only [s16, s_loop, ← eG, r0, x0, x1, x2, x3, x4, x5, x6, k40, s1, hb_40, g_un, gq_un, bz, put_none2, Nat.reduceEqDiff, Nat.reduceLT, Nat.reduceAdd])
    generalize hr : loopR _ _ _ _ _ = r
    obtain ⟨v1, H1, n1, rfl, hn1, hs1, a1, a3⟩ := loop16a hS (m := m - 1) (by omega) hb' r0 (by omega) (by show nx ≤ nx + 1; omega) rfl rfl rfl hr
    have hb1 := hb'.same hs1 hn1
    have r1 : rowL H1 nx = some b.cells := by rw [rowL_same hs1 (by omega)]; exact r0
    simp (maxSteps := 10000000) (implicitDefEqProofs := false) (disch := omega) only [s_loop, a1, a3, bz, put_none2, Nat.reduceEqDiff, Nat.reduceLT, Nat.reduceAdd]
    generalize hr : loopR _ _ _ _ _ = r
    obtain ⟨v2, H2, n2, rfl, hn2, hs2, d1, d3⟩ := loop16c hS (m := m - 1) (by omega) hb1 r1 (by omega) (by show nx ≤ n1; omega) (by simp only [pq, Nat.reduceEqDiff, a1]) (by simp only [pq, Nat.reduceEqDiff]; exact a3) (by simp only [pq, Nat.reduceEqDiff]) hr
    have hb2 := hb1.same hs2 hn2
    have r2 : rowL H2 nx = some b.cells := by rw [rowL_same hs2 (by omega)]; exact r1
    simp (maxSteps := 10000000) (implicitDefEqProofs := false) (disch := omega) only [s_loop, d1, d3, bz, put_none2, Nat.reduceEqDiff, Nat.reduceLT, Nat.reduceAdd]
    generalize hr : loopR _ _ _ _ _ = r
    obtain ⟨v3, rfl, w3⟩ := loop16d hS (m := m - 1) (by omega) hb2 r2 (by simp only [pq, Nat.reduceEqDiff, d1]) (by simp only [pq, Nat.reduceEqDiff]; exact d3) (by simp only [pq, Nat.reduceEqDiff]) (by simp only [pq, Nat.reduceEqDiff]) hr
    have w3' : v3 3 = some (.bool b.valid) := w3.trans (by rw [hval]; simp)
    rcases Bool.eq_false_or_eq_true b.valid with hv | hv
    · rw [hv] at w3'
      rw [hv, checkI_tt]
      simp (maxSteps := 10000000) (implicitDefEqProofs := false) (disch := omega) only [w3', bz, put_none2, Nat.reduceEqDiff, Nat.reduceLT, Nat.reduceAdd]
      exact ⟨_, _, rfl⟩
    · rw [hv] at w3'
      rw [hv, checkI_f]
      simp (maxSteps := 10000000) (implicitDefEqProofs := false) (disch := omega) only [w3', bz, put_none2, Nat.reduceEqDiff, Nat.reduceLT, Nat.reduceAdd]
      exact ⟨_, _, rfl⟩)
theorem c56 {S : Kn} (hS : S.Only [22]) {m : Nat} (hm : 4 ≤ m) {b : Bk} {h : Hp} {nx : Nat} (hb : b.At h nx) (t : Bool) : callF 56 [.agg b.cells.toArray, .bool t] (execL Tryz.prog vmL S m) h nx = .gen (vi (checkI b.valid t)) h nx [] := by
  refine fun56.ground (hS _ _ _ _ (by decide)) (by omega) rfl (by simp) ?_
  obtain ⟨G, eG⟩ : ∃ x, x = hset h nx (.cells b.cells none) := ⟨_, rfl⟩
  have hsm : Same nx h G := by rw [eG]; exact (Same.refl nx h).set (Nat.le_refl _) _
  have hb' := hb.same hsm (nx' := nx + 1) (by omega)
  have r0 : rowL G nx = some b.cells := by rw [eG]; exact rowL_hset_same _ _
  have hp7 : part1 true 7 b.cells 0 = some (.agg b.cells.toArray) := rfl
  have k16 := c16 hS (m := m - 1) (by omega) hb'
  rcases Bool.eq_false_or_eq_true b.valid with hv | hv
  · rw [hv, checkI_tt] at k16
    rw [hv]
    cases t
    · rw [show checkI true false = 61 from rfl]
      simp (maxSteps := 10000000) (implicitDefEqProofs := false) (disch := omega) only [s56, ← eG, r0, hp7, k16, hb_16, g_un, show ((0 : Int) != 0) = false from rfl, bz, put_none2, Nat.reduceEqDiff, Nat.reduceLT, Nat.reduceAdd]
      exact ⟨_, _, rfl⟩
    · rw [checkI_tt]
      simp (maxSteps := 10000000) (implicitDefEqProofs := false) (disch := omega) only [s56, ← eG, r0, hp7, k16, hb_16, g_un, show ((0 : Int) != 0) = false from rfl, bz, put_none2, Nat.reduceEqDiff, Nat.reduceLT, Nat.reduceAdd]
      exact ⟨_, _, rfl⟩
  · rw [hv, checkI_f] at k16
    rw [hv, checkI_f]
    simp (maxSteps := 10000000) (implicitDefEqProofs := false) (disch := omega) only [s56, ← eG, r0, hp7, k16, hb_16, g_un, show ((60 : Int) != 0) = true from rfl, bz, put_none2, Nat.reduceEqDiff, Nat.reduceLT, Nat.reduceAdd]
    exact ⟨_, _, rfl⟩
theorem loop21 {ih : Rec} {zs : List Int} {z : Z} {vs : Vs} {h : Hp} {nx : Nat} {v w : Value} (hl : zs.length ≤ 1000) (hv : Lst h nx 1 v (ints zs)) (hw : Lst h nx 1 w (ints zs))
    (g0 : vs 0 = some v) (g1 : vs 1 = some w) (g5 : vs 5 = some (.bool true)) (g6 : vs 6 = some (vi 0)) {r : R} (hr : loopR (sC Tryz.prog 31 31 ih l21_0) z vs h nx = r) :
    ∃ vs', r = .exi 0 z vs' h nx ∧ vs' 5 = some (.bool true) := by
  subst hr
  refine loop_rule (Post := fun r => ∃ vs', r = .exi 0 z vs' h nx ∧ vs' 5 = some (.bool true))
    (fun i z' vs' h' nx' => i ≤ zs.length ∧ z' = z ∧ nx' = nx ∧ h' = h ∧ vs' 0 = some v ∧ vs' 1 = some w ∧ vs' 5 = some (.bool true) ∧ vs' 6 = some (vi (i : Int))) zs.length (by omega)
    ⟨Nat.zero_le _, rfl, rfl, rfl, g0, g1, g5, g6⟩ ?_
  rintro i z' vs' h' nx' ⟨hi, rfl, rfl, rfl, e0, e1, e5, e6⟩
  by_cases hlt : i < zs.length
  · left
    have h1 : ((i : Int) < (zs.length : Int)) := by omega
    obtain ⟨rr, o, cs, c, rfl, hcs, hrn, hel⟩ := int_el hv hlt
    obtain ⟨rr2, o2, cs2, c2, rfl, hcs2, hrn2, hel2⟩ := int_el hw hlt
    refine ⟨hlt, z', _, _, _, (by simp (maxSteps := 10000000) (implicitDefEqProofs := false) (disch := omega) only [l21_0, lok16, e0, e1, e5, e6, h1, hcs, hel, hcs2, hel2, g_un, gq_un, bz, put_none2, Nat.reduceEqDiff, Nat.reduceLT, Nat.reduceAdd]; exact rfl), by omega, rfl, rfl, rfl, ?_, ?_, ?_, ?_⟩
    · simp only [pq, Nat.reduceEqDiff, e0]
    · simp only [pq, Nat.reduceEqDiff, e1]
    · simp only [pq, Nat.reduceEqDiff, beq_self_eq_true]
    · simp only [pq, Nat.reduceEqDiff]; rfl
  · right
    have h1 : ¬ ((i : Int) < (zs.length : Int)) := by omega
    obtain ⟨a, c, rfl, _⟩ := hv.form
    rw [ints_len] at e0
    have e : ∃ vs2, sC Tryz.prog 31 31 ih l21_0 z' vs' h' nx' = .exi 0 z' vs2 h' nx' ∧ vs2 5 = vs' 5 := by
      refine ⟨_, by simp (maxSteps := 10000000) (implicitDefEqProofs := false) (disch := omega) only [l21_0, e0, e5, e6, h1, g_un, bz, put_none2, Nat.reduceEqDiff, Nat.reduceLT, Nat.reduceAdd]; exact rfl, ?_⟩
      simp only [pg, Nat.reduceEqDiff]
    obtain ⟨vs2, e, q5⟩ := e
    rw [e]
    exact ⟨trivial, vs2, rfl, q5.trans e5⟩
theorem c21 {S : Kn} (hS : S.Only [22]) {m : Nat} (hm : 1 ≤ m) {zs : List Int} {h : Hp} {nx : Nat} {v w : Value} (hl : zs.length ≤ 1000) (hv : Lst h nx 1 v (ints zs)) (hw : Lst h nx 1 w (ints zs)) : callF 21 [v, w] (execL Tryz.prog vmL S m) h nx = .gen (.bool true) h nx [] := by
  refine fun21.ground (hS _ _ _ _ (by decide)) (by omega) rfl (by simp) ?_
  obtain ⟨a, c, e0, _⟩ := hv.form
  obtain ⟨a2, c2, e1, _⟩ := hw.form
  rw [ints_len] at e0 e1
  have bs : ((zs.length : Int) == (zs.length : Int)) = true := beq_self_eq_true _
  rw [e0, e1]
  simp (maxSteps := 10000000) (implicitDefEqProofs := false) (disch := omega) only [s21, s_loop, bs, bz, put_none2, Nat.reduceEqDiff, Nat.reduceLT, Nat.reduceAdd]
  generalize hr : loopR _ _ _ _ _ = r
  obtain ⟨vs', rfl, q5⟩ := loop21 hl hv hw (by rw [e0]; rfl) (by rw [e1]; rfl) rfl rfl hr
  simp (maxSteps := 10000000) (implicitDefEqProofs := false) (disch := omega) only [q5, bz, put_none2, Nat.reduceEqDiff, Nat.reduceLT, Nat.reduceAdd]
  exact ⟨_, _, rfl⟩
set_option maxHeartbeats 64000000
def ScOk (b : Bk) : Prop := ∃ a c, b.sv = .slice a b.S.length c ∧ b.S.length ≤ c ∧ c < HALF
theorem new_lotL {h h' : Hp} {nx nx' : Nat} {u : Value} {F : List Int} (a : NewL h nx h' nx' 1 u (lotV F)) : Lst h' nx' 1 u (ints F) := by
  rcases a.is with ⟨q, rfl, _, _⟩ | ⟨n, c, b, rfl, rfl, rfl, q, _⟩
  · have : F = [] := by unfold lotV at q; simpa using q
    subst this
    exact lst_none
  · have := lst_rowc (h := hset h nx (.cells (lotV F) b)) (nx := nx + 1) (l := lotV F) c (by omega) (rowL_hset_same _ _)
    rw [show (lotV F).length = n by omega] at this
    have e : (lotV F).map (fun x => [x]) = ints F := by unfold lotV ints; rw [List.map_map]; rfl
    rw [e] at this
    exact this
theorem loop31c {S : Kn} (hS : S.Only [22]) {m : Nat} (hm : 1 ≤ m) {b : Bk} {A : List Int} {W p2 : Nat} {z : Z} {vs : Vs} {h : Hp} {nx : Nat} (hF : b.Fine) (hc : ScOk b) (hb0 : b.At h z.n0) (hz : z.n0 ≤ nx) (hA : BestS b.S W A) (hW : W ≤ 50000) (hp2 : rowL h p2 = some b.cells) (hp2n : z.n0 ≤ p2) (hpn : p2 < nx)
    (g2 : vs 2 = some (pt p2)) (g9 : vs 9 = some (vi W)) (g10 : vs 10 = some (vi A.sum)) (g11 : vs 11 = some (.slice none 0 0)) (g12 : vs 12 = some (vi 0)) {r : R} (hr : loopR (sC Tryz.prog 93 93 (execL Tryz.prog vmL S m) l31_2) z vs h nx = r) :
    ∃ vs' h' nx' u, r = .exi 2 z vs' h' nx' ∧ vs' 11 = some u ∧ OwnL h' nx nx' 1 u (lotV A) := by
  subst hr
  obtain ⟨V1, V2⟩ := fine_v hF
  have hs5 := hF.s5
  have hAl := hA.lot.len
  obtain ⟨sa, sc, hsv, hsc1, hsc2⟩ := hc
  refine loop_rule (Post := fun r => ∃ vs' h' nx' u, r = .exi 2 z vs' h' nx' ∧ vs' 11 = some u ∧ OwnL h' nx nx' 1 u (lotV A))
    (fun i z' vs' h' nx' => i ≤ b.S.length ∧ z' = z ∧ nx ≤ nx' ∧ Same nx h h' ∧ vs' 2 = some (pt p2) ∧ vs' 12 = some (vi (i : Int)) ∧ (∃ lf : Nat, lf ≤ 50000 ∧ BestS (b.S.drop i) lf (A.drop i) ∧ vs' 9 = some (vi lf)) ∧ vs' 10 = some (vi (A.drop i).sum) ∧ ∃ u, vs' 11 = some u ∧ OwnL h' nx nx' 1 u (lotV (A.take i))) b.S.length (by omega)
    ⟨Nat.zero_le _, rfl, Nat.le_refl _, Same.refl _ _, g2, g12, ⟨W, hW, hA, g9⟩, g10, _, g11, .nil⟩ ?_
  rintro i z' vs' h' nx' ⟨hi, rfl, hn, hs, e2, e12, ⟨lf, hlf, hB, e9⟩, e10, u, e11, hu⟩
  have hrow : rowL h' p2 = some b.cells := by rw [rowL_same hs hpn]; exact hp2
  have x6 : part1 false 1 b.cells 6 = some b.sv := rfl
  rw [hsv] at x6
  by_cases hlt : i < b.S.length
  · left
    have h1 : ((i : Int) < (b.S.length : Int)) := by omega
    have hiA : i < A.length := by omega
    have hbn := hb0.same (hs.mono hz) (nx' := nx') (by omega)
    have hbn0 := hb0.same (hs.mono hz) (nx' := z'.n0) (Nat.le_refl _)
    obtain ⟨r1, o1, cs1, c1, hsv1, hcs1, hrn1, hel1⟩ := int_at hbn0.s hlt
    rw [hsv] at hsv1
    injection hsv1 with ea _ ec
    subst ea ec
    have hVd : b.S.drop i = b.S[i] :: b.S.drop (i + 1) := List.drop_eq_getElem_cons hlt
    have hAd : A.drop i = A[i] :: A.drop (i + 1) := List.drop_eq_getElem_cons hiA
    rw [hVd, hAd] at hB
    rw [hAd, List.sum_cons] at e10
    obtain ⟨an, han⟩ : ∃ n : Nat, A[i] = (n : Int) := ⟨A[i].toNat, by have := hB.lot.pos A[i] List.mem_cons_self; omega⟩
    have hlist := lst_from (l := i + 1) (by have := hbn.s; rw [hsv] at this; exact this) (by omega) hsc1
    have hfrom := sl_from (rr := r1) (o := o1) (n := b.S.length) (c := sc) (l := i + 1) (by omega) hsc2
    have hV1' : ∀ v, v ∈ b.S.drop (i + 1) → 1 ≤ v := fun v hv => V1 v (List.mem_of_mem_drop hv)
    have hV1x : ∀ v, v ∈ b.S[i] :: b.S.drop (i + 1) → 1 ≤ v := fun v hv => by rw [← hVd] at hv; exact V1 v (List.mem_of_mem_drop hv)
    obtain ⟨F, hFs, hFl, w, h2, nx2, k74, hw⟩ := c74 hS (m := m) hm (V := b.S.drop (i + 1)) (most := lf) (h := h') (nx := nx') hV1' (fun v hv => V2 v (List.mem_of_mem_drop hv)) (by rw [List.length_drop]; omega) hlf hlist
    obtain ⟨hn2, hs2⟩ := hw.keep
    have hx2 := V2 _ (List.getElem_mem hlt)
    have hx1 := V1 _ (List.getElem_mem hlt)
    rw [han] at hB e10
    have os2 := fun (nv : Nat) (ih : Rec) (vs : Vs) (h : Hp) (nx : Nat) (x y : Operand) => o_slice (P := Tryz.prog) (nv := nv) (ih := ih) (vs := vs) (h := h) (nx := nx) 24 x (some y) none none
    have hil : ((i : Int) + 1) = ((i + 1 : Nat) : Int) := by omega
    have body : ∃ vs3 h3 nx3 u3, sC Tryz.prog 93 93 (execL Tryz.prog vmL S m) l31_2 z' vs' h' nx' = .nor z' vs3 h3 nx3 ∧ nx ≤ nx3 ∧ Same nx h h3 ∧ vs3 2 = some (pt p2) ∧ vs3 12 = some (vi ((i + 1 : Nat) : Int)) ∧ vs3 9 = some (vi ((lf : Int) - (an : Int) * b.S[i])) ∧ vs3 10 = some (vi (A.drop (i + 1)).sum) ∧ vs3 11 = some u3 ∧ OwnL h3 nx nx3 1 u3 (lotV (A.take (i + 1))) := by
      simp (maxSteps := 10000000) (implicitDefEqProofs := false) (disch := omega) only [l31_2, s_loop, e2, e9, e12, h1, hrow, x6, hil, os2, opVO_none, opVO_some, hfrom, k74, plS_24_0_, plS_24_2_0_1, bz, put_none2, Nat.reduceEqDiff, Nat.reduceLT, Nat.reduceAdd]
      generalize hr : loopR _ _ _ _ _ = r
      have hp2' : rowL h2 p2 = some b.cells := by rw [rowL_same hs2 (by omega)]; exact hrow
      obtain ⟨vs2, rfl, w2, w9, w10, w11, w12, w14⟩ := loop31b (b := b) (x := b.S[i]) (V := b.S.drop (i + 1)) (A := A.drop (i + 1)) (F := F) (an := an) (k := i) (lf := lf) (p2 := p2) (v := w) hV1x hx2 hB hlf hFs hFl (new_lotL hw) (hbn.same hs2 hn2) hlt rfl hs5 hp2'
        (by simp only [pq, Nat.reduceEqDiff, e2])
        (by simp only [pq, Nat.reduceEqDiff, e9])
        (by simp only [pq, Nat.reduceEqDiff, e10])
        (by simp only [pq, Nat.reduceEqDiff, e12]) rfl rfl hr
      have w2' := w2.trans (show _ = some (pt p2) by simp only [pq, Nat.reduceEqDiff, e2])
      have w9' := w9.trans (show _ = some (vi (lf : Int)) by simp only [pq, Nat.reduceEqDiff, e9])
      have w10' := w10.trans (show _ = some (vi ((an : Int) + (A.drop (i + 1)).sum)) by simp only [pq, Nat.reduceEqDiff, e10])
      have w11' := w11.trans (show _ = some u by simp only [pq, Nat.reduceEqDiff, e11])
      have w12' := w12.trans (show _ = some (vi (i : Int)) by simp only [pq, Nat.reduceEqDiff, e12])
      obtain ⟨H2, eH2⟩ : ∃ x, x = hset h2 nx2 (.cells [vi an] none) := ⟨_, rfl⟩
      have hsH : Same nx2 h2 H2 := by rw [eH2]; exact (Same.refl nx2 h2).set (Nat.le_refl _) _
      have evH2 : OwnL H2 nx (nx2 + 1) 1 u (lotV (A.take i)) := hu.same (by omega) fun r len hv => by
        rcases hu.is with ⟨_, q⟩ | ⟨r', len', q1, q2, q3, _⟩
        · rw [q] at hv; cases hv
        · rw [q3] at hv; cases hv
          rw [hsH _ (by omega)]
          exact hs2 _ (by omega)
      have htl : (lotV (A.take i)).length = i * 1 := by rw [lotV_len, List.length_take]; omega
      obtain ⟨v', h3, M, ap, lg, own, fr, _⟩ := evH2.app (k := i) (x := .slice (some ⟨nx2, 0, none⟩) 1 1) (new := [vi an]) (by omega) (appended_row (by rw [eH2]; exact rowL_hset_same _ _) rfl) rfl (by omega) htl (by omega)
      have lgz := lg z' (by omega)
      have hs3 : Same nx h h3 := fun s hss => by rw [fr s hss, hsH s (by omega), hs2 s (by omega)]; exact hs s hss
      have hrow3 : rowL h3 p2 = some b.cells := by rw [rowL_same hs3 hpn]; exact hp2
      have hcs3 : rowL h3 r1 = some cs1 := by
        unfold rowL at hcs1 ⊢
        rw [fr r1 (by omega), hsH r1 (by omega), hs2 r1 (by omega)]; exact hcs1
      have hmul := Int.mul_nonneg (show (0 : Int) ≤ an by omega) (show 0 ≤ b.S[i] by omega)
      have hdot := hB.lot.worth
      simp only [dotS] at hdot
      rw [Int.mul_comm] at hdot
      have hdn := dot_nonneg _ _ hV1' (fun y hy => hB.lot.pos y (List.mem_cons_of_mem _ hy))
      have hsub : (an : Int) + (A.drop (i + 1)).sum - an = (A.drop (i + 1)).sum := by omega
      have hsum := sum_le_dot _ _ hB.lot.len hV1x hB.lot.pos
      rw [hB.lot.worth, List.sum_cons] at hsum
      have hsn := sum_nonneg (A.drop (i + 1)) (fun y hy => hB.lot.pos y (List.mem_cons_of_mem _ hy))
      refine ⟨_, _, _, v', by simp (maxSteps := 10000000) (implicitDefEqProofs := false) (disch := omega) only [w2', w9', w10', w11', w12', w14, ← eH2, ap, lgz, appF_24, hrow3, x6, h1, hcs3, hel1, hsub, plS_24_0_, plS_24_2_0_1, bz, put_none2, Nat.reduceEqDiff, Nat.reduceLT, Nat.reduceAdd]; exact rfl, ?_, hs3, ?_, ?_, ?_, ?_, ?_, ?_⟩
      · omega
      · simp only [pq, Nat.reduceEqDiff, w2']
      · simp only [pq, Nat.reduceEqDiff]; rfl
      · simp only [pq, Nat.reduceEqDiff]
      · simp only [pq, Nat.reduceEqDiff]
      · simp only [pq, Nat.reduceEqDiff]
      · have : lotV (A.take (i + 1)) = lotV (A.take i) ++ [vi an] := by
          unfold lotV
          rw [List.take_add_one, List.getElem?_eq_getElem hiA, han, List.map_append]; rfl
        rw [this]; exact own
    obtain ⟨vs3, h3, nx3, u3, hbod, q1, q2, q3, q4, q5, q6, q7, q8⟩ := body
    have hdot := hB.lot.worth
    simp only [dotS] at hdot
    have hdn := dot_nonneg _ _ hV1' (fun y hy => hB.lot.pos y (List.mem_cons_of_mem _ hy))
    have hmul := Int.mul_nonneg (show 0 ≤ b.S[i] by omega) (show (0 : Int) ≤ an by omega)
    obtain ⟨lf2, hlf2⟩ : ∃ n : Nat, (lf : Int) - b.S[i] * an = n := ⟨((lf : Int) - b.S[i] * an).toNat, by omega⟩
    have hB2 := best_tail hB
    rw [hlf2] at hB2
    rw [Int.mul_comm (an : Int), hlf2] at q5
    exact ⟨hlt, z', vs3, h3, nx3, hbod, by omega, rfl, q1, q2, q3, q4, ⟨lf2, by omega, hB2, q5⟩, q6, u3, q7, q8⟩
  · right
    have h1 : ¬ ((i : Int) < (b.S.length : Int)) := by omega
    have e : ∃ vs2, sC Tryz.prog 93 93 (execL Tryz.prog vmL S m) l31_2 z' vs' h' nx' = .exi 2 z' vs2 h' nx' ∧ vs2 11 = vs' 11 := by
      refine ⟨_, by simp (maxSteps := 10000000) (implicitDefEqProofs := false) (disch := omega) only [l31_2, e2, e12, h1, hrow, x6, plS_24_0_, plS_24_2_0_1, bz, put_none2, Nat.reduceEqDiff, Nat.reduceLT, Nat.reduceAdd]; exact rfl, ?_⟩
      simp only [pg, Nat.reduceEqDiff]
    obtain ⟨vs2, e, q11⟩ := e
    rw [e]
    rw [List.take_of_length_le (by omega)] at hu
    exact ⟨trivial, vs2, h', nx', u, rfl, q11.trans e11, hu⟩
theorem best_ex {V : List Int} (h1 : ∀ v, v ∈ V → 1 ≤ v) : ∀ w : Nat, (∀ B, ¬ LotS V w B) ∨ ∃ A, BestS V w A := by
  intro w
  induction w using Nat.strongRecOn with
  | _ w ih =>
    by_cases hw : w = 0
    · subst hw; exact .inr ⟨_, best_zero V h1⟩
    · have key : ∀ i : Nat, i ≤ V.length → ∃ o, UptoS V w i o := by
        intro i
        induction i with
        | zero => intro _; exact ⟨none, upto_zero _ _⟩
        | succ i ihi =>
          intro hi
          obtain ⟨o, ho⟩ := ihi (by omega)
          have hvi : V[i]? = some V[i] := List.getElem?_eq_getElem (by omega)
          have hv1 := h1 V[i] (List.getElem_mem (by omega))
          by_cases hneg : (w : Int) - V[i] < 0
          · exact ⟨o, upto_skip ho hvi (few_neg h1 hneg)⟩
          · obtain ⟨j, hj⟩ : ∃ j : Nat, (w : Int) - V[i] = j := ⟨((w : Int) - V[i]).toNat, by omega⟩
            rcases ih j (by omega) with q | ⟨A, q⟩
            · exact ⟨o, upto_skip ho hvi (by rw [hj]; exact q)⟩
            · exact ⟨_, upto_one ho hvi (by rw [hj]; exact q)⟩
      obtain ⟨o, ho⟩ := key V.length (Nat.le_refl _)
      have hu := upto_all (show (0 : Int) < w by omega) ho
      cases o with
      | none => exact .inl hu
      | some A => exact .inr ⟨A, hu⟩
theorem c31 {S : Kn} (hS : S.Only [22]) {m : Nat} (hm : 6 ≤ m) {b : Bk} {h : Hp} {nx : Nat} {c : Int} (hb : b.At h nx) (hc : ScOk b) :
    ∃ zs, SaidS b c zs ∧ ∃ u h' nx', callF 31 [.agg b.cells.toArray, vi c] (execL Tryz.prog vmL S m) h nx = .gen (.tuple #[u, vi (checkI b.valid (inB 0 20000 c))]) h' nx' [] ∧ NewL h nx h' nx' 1 u (lotV zs) := by
  obtain ⟨G, eG⟩ : ∃ x, x = hset h nx (.cells b.cells none) := ⟨_, rfl⟩
  have hsm : Same nx h G := by rw [eG]; exact (Same.refl nx h).set (Nat.le_refl _) _
  have hb' := hb.same hsm (nx' := nx + 1) (by omega)
  have r0 : rowL G nx = some b.cells := by rw [eG]; exact rowL_hset_same _ _
  have hp7 : part1 true 7 b.cells 0 = some (.agg b.cells.toArray) := rfl
  have k56 := fun t => c56 hS (m := m - 1) (by omega) hb' t
  have k40 := c40 hS (m := m - 1) (h := G) (nx := nx + 1) (by omega) c 0 20000
  have key : ∃ zs, SaidS b c zs ∧ ∃ v h1 n1, ListOut nx h1 1 v (lotV zs) ∧ doneR Tryz.prog 93 [.tmp 4, .tmp 5] (sC Tryz.prog 93 93 (execL Tryz.prog vmL S (m - 1)) s31 ⟨nx, none, [], []⟩ (enum [.agg b.cells.toArray, vi c] 0) h nx) = .val (.tuple #[v, vi (checkI b.valid (inB 0 20000 c))]) h1 n1 [] := by
    rcases Bool.eq_false_or_eq_true b.valid with hv | hv
    · rcases Bool.eq_false_or_eq_true (inB 0 20000 c) with hq | hq
      · have hF := Bk.fine hv
        obtain ⟨V1, V2⟩ := fine_v hF
        have hl1 := hF.s1
        obtain ⟨v0, V, hVV⟩ : ∃ v0 V, b.S = v0 :: V := by
          cases hbs : b.S with
          | nil => rw [hbs] at hl1; simp at hl1
          | cons v0 V => exact ⟨v0, V, rfl⟩
        have hv0 := V1 v0 (by rw [hVV]; exact List.mem_cons_self)
        have hv02 := V2 v0 (by rw [hVV]; exact List.mem_cons_self)
        obtain ⟨hc0, hc2⟩ := inB_iff hq
        obtain ⟨cap, hcap⟩ : ∃ cap : Nat, c + v0 = cap := ⟨(c + v0).toNat, by omega⟩
        obtain ⟨wi, hw1, hw2, hwl⟩ := lot_first (V := V) hv0 hc0
        obtain ⟨W, rfl⟩ : ∃ W : Nat, wi = W := ⟨wi.toNat, by omega⟩
        rw [← hVV] at hwl
        obtain ⟨rr, o, cs, sc, hsv, hcs, hrn, hel⟩ := int_at hb'.s (i := 0) (by omega)
        have hV0 : b.S[0]'(by omega) = v0 := by simp only [hVV, List.getElem_cons_zero]
        rw [hV0, Nat.zero_mul, Nat.add_zero] at hel
        have x6 : part1 false 1 b.cells 6 = some b.sv := rfl
        rw [hsv] at x6
        have hls : (0 : Int) < (b.S.length : Int) := by omega
        have hix : idxOf b.S.length (.int .i64 0) = some 0 := idx_nat b.S.length .i64 0 (by omega)
        have hlst := hb'.s
        rw [hsv] at hlst
        obtain ⟨F, hFs, hFl, w, h2, n2, k74, hw⟩ := c74 hS (m := m - 1) (by omega) (V := b.S) (most := cap) (h := G) (nx := nx + 1) V1 V2 hF.s5 (by omega) hlst
        obtain ⟨hn2, hs2⟩ := hw.keep
        have k56t := k56 true
        rw [hv, checkI_tt] at k56t
        rw [hq] at k40
        rw [hv, hq, checkI_tt]
        simp (maxSteps := 10000000) (implicitDefEqProofs := false) (disch := omega) only [s31, s_loop, lok15, lokx3, ← eG, r0, hp7, k40, k56t, hb_40, hb_56, x6, hcs, hel, hix, hls, hcap, Nat.zero_mul, k74, g_un, gq_un, show ((0 : Int) != 0) = false from rfl, plS_24_0_, plS_24_2_0_1, bz, put_none2, Nat.reduceEqDiff, Nat.reduceLT, Nat.reduceAdd]
        generalize hr : loopR _ _ _ _ _ = r
        obtain ⟨vs2, wn, rfl, w2, w7, w8, a1, a2, a3, a4⟩ := loop31a (V := b.S) (F := F) (c := c) (W := W) V1 hFs (by omega) hc0 hw1 (by omega) hwl (new_lotL hw) rfl rfl hr
        obtain ⟨A, hA⟩ : ∃ A, BestS b.S wn A := by
          obtain ⟨B, hB⟩ := a3
          rcases best_ex V1 wn with q | q
          · exact absurd hB (q B)
          · exact q
        have hFw := few_same (hFs wn _ (List.getElem?_eq_getElem a2)) (best_few hA)
        obtain ⟨r2, o2, cs2, c2, hv2, hcs2, hrn2, hel2⟩ := int_at (new_lotL hw) a2
        rw [hFw] at hel2
        have w2' : vs2 2 = some (pt nx) := w2
        have w7' : vs2 7 = some w := w7
        rw [hv2] at w7'
        have hwn : (wn : Int) < (F.length : Int) := by omega
        have hixw : idxOf F.length (.int .i64 (wn : Int)) = some wn := idx_nat F.length .i64 wn (by omega)
        simp (maxSteps := 10000000) (implicitDefEqProofs := false) (disch := omega) only [s_loop, w2', w7', w8, lokx4, hixw, hcs2, hel2, g_un, gq_un, plS_24_0_, plS_24_2_0_1, bz, put_none2, Nat.reduceEqDiff, Nat.reduceLT, Nat.reduceAdd]
        generalize hr2 : loopR _ _ _ _ _ = r2
        have hs02 : Same nx h h2 := fun s hss => by rw [hs2 s (by omega)]; exact hsm s hss
        have r02 : rowL h2 nx = some b.cells := by rw [rowL_same hs2 (show nx < nx + 1 by omega)]; exact r0
        obtain ⟨vs3, h3, n3, u, rfl, w11, own⟩ : ∃ vs3 h3 n3 u, r2 = .exi 2 ⟨nx, none, [], []⟩ vs3 h3 n3 ∧ vs3 11 = some u ∧ OwnL h3 n2 n3 1 u (lotV A) := by
          refine loop31c hS (m := m - 1) (by omega) (b := b) (A := A) (W := wn) (p2 := nx) hF hc (hb.same hs02 (Nat.le_refl _)) (show nx ≤ n2 by omega) hA (by omega) r02 (Nat.le_refl _) (by omega) ?_ ?_ ?_ ?_ ?_ hr2
          · exact w2'
          · rfl
          · rfl
          · rfl
          · rfl
        refine ⟨A, said_t (by rw [hv, hq]; rfl) ⟨wn, a1, hA, a4⟩, u, h3, n3, ?_, ?_⟩
        · rcases own.is with ⟨q1, q2⟩ | ⟨r, len, q1, q2, q3, q4, q5, q6⟩
          · exact .inl ⟨q1, q2⟩
          · exact .inr ⟨r, len, _, _, by omega, q3, q4, q5, q6⟩
        · simp (maxSteps := 10000000) (implicitDefEqProofs := false) (disch := omega) only [w11, plS_24_0_, plS_24_2_0_1, bz, put_none2, Nat.reduceEqDiff, Nat.reduceLT, Nat.reduceAdd]
      · have k56f := k56 false
        rw [hv, show checkI true false = 61 from rfl] at k56f
        rw [hq] at k40
        have hs := said_f (b := b) (c := c) (by rw [hv, hq]; rfl)
        rw [hv, hq, show checkI true false = 61 from rfl]
        refine ⟨[], hs, _, _, _, .inl ⟨rfl, rfl⟩, by simp (maxSteps := 10000000) (implicitDefEqProofs := false) (disch := omega) only [s31, lok15, ← eG, r0, hp7, k40, k56f, hb_40, hb_56, g_un, gq_un, show ((61 : Int) != 0) = true from rfl, plS_24_0_, plS_24_2_0_1, bz, put_none2, Nat.reduceEqDiff, Nat.reduceLT, Nat.reduceAdd]; rfl⟩
    · have k56x := k56 (inB 0 20000 c)
      rw [hv, checkI_f] at k56x
      have hs := said_f (b := b) (c := c) (by rw [hv]; rfl)
      rw [hv, checkI_f]
      refine ⟨[], hs, _, _, _, .inl ⟨rfl, rfl⟩, by simp (maxSteps := 10000000) (implicitDefEqProofs := false) (disch := omega) only [s31, lok15, ← eG, r0, hp7, k40, k56x, hb_40, hb_56, g_un, gq_un, show ((60 : Int) != 0) = true from rfl, plS_24_0_, plS_24_2_0_1, bz, put_none2, Nat.reduceEqDiff, Nat.reduceLT, Nat.reduceAdd]; rfl⟩
  obtain ⟨zs, hz, hx⟩ := key
  exact ⟨zs, hz, fun31.listT (sz := 1) rfl (hS _ _ _ _ (by decide)) (by omega) (by simp) (flat_groundL (lotV_flat zs)) hx⟩
theorem said_same {b : Bk} {c : Int} {zs ys : List Int} (h : SaidS b c zs) (h' : SaidS b c ys) : zs = ys := by
  unfold SaidS at h h'
  split at h
  · rename_i q
    rw [if_pos q] at h'
    exact h.same h'
  · rename_i q
    rw [if_neg q] at h'
    rw [h, h']
theorem said_len {b : Bk} {c : Int} {zs : List Int} (h : SaidS b c zs) : zs.length ≤ 1000 := by
  unfold SaidS at h
  split at h
  · rename_i q
    obtain ⟨W, _, hA, _⟩ := h
    have := hA.lot.len
    have := (Bk.fine (Bool.and_eq_true_iff.1 q).1).s5
    omega
  · rw [h]; simp
theorem c5 {S : Kn} (hS : S.Only [22]) (hK : Stamped S) {m : Nat} (hm : 17 ≤ m) {b : Bk} {h : Hp} {nx : Nat} (hb : b.At h nx) (hc : ScOk b) (c : Int) : callF 5 [.agg b.cells.toArray, vi c] (execL Tryz.prog vmL S m) h nx = .gen (.bool true) h nx [] := by
  refine fun5.ground (hS _ _ _ _ (by decide)) (by omega) rfl (by simp) ?_
  obtain ⟨G, eG⟩ : ∃ x, x = hset h nx (.cells b.cells none) := ⟨_, rfl⟩
  have hsm : Same nx h G := by rw [eG]; exact (Same.refl nx h).set (Nat.le_refl _) _
  have hb' := hb.same hsm (nx' := nx + 1) (by omega)
  have r0 : rowL G nx = some b.cells := by rw [eG]; exact rowL_hset_same _ _
  have hp7 : part1 true 7 b.cells 0 = some (.agg b.cells.toArray) := rfl
  obtain ⟨zs, hz, u, H2, n2, k30, w⟩ := c30 hS (m := m - 1) (by omega) (c := c) hb'
  have t2 := w.keep.2
  have n2' := w.keep.1
  have hb2 := hb'.same t2 (nx' := n2) (by omega)
  have r02 : rowL H2 nx = some b.cells := by rw [rowL_same t2 (by omega)]; exact r0
  obtain ⟨ys, hy, u2, H3, n3, k31, w2⟩ := c31 hS (m := m - 1) (by omega) (c := c) hb2 hc
  have t3 := w2.keep.2
  have n3' := w2.keep.1
  have hb3 := hb2.same t3 (nx' := n3) (by omega)
  have hpos := hb.pos
  have hzy := said_same hz hy
  subst hzy
  have hlen := said_len hz
  have k21 := c21 hS (m := m - 1) (h := H3) (nx := n3) (by omega) hlen ((new_lotL w).same t3 (by omega)) (new_lotL w2)
  have k22 := c22 hK (m := m - 1) (h := H3) (nx := n3) (by omega) hb3.lim
  generalize checkI b.valid (inB 0 20000 c) = E at *
  simp (maxSteps := 10000000) (implicitDefEqProofs := false) (disch := omega) only [s5, ← eG, r0, hp7, k30, r02, k31, k21, k22, beq_self_eq_true, hb_30, hb_31, hb_21, hb_22, g_un, gq_un, plS_24_0_, plS_24_2_0_1, bz, put_none2, Nat.reduceEqDiff, Nat.reduceLT, Nat.reduceAdd]
  exact ⟨_, _, rfl⟩
end Go.Proofs.YtcmkngajdckndaaGreatDoor
