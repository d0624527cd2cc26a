/- What the functions of package parcel answer, for any book, and why the law's comparison holds; how a book of a world reads; Rules by which a run of that machine is computed. Conditions: none. -/
import Derived.Test.YtcmkngajdckndaaGreatDoorZ06
set_option linter.unusedVariables false
set_option linter.unusedSimpArgs false
namespace Go.Proofs.YtcmkngajdckndaaGreatDoor
open Go Go.Proofs Go.Lm
set_option maxRecDepth 10000
set_option maxHeartbeats 8000000
abbrev fn (g : Nat) : Value := .func (.func g) #[] #[]
abbrev pt (p : Nat) : Value := .pointer (some ⟨p, 0, none⟩)
theorem c88 {S : Kn} (hS : S.Only [22]) {m : Nat} (hm : 1 ≤ m) {h : Hp} {nx : Nat} : z07 88 [] (z08 Tryz.prog vmL S m) h nx = .gen (.slice (some ⟨nx, 0, none⟩) 3 3) (hset h nx (.cells [fn 117, fn 118, fn 119] none)) (nx + 1) [] := by
  refine fun88.whole (hS _ _ _ _ (by decide)) hm rfl (cmp3_slice_none (Nat.le_refl _) (z11 _ _) rfl) (by simp) ?_
  simp (maxSteps := 10000000) (disch := omega) only [s88, bz, z00, Nat.reduceEqDiff, Nat.reduceLT, Nat.reduceAdd, Nat.reduceMul, Int.reduceToNat]
theorem c87 {S : Kn} (hS : S.Only [22]) {m : Nat} (hm : 1 ≤ m) {b : Bk} {f : Nat → Bool} {k : Kd} {zone : Int} {h : Hp} {nx p g : Nat} {x : Int} (hrow : rowL h p = some (z2k b f k zone))
    (hg : z07 g [.agg (z2k b f k zone).toArray] (z08 Tryz.prog vmL S (m - 1)) h nx = .gen (vi x) h nx []) : z07 87 [fn g, pt p] (z08 Tryz.prog vmL S m) h nx = .gen (vi x) h nx [] := by
  refine fun87.ground (hS _ _ _ _ (by decide)) hm rfl (by simp) ?_
  have hld : z0c true 19 (z2k b f k zone) 0 = some (.agg (z2k b f k zone).toArray) := rfl
  simp (maxSteps := 10000000) (disch := omega) only [s87, hrow, hld, hg, z1p, List.nil_append, List.append_nil, List.cons_append, bz, z00, Nat.reduceEqDiff, Nat.reduceLT, Nat.reduceAdd, Nat.reduceMul, Int.reduceToNat]
  exact ⟨_, _, rfl⟩
theorem loop86 {ih : Rec} {rows : List (List Value)} {z : Z} {vs : Vs} {h : Hp} {nx q : Nat} {v : Value} {p : List Value → Int} (hl : rows.length ≤ 1000) (hv : Lst h nx 1 v rows)
    (hB : ∀ row, row ∈ rows → -1000000000000 ≤ p row ∧ p row ≤ 1000000000000)
    (hp : ∀ row, row ∈ rows → ∃ g, row = [fn g] ∧ z07 87 [fn g, pt q] ih h nx = .gen (vi (p row)) h nx [])
    (g0 : vs 0 = some (.func (.func 87) #[] #[pt q])) (g5 : vs 5 = some (vi 0)) (g8 : vs 8 = some v) (g9 : vs 9 = some (vi rows.length)) (g10 : vs 10 = some (vi 0)) {r : R} (hr : z0w (sC Tryz.prog 21 21 ih l86_0) z vs h nx = r) :
    ∃ vs', r = .exi 0 z vs' h nx ∧ vs' 5 = some (vi (sumR p rows rows.length)) := by
  subst hr
  refine z0o (Post := fun r => ∃ vs', r = .exi 0 z vs' h nx ∧ vs' 5 = some (vi (sumR p rows rows.length)))
    (fun i z' vs' h' nx' => i ≤ rows.length ∧ z' = z ∧ nx' = nx ∧ h' = h ∧ vs' 0 = some (.func (.func 87) #[] #[pt q]) ∧ vs' 5 = some (vi (sumR p rows i)) ∧ vs' 8 = some v ∧ vs' 9 = some (vi rows.length) ∧ vs' 10 = some (vi (i : Int))) rows.length (by omega)
    ⟨Nat.zero_le _, rfl, rfl, rfl, g0, g5, g8, g9, g10⟩ ?_
  rintro i z' vs' h' nx' ⟨hi, rfl, rfl, rfl, e0, e5, e8, e9, e10⟩
  obtain ⟨a, c, rfl, _⟩ := hv.form
  by_cases hlt : i < rows.length
  · left
    obtain ⟨_, rr, o, row, cs, rfl, hrn, hrow, hrl, hcs, ho, hseg⟩ := hv.load (i := i) hlt
    have h1 : ((i : Int) < (rows.length : Int)) := by omega
    have hmem := List.mem_of_getElem? hrow
    obtain ⟨g, rfl, hc⟩ := hp row hmem
    have hel : z0c false 1 cs (o + i * 1) = some (fn g) := z2u (row := []) hseg
    have b1 := sumR_bound (by decide) hB i
    have b2 := hB _ hmem
    have b3 : (1000000000000 : Int) * i ≤ 1000000000000 * 1000 := by omega
    have hw := sumR_succ (p := p) hrow
    refine ⟨hlt, z', _, _, _, (by simp (maxSteps := 10000000) (disch := omega) only [l86_0, e0, e5, e8, e9, e10, h1, hcs, hel, hc, z1p, List.nil_append, List.append_nil, List.cons_append, bz, z00, Nat.reduceEqDiff, Nat.reduceLT, Nat.reduceAdd, Nat.reduceMul, Int.reduceToNat]; exact rfl), by omega, rfl, rfl, rfl, ?_, ?_, ?_, ?_, ?_⟩
    · simp only [z01, z00, Nat.reduceEqDiff, decide_true, decide_false, cond_true, cond_false, e0]
    · simp only [z01, z00, Nat.reduceEqDiff, decide_true, decide_false, cond_true, cond_false, hw]
    · simp only [z01, z00, Nat.reduceEqDiff, decide_true, decide_false, cond_true, cond_false, e8]
    · simp only [z01, z00, Nat.reduceEqDiff, decide_true, decide_false, cond_true, cond_false, e9]
    · simp only [z01, z00, Nat.reduceEqDiff, decide_true, decide_false, cond_true, cond_false]; rfl
  · right
    have h1 : ¬ ((i : Int) < (rows.length : Int)) := by omega
    have hie : i = rows.length := by omega
    have e : ∃ vs2, sC Tryz.prog 21 21 ih l86_0 z' vs' h' nx' = .exi 0 z' vs2 h' nx' ∧ vs2 5 = vs' 5 := by
      refine ⟨_, by simp (maxSteps := 10000000) (disch := omega) only [l86_0, e0, e5, e8, e9, e10, h1, bz, z00, Nat.reduceEqDiff, Nat.reduceLT, Nat.reduceAdd, Nat.reduceMul, Int.reduceToNat]; exact rfl, ?_⟩
      simp only [z01, Nat.reduceEqDiff, decide_true, decide_false, cond_true, cond_false]
    obtain ⟨vs2, e, q5⟩ := e
    rw [e]
    rw [hie] at e5
    exact ⟨trivial, vs2, rfl, q5.trans e5⟩
theorem c86 {S : Kn} (hS : S.Only [22]) {m : Nat} (hm : 1 ≤ m) {rows : List (List Value)} {h : Hp} {nx q : Nat} {v : Value} {p : List Value → Int} (hl : rows.length ≤ 1000) (hv : Lst h nx 1 v rows)
    (hB : ∀ row, row ∈ rows → -1000000000000 ≤ p row ∧ p row ≤ 1000000000000)
    (hp : ∀ row, row ∈ rows → ∃ g, row = [fn g] ∧ z07 87 [fn g, pt q] (z08 Tryz.prog vmL S (m - 1)) h nx = .gen (vi (p row)) h nx []) :
    z07 86 [.func (.func 87) #[] #[pt q], v] (z08 Tryz.prog vmL S m) h nx = .gen (vi (sumR p rows rows.length)) h nx [] := by
  refine fun86.ground (hS _ _ _ _ (by decide)) (by omega) rfl (by simp) ?_
  obtain ⟨a, c, e1, _⟩ := hv.form
  simp (maxSteps := 10000000) (disch := omega) only [s86, z1x, e1, bz, z00, Nat.reduceEqDiff, Nat.reduceLT, Nat.reduceAdd, Nat.reduceMul, Int.reduceToNat]
  generalize hr : z0w _ _ _ _ _ = r
  obtain ⟨vs', rfl, e5⟩ := loop86 hl hv hB hp rfl rfl (by rw [e1]; rfl) rfl rfl hr
  exact ⟨_, _, by simp (maxSteps := 10000000) (disch := omega) only [e5, bz, z00, Nat.reduceEqDiff, Nat.reduceLT, Nat.reduceAdd, Nat.reduceMul, Int.reduceToNat]; rfl⟩
structure Bk.Fine (b : Bk) : Prop where
  p1 : 1 ≤ b.P.length
  p7 : b.P.length ≤ 7
  po : b.P.all Pc.ok = true
  k1 : 1 ≤ b.K.length
  k4 : b.K.length ≤ 4
  ko : b.K.all Kd.ok = true
  g1 : 1 ≤ b.grams
  g2 : b.grams ≤ 5000
  f1 : 0 ≤ b.free
  f2 : b.free ≤ 10000
  u1 : 1 ≤ b.unit
  u2 : b.unit ≤ 10000
  e1 : 0 ≤ b.fee
  e2 : b.fee ≤ 1000
  s1 : 1 ≤ b.S.length
  s5 : b.S.length ≤ 5
  so : b.S.all (inB 1 1000) = true
  si : incB b.S = true
theorem Bk.fine {b : Bk} (h : b.valid = true) : b.Fine := by
  unfold Bk.valid at h
  simp only [Bool.and_eq_true] at h
  obtain ⟨⟨a1, a2⟩, ⟨a3, a4⟩, a5, a6, a7, a8, ⟨a9, a10⟩, a11⟩ := h
  have := z15 a1
  have := z15 a3
  have := z15 a5
  have := z15 a6
  have := z15 a7
  have := z15 a8
  have := z15 a9
  exact ⟨by omega, by omega, a2, by omega, by omega, a4, by omega, by omega, by omega, by omega, by omega, by omega, by omega, by omega, by omega, by omega, a10, a11⟩
structure Kd.Fine (x : Kd) : Prop where
  r1 : 1 ≤ x.room
  r2 : x.room ≤ 500
  m1 : 1 ≤ x.most
  m2 : x.most ≤ 5000
  z : x.zs.length = 5
  zo : ∀ n, n ∈ x.zs → 1 ≤ n ∧ n ≤ 1000
  s1 : 0 ≤ x.step
  s2 : x.step ≤ 1000
theorem Kd.fine {x : Kd} (h : x.ok = true) : x.Fine := by
  unfold Kd.ok kindB at h
  simp only [Bool.and_eq_true] at h
  obtain ⟨a1, a2, ⟨a3, a4⟩, a5⟩ := h
  have := z15 a1
  have := z15 a2
  have := z15 a3
  have := z15 a5
  exact ⟨by omega, by omega, by omega, by omega, by omega, fun n hn => z15 (List.all_eq_true.1 a4 n hn), by omega, by omega⟩
theorem Bk.Fine.kind {b : Bk} (h : b.Fine) {i : Nat} (hi : i < b.K.length) : b.K[i].Fine := Kd.fine (List.all_eq_true.1 h.ko _ (List.getElem_mem hi))
theorem sum_range {l : List Int} {B : Int} (hB : 0 ≤ B) : (∀ x, x ∈ l → 0 ≤ x ∧ x ≤ B) → 0 ≤ l.sum ∧ l.sum ≤ B * l.length := by
  induction l with
  | nil => intro _; simp
  | cons x l ih =>
    intro h
    have h1 := h x List.mem_cons_self
    have h2 := ih fun y hy => h y (List.mem_cons_of_mem _ hy)
    rw [List.sum_cons, List.length_cons, Int.natCast_succ, Int.mul_add, Int.mul_one]
    omega
theorem chosen_mem {P : List Pc} {f : Nat → Bool} {i : Nat} {x : Pc} (hx : x ∈ z0a P f i) : x ∈ P := by
  unfold z0a at hx
  obtain ⟨y, hy, rfl⟩ := List.mem_map.1 hx
  have := List.mem_filter.1 hy
  exact List.mem_of_mem_take (List.fst_mem_of_mem_zipIdx this.1)
theorem sumP_range {P : List Pc} (f : Nat → Bool) (h7 : P.length ≤ 7) {g : Pc → Int} {B : Int} (hB : 0 ≤ B) (hg : ∀ x, x ∈ P → 0 ≤ g x ∧ g x ≤ B) : 0 ≤ sumP g P f ∧ sumP g P f ≤ B * 7 := by
  unfold sumP
  have h := sum_range (l := (z0a P f P.length).map g) hB (fun y hy => by
    obtain ⟨x, hx, rfl⟩ := List.mem_map.1 hy
    exact hg x (chosen_mem hx))
  have hl := z3v P f P.length
  rw [List.length_map] at h
  have : B * ((z0a P f P.length).length : Int) ≤ B * 7 := Int.mul_le_mul_of_nonneg_left (by omega) hB
  omega
theorem z8w {b : Bk} (hf : b.Fine) (f : Nat → Bool) : 0 ≤ sumP Pc.weight b.P f ∧ sumP Pc.weight b.P f ≤ 35000 := by
  have := sumP_range f hf.p7 (g := Pc.weight) (B := 5000) (by omega) (fun x hx => by
    have h := List.all_eq_true.1 hf.po x hx
    unfold Pc.ok at h
    have := z15 (Bool.and_eq_true_iff.1 (Bool.and_eq_true_iff.1 h).2).1
    omega)
  omega
theorem worth_range {b : Bk} (hf : b.Fine) (f : Nat → Bool) : 0 ≤ sumP Pc.worth b.P f ∧ sumP Pc.worth b.P f ≤ 70000 := by
  have := sumP_range f hf.p7 (g := Pc.worth) (B := 10000) (by omega) (fun x hx => by
    have h := List.all_eq_true.1 hf.po x hx
    unfold Pc.ok at h
    have := z15 (Bool.and_eq_true_iff.1 (Bool.and_eq_true_iff.1 h).2).2
    omega)
  omega
def z2e (b : Bk) (f : Nat → Bool) (k : Kd) : Int := k.step * ((sumP Pc.weight b.P f + b.grams - 1) / b.grams - 1)
def z3x (b : Bk) (f : Nat → Bool) : Int := b.fee * ((max 0 (sumP Pc.worth b.P f - b.free) + b.unit - 1) / b.unit)
theorem div_range {a b : Int} (ha : 0 ≤ a) (hb : 1 ≤ b) : 0 ≤ (a + b - 1) / b ∧ (a + b - 1) / b ≤ a := by
  refine ⟨Int.ediv_nonneg (by omega) (by omega), ?_⟩
  have h1 : (a + b - 1) / b < a + 1 := by
    rw [Int.ediv_lt_iff_lt_mul (by omega)]
    have : (a + 1) * b = a * b + b := by rw [Int.add_mul, Int.one_mul]
    have h2 : a ≤ a * b := by
      have := Int.mul_le_mul_of_nonneg_left (show (1 : Int) ≤ b by omega) ha
      omega
    omega
  omega
theorem weightI_range {b : Bk} (hf : b.Fine) (f : Nat → Bool) {k : Kd} (hk : k.Fine) : -1000 ≤ z2e b f k ∧ z2e b f k ≤ 35000000 := by
  unfold z2e
  have h1 := z8w hf f
  have h2 := div_range h1.1 hf.g1
  have h3 := hk.s1
  have h4 := hk.s2
  generalize (sumP Pc.weight b.P f + b.grams - 1) / b.grams = q at h2 ⊢
  have e1 : k.step * (-1) ≤ k.step * (q - 1) := Int.mul_le_mul_of_nonneg_left (by omega) h3
  have e2 : k.step * (q - 1) ≤ k.step * 35000 := Int.mul_le_mul_of_nonneg_left (by omega) h3
  omega
theorem worthI_range {b : Bk} (hf : b.Fine) (f : Nat → Bool) : 0 ≤ z3x b f ∧ z3x b f ≤ 70000000 := by
  unfold z3x
  have h1 := worth_range hf f
  have h0 := hf.f1
  have h2 := div_range (a := max 0 (sumP Pc.worth b.P f - b.free)) (by omega) hf.u1
  have h3 := hf.e1
  have h4 := hf.e2
  generalize (max 0 (sumP Pc.worth b.P f - b.free) + b.unit - 1) / b.unit = q at h2 ⊢
  have e1 : 0 ≤ b.fee * q := Int.mul_nonneg h3 h2.1
  have e2 : b.fee * q ≤ b.fee * 70000 := Int.mul_le_mul_of_nonneg_left (by omega) h3
  omega
theorem c54 {S : Kn} (hS : S.Only [22]) {m : Nat} (hm : 6 ≤ m) {b : Bk} {h : Hp} {nx : Nat} (hb : b.At h nx) (hf : b.Fine) (s : Nat) (hs : s < 4611686018427387904) {kind : Nat} (hk : kind < b.K.length) : z07 54 [.agg b.cells.toArray, .agg #[vi kind, vi s]] (z08 Tryz.prog vmL S m) h nx = .gen (.bool (z8k b.P s.testBit b.K[kind])) h nx [] := by
  refine fun54.ground (hS _ _ _ _ (by decide)) (by omega) rfl (by simp) ?_
  have hsm : Same nx h (hset (hset h nx (.cells b.cells none)) (nx + 1) (.cells [vi kind, vi s] none)) := ((Same.refl nx h).set (Nat.le_refl _) _).set (by omega) _
  have hb' := hb.same hsm (nx' := nx + 1 + 1) (by omega)
  have k82 := c82 hS (m := m - 1) (by omega) s hs hb' hf.p1 hf.k1 hf.s1
  have k83 := c83 hS hb' hf.p7 hf.po s.testBit (m := m - 1) (by omega) b.K[kind]
  have hk' := hb'.k
  obtain ⟨a, c, hve, _⟩ := hk'.form
  rw [List.length_map] at hve
  rw [hve] at hk'
  obtain ⟨_, rr, o, row, cs, rfl, hrn, hrow, hrl, hcs, ho, hseg⟩ := hk'.load (i := kind) (by simpa using hk)
  rw [List.getElem?_map, List.getElem?_eq_getElem hk] at hrow
  cases hrow
  have hel : z0c true 4 cs (o + kind * 4) = some (.agg b.K[kind].row.toArray) := z3j (by omega) hseg
  generalize b.K[kind] = kd at *
  simp only [Bk.cells, Kd.row, hve] at k82 k83 hcs hel
  simp (maxSteps := 10000000) (disch := omega) only [s54, Bk.cells, hve, k82, k83, hcs, hel, bz, z02, Nat.reduceEqDiff, Nat.reduceLT, Nat.reduceAdd, Nat.reduceMul, Int.reduceToNat]
  exact ⟨_, _, rfl⟩
def partI (a b c : Int) (row : List Value) : Int := match row with
  | [.func (.func 117) _ _] => a
  | [.func (.func 118) _ _] => b
  | _ => c
theorem c60 {S : Kn} (hS : S.Only [22]) {m : Nat} (hm : 8 ≤ m) {b : Bk} {h : Hp} {nx : Nat} (hb : b.At h nx) (hf : b.Fine) (s : Nat) (hs : s < 4611686018427387904) {kind : Nat} (hk : kind < b.K.length) (zone : Nat) (hz : zone < b.K[kind].zs.length) :
    z07 60 [.agg b.cells.toArray, .agg #[vi kind, vi s], vi zone] (z08 Tryz.prog vmL S m) h nx = .gen (vi (b.K[kind].zs[zone] + z2e b s.testBit b.K[kind] + z3x b s.testBit)) h nx [] := by
  refine fun60.ground (hS _ _ _ _ (by decide)) (by omega) rfl (by simp) ?_
  have hsm : Same nx h (hset (hset h nx (.cells b.cells none)) (nx + 1) (.cells [vi kind, vi s] none)) := ((Same.refl nx h).set (Nat.le_refl _) _).set (by omega) _
  have hb' := hb.same hsm (nx' := nx + 1 + 1) (by omega)
  have k82 := c82 hS (m := m - 1) (by omega) s hs hb' hf.p1 hf.k1 hf.s1
  have hk' := hb'.k
  obtain ⟨a, c, hve, _⟩ := hk'.form
  rw [List.length_map] at hve
  rw [hve] at hk'
  obtain ⟨_, rr, o, row, cs, rfl, hrn, hrow, hrl, hcs, ho, hseg⟩ := hk'.load (i := kind) (by simpa using hk)
  rw [List.getElem?_map, List.getElem?_eq_getElem hk] at hrow
  cases hrow
  have hel : z0c true 4 cs (o + kind * 4) = some (.agg b.K[kind].row.toArray) := z3j (by omega) hseg
  have hkf := hf.kind hk
  have hzk := hb.z _ (List.getElem_mem hk)
  generalize b.K[kind] = kd at *
  obtain ⟨h3, eh3⟩ : ∃ x, x = hset (hset (hset h nx (.cells b.cells none)) (nx + 1) (.cells [vi kind, vi s] none)) (nx + 1 + 1) (.cells (z2k b s.testBit kd (zone : Int)) none) := ⟨_, rfl⟩
  obtain ⟨h4, eh4⟩ : ∃ x, x = hset h3 (nx + 1 + 1 + 1) (.cells [fn 117, fn 118, fn 119] none) := ⟨_, rfl⟩
  have hsm4 : Same nx h h4 := by rw [eh4, eh3]; exact ((hsm.set (by omega) _)).set (by omega) _
  have hb4 := hb.same hsm4 (nx' := nx + 1 + 1 + 1 + 1) (by omega)
  have hrow4 : rowL h4 (nx + 1 + 1) = some (z2k b s.testBit kd (zone : Int)) := by
    rw [eh4, z0j _ (by omega), eh3]; exact z03 _ _
  have hrow5 : rowL h4 (nx + 1 + 1 + 1) = some [fn 117, fn 118, fn 119] := by rw [eh4]; exact z03 _ _
  have w1 := z8w hf s.testBit
  have w2 := worth_range hf s.testBit
  have g1 := hf.g1
  have g2 := hf.g2
  have u1 := hf.u1
  have u2 := hf.u2
  have f1 := hf.f1
  have f2 := hf.f2
  have e1 := hf.e1
  have e2 := hf.e2
  have st1 := hkf.s1
  have st2 := hkf.s2
  have zl := hkf.z
  have k117 := c117 hS (m := m - 1 - 1 - 1) (b := b) s.testBit (by omega) kd zone (hzk.same hsm4 (nx' := nx + 1 + 1 + 1 + 1) (by omega)) hz (by omega)
  have k118 := c118 hS hb4 hf.p7 hf.po s.testBit (m := m - 1 - 1 - 1) (by omega) kd zone st1 st2 g1 (by omega) w1.1 (by omega)
  have k119 := c119 hS hb4 hf.p7 hf.po s.testBit (m := m - 1 - 1 - 1) (by omega) kd zone e1 e2 u1 (by omega) f1 (by omega) w2.1 (by omega)
  have hzr := hkf.zo _ (List.getElem_mem hz)
  have hwr := weightI_range hf s.testBit hkf
  have hor := worthI_range hf s.testBit
  have k86 := c86 hS (m := m - 1) (by omega) (rows := [[fn 117], [fn 118], [fn 119]]) (h := h4) (nx := nx + 1 + 1 + 1 + 1) (q := nx + 1 + 1) (v := .slice (some ⟨nx + 1 + 1 + 1, 0, none⟩) 3 3) (p := partI kd.zs[zone] (z2e b s.testBit kd) (z3x b s.testBit)) (by simp)
    (by
      refine ⟨_, _, rfl, fun i row hi => ?_⟩
      have hlt := (List.getElem?_eq_some_iff.1 hi).1
      have : i = 0 ∨ i = 1 ∨ i = 2 := by simp at hlt; omega
      rcases this with rfl | rfl | rfl <;> cases hi <;> exact ⟨rfl, _, 0, _, rfl, by omega, hrow5, by simp, rfl⟩)
    (by
      intro row hr
      simp only [List.mem_cons, List.not_mem_nil, or_false] at hr
      rcases hr with rfl | rfl | rfl
      · show _ ≤ kd.zs[zone] ∧ kd.zs[zone] ≤ _; omega
      · show _ ≤ z2e b s.testBit kd ∧ z2e b s.testBit kd ≤ _; omega
      · show _ ≤ z3x b s.testBit ∧ z3x b s.testBit ≤ _; omega)
    (by
      intro row hr
      simp only [List.mem_cons, List.not_mem_nil, or_false] at hr
      rcases hr with rfl | rfl | rfl
      · exact ⟨117, rfl, c87 hS (by omega) hrow4 k117⟩
      · exact ⟨118, rfl, c87 hS (by omega) hrow4 k118⟩
      · exact ⟨119, rfl, c87 hS (by omega) hrow4 k119⟩)
  have hsum : sumR (partI kd.zs[zone] (z2e b s.testBit kd) (z3x b s.testBit)) [[fn 117], [fn 118], [fn 119]] [[fn 117], [fn 118], [fn 119]].length = kd.zs[zone] + z2e b s.testBit kd + z3x b s.testBit := by
    show (kd.zs[zone] + (z2e b s.testBit kd + (z3x b s.testBit + 0)) : Int) = _
    omega
  rw [hsum] at k86
  have k88 := fun (h : Hp) (nx : Nat) => c88 hS (m := m - 1) (by omega) (h := h) (nx := nx)
  have hst := fun H : Hp => z3h (h := hset H (nx + 1 + 1) (.cells [.slice none 0 0, .slice none 0 0, .int .i64 0, .int .i64 0, .int .i64 0, .int .i64 0, .slice none 0 0, .bool false, .bool false, .bool false, .bool false, .bool false, .bool false, .bool false, .int .i64 0, .int .i64 0, .slice none 0 0, .int .i64 0, .int .i64 0] none)) (r := nx + 1 + 1) (l := z2k b s.testBit kd (zone : Int)) (z11 _ _) rfl
  generalize kd.zs[zone] + z2e b s.testBit kd + z3x b s.testBit = ans at *
  simp only [eh4, eh3, z2k, z0f, z09, Bk.cells, Kd.row, hve, List.cons_append, List.nil_append, z16, List.length_cons, List.length_nil, Nat.reduceAdd, Nat.zero_add] at k82 k86 hcs hel hst
  simp (maxSteps := 10000000) (disch := omega) only [s60, Bk.cells, hve, k82, k86, k88, z16, hcs, hel, hst, z1k, storeO, bm, z02, Nat.reduceEqDiff, Nat.reduceLT, Nat.reduceAdd, Nat.reduceMul, Int.reduceToNat]
  exact ⟨_, _, rfl⟩
theorem eq124 (a b c d e f g : Bool) : binV Tryz.prog .eql 124 (.tmp 18) (.tmp 19) (.agg #[.bool a, .bool b, .bool c, .bool d, .bool e, .bool f, .bool g]) (.agg #[.bool false, .bool false, .bool false, .bool false, .bool false, .bool false, .bool false]) = some (.bool (!(a || (b || (c || (d || (e || (f || g)))))))) := by
  cases a <;> cases b <;> cases c <;> cases d <;> cases e <;> cases f <;> cases g <;> (as_aux_lemma => kernel_rfl)
theorem neq84 (k s : Nat) (hs : 0 < s) : binV Tryz.prog .neq 84 (.tmp 4) (.tmp 5) (.agg #[vi (k : Int), vi (s : Int)]) (.agg #[vi 0, vi 0]) = some (.bool true) := by
  obtain ⟨s, rfl⟩ : ∃ x, s = x + 1 := ⟨s - 1, by omega⟩
  cases k <;> (as_aux_lemma => kernel_rfl)
theorem neq84z : binV Tryz.prog .neq 84 (.tmp 4) (.tmp 5) (.agg #[vi 0, vi 0]) (.agg #[vi 0, vi 0]) = some (.bool false) := by kernel_rfl
def setN (ns : List Nat) : Nat := ns.foldl (fun s n => s ||| 2 ^ n) 0
def nsI (ns : List Nat) : List Int := ns.map fun n : Nat => (n : Int)
theorem foldl_or_lt {ns : List Nat} (h : ∀ n, n ∈ ns → n ≤ 60) : ∀ s, s < 2 ^ 61 → ns.foldl (fun s n => s ||| 2 ^ n) s < 2 ^ 61 := by
  induction ns with
  | nil => intro s hs; exact hs
  | cons n ns ih =>
    intro s hs
    refine ih (fun k hk => h k (List.mem_cons_of_mem _ hk)) _ (Nat.or_lt_two_pow hs ?_)
    exact Nat.pow_lt_pow_right (by omega) (by have := h n List.mem_cons_self; omega)
theorem setN_lt {ns : List Nat} (h : ∀ n, n ∈ ns → n ≤ 60) : setN ns < 2 ^ 61 := foldl_or_lt h 0 (by decide)
theorem setN_bit (ns : List Nat) (k : Nat) : (setN ns).testBit k = decide (k ∈ ns) := by
  have key : ∀ (ns : List Nat) (s : Nat), (ns.foldl (fun s n => s ||| 2 ^ n) s).testBit k = (s.testBit k || decide (k ∈ ns)) := by
    intro ns
    induction ns with
    | nil => intro s; simp
    | cons n ns ih =>
      intro s
      rw [List.foldl_cons, ih, Nat.testBit_or, Nat.testBit_two_pow]
      by_cases h : k = n
      · subst h; simp
      · have h' : ¬ n = k := fun q => h q.symm
        simp [h, h']
  have := key ns 0
  simpa [setN] using this
theorem loop90 {S : Kn} (hS : S.Only [22]) {m : Nat} (hm : 1 ≤ m) {ns : List Nat} {z : Z} {vs : Vs} {h : Hp} {nx : Nat} {v : Value} (hl : ns.length ≤ 1000) (h60 : ∀ n, n ∈ ns → n ≤ 60) (hv : Lst h nx 1 v (ints (nsI ns)))
    (g3 : vs 3 = some (vi 0)) (g6 : vs 6 = some v) (g7 : vs 7 = some (vi ns.length)) (g8 : vs 8 = some (vi 0)) {r : R} (hr : z0w (sC Tryz.prog 17 17 (z08 Tryz.prog vmL S m) l90_0) z vs h nx = r) :
    ∃ vs', r = .exi 0 z vs' h nx ∧ vs' 3 = some (vi (setN ns)) := by
  subst hr
  refine z0o (Post := fun r => ∃ vs', r = .exi 0 z vs' h nx ∧ vs' 3 = some (vi (setN ns)))
    (fun i z' vs' h' nx' => i ≤ ns.length ∧ z' = z ∧ nx' = nx ∧ h' = h ∧ vs' 3 = some (vi (setN (ns.take i))) ∧ vs' 6 = some v ∧ vs' 7 = some (vi ns.length) ∧ vs' 8 = some (vi (i : Int))) ns.length (by omega)
    ⟨Nat.zero_le _, rfl, rfl, rfl, g3, g6, g7, g8⟩ ?_
  rintro i z' vs' h' nx' ⟨hi, rfl, rfl, rfl, e3, e6, e7, e8⟩
  obtain ⟨a, c, rfl, _⟩ := hv.form
  have hil : (ints (nsI ns)).length = ns.length := by simp [ints, nsI]
  rw [hil] at e6 hv
  by_cases hlt : i < ns.length
  · left
    obtain ⟨_, rr, o, row, cs, rfl, hrn, hrow, hrl, hcs, ho, hseg⟩ := hv.load (i := i) hlt
    have h1 : ((i : Int) < (ns.length : Int)) := by omega
    have hrw : row = [vi ns[i]] := by
      unfold ints nsI at hrow
      rw [List.getElem?_map, List.getElem?_map, List.getElem?_eq_getElem hlt] at hrow
      exact (Option.some.inj hrow).symm
    subst hrw
    have hel : z0c false 1 cs (o + i * 1) = some (vi ns[i]) := z2u (row := []) hseg
    have hb := setN_lt (ns := ns.take i) fun n hn => h60 n (List.mem_of_mem_take hn)
    have hc := fun (h : Hp) (nx : Nat) => c121 hS hm (setN (ns.take i)) ns[i] (by omega) (h60 _ (List.getElem_mem hlt)) (h := h) (nx := nx)
    have hw : setN (ns.take (i + 1)) = setN (ns.take i) ||| 2 ^ ns[i] := by
      unfold setN
      rw [List.take_add_one, List.getElem?_eq_getElem hlt, Option.toList_some, List.foldl_append]; rfl
    refine ⟨hlt, z', _, _, _, (by simp (maxSteps := 10000000) (disch := omega) only [l90_0, e3, e6, e7, e8, h1, hcs, hel, hc, bz, z02, Nat.reduceEqDiff, Nat.reduceLT, Nat.reduceAdd, Nat.reduceMul, Int.reduceToNat]; exact rfl), by omega, rfl, rfl, rfl, ?_, ?_, ?_, ?_⟩
    · simp only [z01, z00, Nat.reduceEqDiff, decide_true, decide_false, cond_true, cond_false, hw]
    · simp only [z01, z00, Nat.reduceEqDiff, decide_true, decide_false, cond_true, cond_false, e6, hil]
    · simp only [z01, z00, Nat.reduceEqDiff, decide_true, decide_false, cond_true, cond_false, e7]
    · simp only [z01, z00, Nat.reduceEqDiff, decide_true, decide_false, cond_true, cond_false]; rfl
  · right
    have h1 : ¬ ((i : Int) < (ns.length : Int)) := by omega
    have hie : i = ns.length := by omega
    have e : ∃ vs2, sC Tryz.prog 17 17 (z08 Tryz.prog vmL S m) l90_0 z' vs' h' nx' = .exi 0 z' vs2 h' nx' ∧ vs2 3 = vs' 3 := by
      refine ⟨_, by simp (maxSteps := 10000000) (disch := omega) only [l90_0, e3, e6, e7, e8, h1, bz, z02, Nat.reduceEqDiff, Nat.reduceLT, Nat.reduceAdd, Nat.reduceMul, Int.reduceToNat]; exact rfl, ?_⟩
      simp only [z01, Nat.reduceEqDiff, decide_true, decide_false, cond_true, cond_false]
    obtain ⟨vs2, e, q3⟩ := e
    rw [e]
    rw [hie, List.take_length] at e3
    exact ⟨trivial, vs2, rfl, q3.trans e3⟩
theorem c90 {S : Kn} (hS : S.Only [22]) {m : Nat} (hm : 2 ≤ m) {ns : List Nat} {h : Hp} {nx : Nat} {v : Value} (hl : ns.length ≤ 1000) (h60 : ∀ n, n ∈ ns → n ≤ 60) (hv : Lst h nx 1 v (ints (nsI ns))) : z07 90 [v] (z08 Tryz.prog vmL S m) h nx = .gen (vi (setN ns)) h nx [] := by
  refine fun90.ground (hS _ _ _ _ (by decide)) (by omega) rfl (by simp) ?_
  obtain ⟨a, c, e1, _⟩ := hv.form
  have hil : (ints (nsI ns)).length = ns.length := by simp [ints, nsI]
  rw [hil] at e1
  simp (maxSteps := 10000000) (disch := omega) only [s90, z1x, e1, bz, z02, Nat.reduceEqDiff, Nat.reduceLT, Nat.reduceAdd, Nat.reduceMul, Int.reduceToNat]
  generalize hr : z0w _ _ _ _ _ = r
  obtain ⟨vs', rfl, e3⟩ := loop90 hS (by omega) hl h60 hv rfl (by rw [e1]; rfl) rfl rfl hr
  exact ⟨_, _, by simp (maxSteps := 10000000) (disch := omega) only [e3, bz, z02, Nat.reduceEqDiff, Nat.reduceLT, Nat.reduceAdd, Nat.reduceMul, Int.reduceToNat]; rfl⟩
def z2j (next last : Int) : List Int → Bool
  | [] => true
  | x :: l => inB next last x && z2j (x + 1) last l
def hasQ (zs : List Int) (k : Nat) : Bool := decide ((k : Int) ∈ zs)
theorem loop116 {S : Kn} (hS : S.Only [22]) {m : Nat} (hm : 1 ≤ m) {b : Bk} {zs : List Int} {z : Z} {vs : Vs} {G : Hp} {nx p2 p4 p5 : Nat} {v : Value} (hl : zs.length ≤ 140737488355328) (h7 : b.P.length ≤ 7) {pa : Option Addr} {pc : Nat} (hpv : b.pv = .slice pa b.P.length pc)
    (hv : ∀ f, Lst (hset G p5 (.cells (z09 f) none)) nx 1 v (ints zs)) (hr2 : ∀ f, rowL (hset G p5 (.cells (z09 f) none)) p2 = some b.cells)
    (hz : z.n0 ≤ p5) (hz4 : z.n0 ≤ p4) (h45 : p4 ≠ p5) (hr4 : ∃ C, hget G p4 = some (.cells (z09 C) none))
    (g2 : vs 2 = some (pt p2)) (g4 : vs 4 = some (pt p4)) (g5 : vs 5 = some (pt p5)) (g6 : vs 6 = some (vi 0)) (g9 : vs 9 = some v) (g10 : vs 10 = some (vi zs.length)) (g11 : vs 11 = some (vi 0)) {r : R} (hr : z0w (sC Tryz.prog 32 32 (z08 Tryz.prog vmL S m) l116_0) z vs (hset G p5 (.cells (z09 fun _ => false) none)) nx = r) :
    (z2j 0 (b.P.length - 1) zs = false ∧ ∃ vs' h', r = .ret z vs' h' nx ∧ vs' 4 = some (pt p4) ∧ rowL h' p4 = some (z09 fun _ => false)) ∨ (z2j 0 (b.P.length - 1) zs = true ∧ ∃ vs', r = .exi 0 z vs' (hset G p5 (.cells (z09 (hasQ zs)) none)) nx ∧ vs' 4 = some (pt p4) ∧ vs' 5 = some (pt p5)) := by
  subst hr
  refine z0o (Post := fun r => (z2j 0 (b.P.length - 1) zs = false ∧ ∃ vs' h', r = .ret z vs' h' nx ∧ vs' 4 = some (pt p4) ∧ rowL h' p4 = some (z09 fun _ => false)) ∨ (z2j 0 (b.P.length - 1) zs = true ∧ ∃ vs', r = .exi 0 z vs' (hset G p5 (.cells (z09 (hasQ zs)) none)) nx ∧ vs' 4 = some (pt p4) ∧ vs' 5 = some (pt p5)))
    (fun i z' vs' h' nx' => i ≤ zs.length ∧ z' = z ∧ nx' = nx ∧ vs' 2 = some (pt p2) ∧ vs' 4 = some (pt p4) ∧ vs' 5 = some (pt p5) ∧ vs' 9 = some v ∧ vs' 10 = some (vi zs.length) ∧ vs' 11 = some (vi (i : Int)) ∧ ∃ f next, h' = hset G p5 (.cells (z09 f) none) ∧ vs' 6 = some (vi next) ∧ 0 ≤ next ∧ next ≤ 1000000 ∧ (∀ k : Nat, k < 7 → f k = decide ((k : Int) ∈ zs.take i)) ∧ z2j 0 (b.P.length - 1) zs = z2j next (b.P.length - 1) (zs.drop i)) zs.length (by omega)
    ⟨Nat.zero_le _, rfl, rfl, g2, g4, g5, g9, g10, g11, fun _ => false, 0, rfl, g6, by omega, by omega, fun k _ => by simp, rfl⟩ ?_
  rintro i z' vs' h' nx' ⟨hi, rfl, rfl, e2, e4, e5, e9, e10, e11, f, next, rfl, e6, n0, n1, ef, ec⟩
  have hvf := hv f
  obtain ⟨a, c, rfl, _⟩ := hvf.form
  have hil : (ints zs).length = zs.length := by simp [ints]
  rw [hil] at e9 hv hvf
  have hrf := hr2 f
  have hpt : z0c false 1 b.cells 0 = some b.pv := rfl
  rw [hpv] at hpt
  by_cases hlt : i < zs.length
  · obtain ⟨_, rr, o, row, cs, rfl, hrn, hrow, hrl, hcs, ho, hseg⟩ := hvf.load (i := i) hlt
    have h1 : ((i : Int) < (zs.length : Int)) := by omega
    have hrw : row = [vi zs[i]] := by
      unfold ints at hrow
      rw [List.getElem?_map, List.getElem?_eq_getElem hlt] at hrow
      exact (Option.some.inj hrow).symm
    subst hrw
    have hel : z0c false 1 cs (o + i * 1) = some (vi zs[i]) := z2u (row := []) hseg
    have k85 := fun (h : Hp) (nx : Nat) (lo hi x : Int) => c85 hS (m := m) (h := h) (nx := nx) (by omega) lo hi x
    have hd : zs.drop i = zs[i] :: zs.drop (i + 1) := List.drop_eq_getElem_cons hlt
    rw [hd] at ec
    rcases Bool.eq_false_or_eq_true (inB next (b.P.length - 1) zs[i]) with hb | hb
    · left
      have hbb := z15 hb
      obtain ⟨x, hx⟩ : ∃ x : Nat, (x : Int) = zs[i] := ⟨zs[i].toNat, by omega⟩
      have hx7 : x < 7 := by omega
      have hst : storeAt 1 (hset G p5 (.cells (z09 f) none)) p5 (0 + x * 1) (.bool true) = .wr (hset G p5 (.cells (z09 fun k => if k = x then true else f k) none)) p5 := by
        unfold storeAt
        rw [z11]
        simp only [cellsL, List.length_cons, List.length_nil, Nat.zero_add, Nat.mul_one, bools_store f x hx7 true, z16]
        rfl
      have hst' : storeAt 1 (hset G p5 (.cells (z09 f) none)) p5 (x * 1) (.bool true) = .wr (hset G p5 (.cells (z09 fun k => if k = x then true else f k) none)) p5 := by rwa [Nat.zero_add] at hst
      have hix : z6l 7 (.int .i64 (x : Int)) = some x := z8h 7 .i64 x hx7
      have hcl : z2j 0 (b.P.length - 1) zs = z2j (zs[i] + 1) (b.P.length - 1) (zs.drop (i + 1)) := by rw [ec]; show (inB _ _ _ && _) = _; rw [hb]; rfl
      have hmem : ∀ k : Nat, ((k : Int) ∈ zs.take (i + 1)) ↔ ((k : Int) ∈ zs.take i ∨ k = x) := fun k => by
        rw [List.take_add_one, List.getElem?_eq_getElem hlt, Option.toList_some, List.mem_append, List.mem_singleton, ← hx]
        constructor
        · rintro (q | q)
          · exact .inl q
          · exact .inr (by omega)
        · rintro (q | q)
          · exact .inl q
          · exact .inr (by omega)
      rw [← hx] at hel hb hcl
      refine ⟨hlt, z', _, _, _, (by simp (maxSteps := 10000000) (disch := omega) only [l116_0, e2, e4, e5, e6, e9, e10, e11, h1, hcs, hel, hrf, hpt, k85, hb, storeO, hix, hst', z1k, bz, z02, Nat.reduceEqDiff, Nat.reduceLT, Nat.reduceAdd, Nat.reduceMul, Int.reduceToNat]; exact rfl), by omega, rfl, rfl, ?_, ?_, ?_, ?_, ?_, ?_, _, _, rfl, (by simp only [z01, z00, Nat.reduceEqDiff, decide_true, decide_false, cond_true, cond_false]), by omega, by omega, fun k hk => ?_, hcl⟩
      · simp only [z01, z00, Nat.reduceEqDiff, decide_true, decide_false, cond_true, cond_false, e2]
      · simp only [z01, z00, Nat.reduceEqDiff, decide_true, decide_false, cond_true, cond_false, e4]
      · simp only [z01, z00, Nat.reduceEqDiff, decide_true, decide_false, cond_true, cond_false, e5]
      · simp only [z01, z00, Nat.reduceEqDiff, decide_true, decide_false, cond_true, cond_false, e9, hil]
      · simp only [z01, z00, Nat.reduceEqDiff, decide_true, decide_false, cond_true, cond_false, e10]
      · simp only [z01, z00, Nat.reduceEqDiff, decide_true, decide_false, cond_true, cond_false]; rfl
      · by_cases hkx : k = x
        · simp [hkx, hmem]
        · simp [hkx, hmem, ef k hk]
    · right
      obtain ⟨C, hC⟩ := hr4
      have hst : storeAt 7 (hset G p5 (.cells (z09 f) none)) p4 0 (.agg #[.bool false, .bool false, .bool false, .bool false, .bool false, .bool false, .bool false]) = .wr (hset (hset G p5 (.cells (z09 f) none)) p4 (.cells (z09 fun _ => false) none)) p4 := by
        have := z3h (h := hset G p5 (.cells (z09 f) none)) (r := p4) (cs := z09 C) (l := z09 fun _ => false) (b := none) (by rw [z0p _ h45]; exact hC) rfl
        exact this
      have e : ∃ vs2, sC Tryz.prog 32 32 (z08 Tryz.prog vmL S m) l116_0 z' vs' (hset G p5 (.cells (z09 f) none)) nx' = .ret z' vs2 (hset (hset G p5 (.cells (z09 f) none)) p4 (.cells (z09 fun _ => false) none)) nx' ∧ vs2 4 = some (pt p4) := by
        refine ⟨_, by simp (maxSteps := 10000000) (disch := omega) only [l116_0, e2, e4, e5, e6, e9, e10, e11, h1, hcs, hel, hrf, hpt, k85, hb, storeO, hst, z1k, bm, z02, Nat.reduceEqDiff, Nat.reduceLT, Nat.reduceAdd, Nat.reduceMul, Int.reduceToNat]; exact rfl, ?_⟩
        simp only [z01, z00, Nat.reduceEqDiff, decide_true, decide_false, cond_true, cond_false, e4]
      obtain ⟨vs2, e, q4⟩ := e
      rw [e]
      refine ⟨trivial, .inl ⟨?_, vs2, _, rfl, q4, z03 _ _⟩⟩
      rw [ec]
      show (inB _ _ _ && _) = _
      rw [hb]; rfl
  · right
    have h1 : ¬ ((i : Int) < (zs.length : Int)) := by omega
    have e : ∃ vs2, sC Tryz.prog 32 32 (z08 Tryz.prog vmL S m) l116_0 z' vs' (hset G p5 (.cells (z09 f) none)) nx' = .exi 0 z' vs2 (hset G p5 (.cells (z09 f) none)) nx' ∧ vs2 4 = some (pt p4) ∧ vs2 5 = some (pt p5) := by
      refine ⟨_, by simp (maxSteps := 10000000) (disch := omega) only [l116_0, e2, e4, e5, e6, e9, e10, e11, h1, bz, z02, Nat.reduceEqDiff, Nat.reduceLT, Nat.reduceAdd, Nat.reduceMul, Int.reduceToNat]; exact rfl, ?_, ?_⟩
      · simp only [z01, Nat.reduceEqDiff, decide_true, decide_false, cond_true, cond_false, e4]
      · simp only [z01, Nat.reduceEqDiff, decide_true, decide_false, cond_true, cond_false, e5]
    obtain ⟨vs2, e, q4, q5⟩ := e
    rw [e]
    refine ⟨trivial, .inr ⟨?_, vs2, ?_, q4, q5⟩⟩
    · rw [ec, List.drop_of_length_le (by omega)]; rfl
    · rw [bools_congr (g := hasQ zs) fun k hk => (ef k hk).trans (by rw [List.take_of_length_le (by omega)]; rfl)]
def listQ (n : Nat) (zs : List Int) (k : Nat) : Bool := z2j 0 (n - 1) zs && hasQ zs k
theorem c116 {S : Kn} (hS : S.Only [22]) {m : Nat} (hm : 2 ≤ m) {b : Bk} {h : Hp} {nx : Nat} (hb : b.At h nx) (h7 : b.P.length ≤ 7) {zs : List Int} {v : Value} (hl : zs.length ≤ 140737488355328) (hv : Lst h nx 1 v (ints zs)) : z07 116 [.agg b.cells.toArray, v] (z08 Tryz.prog vmL S m) h nx = .gen (.agg (z09 (listQ b.P.length zs)).toArray) h nx [] := by
  refine fun116.ground (hS _ _ _ _ (by decide)) (by omega) rfl (by simp) ?_
  obtain ⟨pa, pc, hpv, _⟩ := hb.p.form
  rw [List.length_map] at hpv
  obtain ⟨a, c, hve, _⟩ := hv.form
  have hil : (ints zs).length = zs.length := by simp [ints]
  rw [hil] at hve
  subst hve
  obtain ⟨G, eG⟩ : ∃ x, x = hset (hset h nx (.cells b.cells none)) (nx + 1) (.cells (z09 fun _ => false) none) := ⟨_, rfl⟩
  have hsm : ∀ f, Same nx h (hset G (nx + 1 + 1) (.cells (z09 f) none)) := fun f => by rw [eG]; exact (((Same.refl nx h).set (Nat.le_refl _) _).set (by omega) _).set (by omega) _
  have hrr : ∀ f, rowL (hset G (nx + 1 + 1) (.cells (z09 f) none)) nx = some b.cells := fun f => by
    rw [z0j _ (by omega), eG, z0j _ (by omega)]; exact z03 _ _
  simp (maxSteps := 10000000) (disch := omega) only [s116, z1x, noB, ← eG, bz, z02, Nat.reduceEqDiff, Nat.reduceLT, Nat.reduceAdd, Nat.reduceMul, Int.reduceToNat]
  generalize hr : z0w _ _ _ _ _ = r
  rcases loop116 hS (m := m - 1) (by omega) (b := b) (p2 := nx) (p4 := nx + 1) (p5 := nx + 1 + 1) (G := G) hl h7 hpv (fun f => hv.same (hsm f) (by omega)) hrr (by show nx ≤ _; omega) (by show nx ≤ _; omega) (by omega) ⟨_, by rw [eG]; exact z11 _ _⟩ rfl rfl rfl rfl rfl rfl rfl hr with ⟨hc, vs', h', rfl, q4, qr⟩ | ⟨hc, vs', rfl, q4, q5⟩
  · have e : listQ b.P.length zs = fun _ => false := by funext k; unfold listQ; rw [hc]; rfl
    rw [e]
    exact ⟨_, _, by simp (maxSteps := 10000000) (disch := omega) only [q4, qr, pBools, bz, z02, Nat.reduceEqDiff, Nat.reduceLT, Nat.reduceAdd, Nat.reduceMul, Int.reduceToNat]; rfl⟩
  · have e : listQ b.P.length zs = hasQ zs := by funext k; unfold listQ; rw [hc]; rfl
    rw [e]
    have hst : storeAt 7 (hset G (nx + 1 + 1) (.cells (z09 (hasQ zs)) none)) (nx + 1) 0 (.agg (z09 (hasQ zs)).toArray) = .wr (hset (hset G (nx + 1 + 1) (.cells (z09 (hasQ zs)) none)) (nx + 1) (.cells (z09 (hasQ zs)) none)) (nx + 1) := by
      exact z3h (h := hset G (nx + 1 + 1) (.cells (z09 (hasQ zs)) none)) (r := nx + 1) (cs := z09 fun _ => false) (l := z09 (hasQ zs)) (b := none) (by rw [z0p _ (by omega), eG]; exact z11 _ _) rfl
    exact ⟨_, _, by simp (maxSteps := 10000000) (disch := omega) only [q4, q5, storeO, hst, pBools, bm, z02, Nat.reduceEqDiff, Nat.reduceLT, Nat.reduceAdd, Nat.reduceMul, Int.reduceToNat]; rfl⟩
theorem climb_mem {l : Int} : ∀ {zs : List Int} {a : Int}, z2j a l zs = true → ∀ x, x ∈ zs → a ≤ x ∧ x ≤ l := by
  intro zs
  induction zs with
  | nil => intro a _ x hx; cases hx
  | cons y zs ih =>
    intro a h x hx
    obtain ⟨h1, h2⟩ := Bool.and_eq_true_iff.1 (show (inB a l y && z2j (y + 1) l zs) = true from h)
    have := z15 h1
    rcases List.mem_cons.1 hx with rfl | hx
    · exact this
    · have := ih h2 x hx; omega
theorem climb_len {l : Int} : ∀ {zs : List Int} {a : Int}, z2j a l zs = true → (zs.length : Int) ≤ max 0 (l + 1 - a) := by
  intro zs
  induction zs with
  | nil => intro a _; simp; omega
  | cons y zs ih =>
    intro a h
    obtain ⟨h1, h2⟩ := Bool.and_eq_true_iff.1 (show (inB a l y && z2j (y + 1) l zs) = true from h)
    have := z15 h1
    have := ih h2
    rw [List.length_cons]
    omega
def natsQ (zs : List Int) : List Nat := zs.map Int.toNat
theorem natsQ_is {zs : List Int} (h : ∀ x, x ∈ zs → 0 ≤ x) : nsI (natsQ zs) = zs := by
  unfold nsI natsQ
  rw [List.map_map]
  conv => rhs; rw [← List.map_id zs]
  exact List.map_congr_left fun x hx => Int.toNat_of_nonneg (h x hx)
structure Pa where
  kind : Int
  zs : List Int
  v : Value
def Pa.cells (p : Pa) : List Value := [vi p.kind, p.v]
structure Pa.At (p : Pa) (h : Hp) (nx : Nat) : Prop where
  l : Lst h nx 1 p.v (ints p.zs)
  n : p.zs.length ≤ 140737488355328
theorem Pa.At.same {p : Pa} {h h' : Hp} {nx nx' : Nat} (k : p.At h nx) (a : Same nx h h') (hn : nx ≤ nx') : p.At h' nx' := ⟨k.l.same a hn, k.n⟩
def isQ (b : Bk) (p : Pa) : Bool := inB 0 (b.K.length - 1) p.kind && (z2j 0 (b.P.length - 1) p.zs && !p.zs.isEmpty)
def setQ (p : Pa) : Nat := setN (natsQ p.zs)
def anyQ (f : Nat → Bool) : Bool := f 0 || (f 1 || (f 2 || (f 3 || (f 4 || (f 5 || f 6)))))
theorem anyQ_iff (f : Nat → Bool) : anyQ f = true ↔ ∃ k, k < 7 ∧ f k = true := by
  unfold anyQ
  simp only [Bool.or_eq_true]
  constructor
  · rintro (h | h | h | h | h | h | h)
    · exact ⟨0, by omega, h⟩
    · exact ⟨1, by omega, h⟩
    · exact ⟨2, by omega, h⟩
    · exact ⟨3, by omega, h⟩
    · exact ⟨4, by omega, h⟩
    · exact ⟨5, by omega, h⟩
    · exact ⟨6, by omega, h⟩
  · rintro ⟨k, hk, h⟩
    have : k = 0 ∨ k = 1 ∨ k = 2 ∨ k = 3 ∨ k = 4 ∨ k = 5 ∨ k = 6 := by omega
    rcases this with rfl | rfl | rfl | rfl | rfl | rfl | rfl <;> simp [h]
theorem any_list {n : Nat} (h7 : n ≤ 7) (zs : List Int) : anyQ (listQ n zs) = (z2j 0 (n - 1) zs && !zs.isEmpty) := by
  rw [Bool.eq_iff_iff, anyQ_iff, Bool.and_eq_true]
  constructor
  · rintro ⟨k, hk, h⟩
    obtain ⟨h1, h2⟩ := Bool.and_eq_true_iff.1 h
    refine ⟨h1, ?_⟩
    cases zs with
    | nil => simp [hasQ] at h2
    | cons _ _ => rfl
  · rintro ⟨h1, h2⟩
    cases zs with
    | nil => simp at h2
    | cons x zs =>
      have := climb_mem h1 x List.mem_cons_self
      refine ⟨x.toNat, by omega, ?_⟩
      unfold listQ
      rw [h1]
      show hasQ _ _ = true
      unfold hasQ
      rw [Int.toNat_of_nonneg this.1]
      simp
def loadV (b : Bk) (p : Pa) : Value := .agg #[vi (bif isQ b p then p.kind else 0), vi (bif isQ b p then (setQ p : Int) else 0)]
theorem c84 {S : Kn} (hS : S.Only [22]) {m : Nat} (hm : 4 ≤ m) {b : Bk} {h : Hp} {nx : Nat} (hb : b.At h nx) (h7 : b.P.length ≤ 7) (h4 : b.K.length ≤ 4) {p : Pa} (hp : p.At h nx) : z07 84 [.agg b.cells.toArray, .agg p.cells.toArray] (z08 Tryz.prog vmL S m) h nx = .gen (loadV b p) h nx [] := by
  refine fun84.ground (hS _ _ _ _ (by decide)) (by omega) rfl (by simp) ?_
  obtain ⟨G, eG⟩ : ∃ x, x = hset (hset (hset h nx (.cells b.cells none)) (nx + 1) (.cells p.cells none)) (nx + 1 + 1) (.cells [vi 0, vi 0] none) := ⟨_, rfl⟩
  have hsm : Same nx h G := by rw [eG]; exact (((Same.refl nx h).set (Nat.le_refl _) _).set (by omega) _).set (by omega) _
  have hb' := hb.same hsm (nx' := nx + 1 + 1 + 1) (by omega)
  have hp' := hp.same hsm (nx' := nx + 1 + 1 + 1) (by omega)
  have k116 := c116 hS (m := m - 1) (by omega) hb' h7 hp'.n hp'.l
  have k85 := fun (h : Hp) (nx : Nat) (lo hi x : Int) => c85 hS (m := m - 1) (h := h) (nx := nx) (by omega) lo hi x
  have k115 := fun (h : Hp) (nx : Nat) => c115 hS (m := m - 1) (h := h) (nx := nx) (by omega) (b.K.length : Int) (by omega) (by omega)
  obtain ⟨ka, kc, hkv, _⟩ := hb.k.form
  rw [List.length_map] at hkv
  have hany := any_list h7 p.zs
  unfold loadV isQ
  simp only [Bk.cells, Pa.cells, z09] at k116 eG
  unfold anyQ at hany
  rw [hkv] at k116 eG
  rw [eG] at k116
  rcases Bool.eq_false_or_eq_true (inB 0 (b.K.length - 1) p.kind) with h1 | h1
  · rcases Bool.eq_false_or_eq_true (z2j 0 (b.P.length - 1) p.zs && !p.zs.isEmpty) with h2 | h2
    · rw [h1, h2]
      rw [h2] at hany
      have h3 := Bool.and_eq_true_iff.1 h2
      have hr := climb_mem h3.1
      have hz : nsI (natsQ p.zs) = p.zs := natsQ_is fun x hx => (hr x hx).1
      have hp2 := hp'.l
      rw [← hz, eG] at hp2
      have k90 := c90 hS (m := m - 1) (by omega) (ns := natsQ p.zs) (by
        have : (natsQ p.zs).length = p.zs.length := by simp [natsQ]
        have hl := climb_len h3.1
        omega) (fun n hn => by
          obtain ⟨x, hx, rfl⟩ := List.mem_map.1 hn
          have := hr x hx
          omega) hp2
      simp (maxSteps := 10000000) (disch := omega) only [s84, Bk.cells, Pa.cells, hkv, k85, k115, k116, k90, h1, eq124, hany, setQ, bz, z02, Nat.reduceEqDiff, Nat.reduceLT, Nat.reduceAdd, Nat.reduceMul, Int.reduceToNat]
      exact ⟨_, _, rfl⟩
    · rw [h1, h2]
      rw [h2] at hany
      simp (maxSteps := 10000000) (disch := omega) only [s84, Bk.cells, Pa.cells, hkv, k85, k115, k116, h1, eq124, hany, bz, z02, Nat.reduceEqDiff, Nat.reduceLT, Nat.reduceAdd, Nat.reduceMul, Int.reduceToNat]
      exact ⟨_, _, rfl⟩
  · rw [h1]
    simp (maxSteps := 10000000) (disch := omega) only [s84, Bk.cells, Pa.cells, hkv, k85, k115, h1, bz, z02, Nat.reduceEqDiff, Nat.reduceLT, Nat.reduceAdd, Nat.reduceMul, Int.reduceToNat]
    exact ⟨_, _, rfl⟩
theorem pA9 (x0 x1 x2 x3 x4 x5 x6 x7 x8 : Value) (l : List Value) : z0c true 9 (x0 :: x1 :: x2 :: x3 :: x4 :: x5 :: x6 :: x7 :: x8 :: l) 0 = some (.agg #[x0, x1, x2, x3, x4, x5, x6, x7, x8]) := rfl
def askL (b : Bk) (p : Pa) : List Value := b.cells ++ p.cells
theorem c55 {S : Kn} (hS : S.Only [22]) {m : Nat} (hm : 5 ≤ m) {b : Bk} {h : Hp} {nx : Nat} (hb : b.At h nx) (h7 : b.P.length ≤ 7) (h4 : b.K.length ≤ 4) {p : Pa} (hp : p.At h nx) : z07 55 [.agg (askL b p).toArray] (z08 Tryz.prog vmL S m) h nx = .gen (loadV b p) h nx [] := by
  refine fun55.ground (hS _ _ _ _ (by decide)) (by omega) rfl (by simp) ?_
  obtain ⟨G, eG⟩ : ∃ x, x = hset (hset h nx (.cells (askL b p) none)) (nx + 1) (.cells [vi 0, vi 0] none) := ⟨_, rfl⟩
  have hsm : Same nx h G := by rw [eG]; exact ((Same.refl nx h).set (Nat.le_refl _) _).set (by omega) _
  have k84 := c84 hS (m := m - 1) (by omega) (hb.same hsm (nx' := nx + 1 + 1) (by omega)) h7 h4 (hp.same hsm (nx' := nx + 1 + 1) (by omega))
  simp only [eG, askL, Bk.cells, Pa.cells, List.cons_append, List.nil_append] at k84
  unfold loadV at k84 ⊢
  simp (maxSteps := 10000000) (disch := omega) only [s55, askL, Bk.cells, Pa.cells, List.cons_append, List.nil_append, k84, pA9, bz, z02, Nat.reduceEqDiff, Nat.reduceLT, Nat.reduceAdd, Nat.reduceMul, Int.reduceToNat]
  exact ⟨_, _, rfl⟩
theorem setQ_pos {b : Bk} {p : Pa} (h : isQ b p = true) : 0 < setQ p := by
  unfold isQ at h
  have h3 := Bool.and_eq_true_iff.1 (Bool.and_eq_true_iff.1 h).2
  cases hz : p.zs with
  | nil => rw [hz] at h3; simp at h3
  | cons x zs =>
    have : (setQ p).testBit x.toNat = true := by
      unfold setQ natsQ
      rw [setN_bit, hz]
      simp
    exact Nat.pos_of_ne_zero fun q => by rw [q] at this; simp at this
theorem kind_lt {b : Bk} {p : Pa} (h : isQ b p = true) : 0 ≤ p.kind ∧ p.kind < b.K.length := by
  unfold isQ at h
  have := z15 (Bool.and_eq_true_iff.1 h).1
  omega
theorem setQ_lt {b : Bk} {p : Pa} (h7 : b.P.length ≤ 7) (h : isQ b p = true) : setQ p < 4611686018427387904 := by
  unfold isQ at h
  have h3 := Bool.and_eq_true_iff.1 (Bool.and_eq_true_iff.1 h).2
  have hr := climb_mem h3.1
  have := setN_lt (ns := natsQ p.zs) (fun n hn => by
    obtain ⟨x, hx, rfl⟩ := List.mem_map.1 hn
    have := hr x hx
    omega)
  unfold setQ
  omega
theorem c53 {S : Kn} (hS : S.Only [22]) {m : Nat} (hm : 6 ≤ m) {b : Bk} {h : Hp} {nx : Nat} (hb : b.At h nx) (h7 : b.P.length ≤ 7) (h4 : b.K.length ≤ 4) {p : Pa} (hp : p.At h nx) : z07 53 [.agg (askL b p).toArray] (z08 Tryz.prog vmL S m) h nx = .gen (.bool (isQ b p)) h nx [] := by
  refine fun53.ground (hS _ _ _ _ (by decide)) (by omega) rfl (by simp) ?_
  obtain ⟨G, eG⟩ : ∃ x, x = hset h nx (.cells (askL b p) none) := ⟨_, rfl⟩
  have hsm : Same nx h G := by rw [eG]; exact (Same.refl nx h).set (Nat.le_refl _) _
  have k55 := c55 hS (m := m - 1) (by omega) (hb.same hsm (nx' := nx + 1) (by omega)) h7 h4 (hp.same hsm (nx' := nx + 1) (by omega))
  simp only [eG, askL, Bk.cells, Pa.cells, List.cons_append, List.nil_append] at k55
  unfold loadV at k55
  rcases Bool.eq_false_or_eq_true (isQ b p) with hq | hq
  · rw [hq] at k55 ⊢
    have hs := setQ_pos hq
    obtain ⟨k, hk⟩ : ∃ k : Nat, (k : Int) = p.kind := ⟨p.kind.toNat, by have := kind_lt hq; omega⟩
    simp only [← hk, cond_true] at k55
    have hn := neq84 k (setQ p) hs
    simp (maxSteps := 10000000) (disch := omega) only [s53, askL, Bk.cells, Pa.cells, ← hk, List.cons_append, List.nil_append, k55, hn, pA9, bz, z02, Nat.reduceEqDiff, Nat.reduceLT, Nat.reduceAdd, Nat.reduceMul, Int.reduceToNat]
    exact ⟨_, _, rfl⟩
  · rw [hq] at k55 ⊢
    simp only [cond_false] at k55
    simp (maxSteps := 10000000) (disch := omega) only [s53, askL, Bk.cells, Pa.cells, List.cons_append, List.nil_append, k55, neq84z, pA9, bz, z02, Nat.reduceEqDiff, Nat.reduceLT, Nat.reduceAdd, Nat.reduceMul, Int.reduceToNat]
    exact ⟨_, _, rfl⟩
theorem c59 {S : Kn} (hS : S.Only [22]) {m : Nat} (hm : 2 ≤ m) {h : Hp} {nx : Nat} (hn : 1 ≤ nx) (hl : rowL h 0 = some limL) (x : Int) : z07 59 [vi x] (z08 Tryz.prog vmL S m) h nx = .gen (.bool (inB 0 4 x)) h nx [] := by
  refine fun59.ground (hS _ _ _ _ (by decide)) (by omega) rfl (by simp) ?_
  have k85 := fun (h : Hp) (nx : Nat) (lo hi x : Int) => c85 hS (m := m - 1) (h := h) (nx := nx) (by omega) lo hi x
  simp (maxSteps := 10000000) (disch := omega) only [s59, k85, hl, pA9, bz, z02, Nat.reduceEqDiff, Nat.reduceLT, Nat.reduceAdd, Nat.reduceMul, Int.reduceToNat]
  exact ⟨_, _, rfl⟩
theorem lst_none {h : Hp} {nx sz : Nat} : Lst h nx sz (.slice none 0 0) [] := ⟨none, 0, rfl, fun i row hi => by simp at hi⟩
theorem c15 {S : Kn} (hS : S.Only [22]) {m : Nat} (hm : 14 ≤ m) {b : Bk} {h : Hp} {nx : Nat} (hb : b.At h nx) : z07 15 [.agg b.cells.toArray] (z08 Tryz.prog vmL S m) h nx = .gen (vi (z82 b.valid true)) h nx [] := by
  refine fun15.ground (hS _ _ _ _ (by decide)) (by omega) rfl (by simp) ?_
  obtain ⟨G, eG⟩ : ∃ x, x = hset h nx (.cells b.cells none) := ⟨_, rfl⟩
  have hsm : Same nx h G := by rw [eG]; exact (Same.refl nx h).set (Nat.le_refl _) _
  have k52 := c52 hS (m := m - 1) (by omega) (hb.same hsm (nx' := nx + 1) (by omega)) (F := []) (by simp) lst_none (fun _ f hf => by cases hf)
  rw [show ([] : List Fu).all Fu.y = true from rfl] at k52
  simp only [eG, Bk.cells] at k52
  simp (maxSteps := 10000000) (disch := omega) only [s15, Bk.cells, k52, pA9, bz, z02, Nat.reduceEqDiff, Nat.reduceLT, Nat.reduceAdd, Nat.reduceMul, Int.reduceToNat]
  exact ⟨_, _, rfl⟩
def fitQ (b : Bk) (p : Pa) : Bool := match b.K[p.kind.toNat]? with
  | some k => z8k b.P (setQ p).testBit k
  | none => false
def costQ (b : Bk) (p : Pa) (zone : Nat) : Int := match b.K[p.kind.toNat]? with
  | some k => k.zs.getD zone 0 + z2e b (setQ p).testBit k + z3x b (setQ p).testBit
  | none => 0
theorem lst_row {h : Hp} {r nx : Nat} {l : List Value} (hr : r < nx) (hc : rowL h r = some l) : Lst h nx 1 (.slice (some ⟨r, 0, none⟩) l.length l.length) (l.map fun x => [x]) := by
  refine ⟨_, _, by rw [List.length_map], fun i row hi => ?_⟩
  rw [List.getElem?_map] at hi
  cases hx : l[i]? with
  | none => rw [hx] at hi; cases hi
  | some x =>
    rw [hx] at hi
    cases hi
    have hlt := (List.getElem?_eq_some_iff.1 hx).1
    refine ⟨rfl, r, 0, l, rfl, hr, hc, by omega, ?_⟩
    rw [Nat.zero_add, Nat.mul_one, List.drop_eq_getElem_cons hlt]
    rw [List.getElem?_eq_getElem hlt] at hx
    cases hx
    rfl
theorem z4b : z82 true true = 0 := rfl
theorem checkI_tf : z82 true false = 61 := rfl
theorem z5d (x : Bool) : z82 false x = 60 := rfl
theorem c13 {S : Kn} (hS : S.Only [22]) {m : Nat} (hm : 15 ≤ m) {b : Bk} {h : Hp} {nx : Nat} (hb : b.At h nx) {p : Pa} (hp : p.At h nx) : z07 13 [.agg b.cells.toArray, .agg p.cells.toArray] (z08 Tryz.prog vmL S m) h nx = .gen (.tuple #[.bool (b.valid && (isQ b p && fitQ b p)), vi (z82 b.valid (isQ b p))]) h nx [] := by
  refine fun13.ground (hS _ _ _ _ (by decide)) (by omega) rfl (by simp) ?_
  obtain ⟨h3, eh3⟩ : ∃ x, x = hset (hset (hset h nx (.cells b.cells none)) (nx + 1) (.cells p.cells none)) (nx + 1 + 1) (.cells (askL b p) none) := ⟨_, rfl⟩
  obtain ⟨h4, eh4⟩ : ∃ x, x = hset h3 (nx + 1 + 1 + 1) (.cells [.func (.func 53) #[.agg (askL b p).toArray] #[]] none) := ⟨_, rfl⟩
  have hsm : Same nx h h4 := by rw [eh4, eh3]; exact ((((Same.refl nx h).set (Nat.le_refl _) _).set (by omega) _).set (by omega) _).set (by omega) _
  have hb' := hb.same hsm (nx' := nx + 1 + 1 + 1 + 1) (by omega)
  have hp' := hp.same hsm (nx' := nx + 1 + 1 + 1 + 1) (by omega)
  have hrow : rowL h4 (nx + 1 + 1 + 1) = some [.func (.func 53) #[.agg (askL b p).toArray] #[]] := by rw [eh4]; exact z03 _ _
  have k52 := c52 hS (m := m - 1) (by omega) hb' (F := [⟨53, [.agg (askL b p).toArray], [], isQ b p⟩]) (by simp) (lst_row (by omega) hrow) (fun hv f hf h' nx' hn hs => by
    have hf' : f = ⟨53, [.agg (askL b p).toArray], [], isQ b p⟩ := by simpa using hf
    subst hf'
    have hF := Bk.fine hv
    exact c53 hS (by omega) (hb'.same hs hn) hF.p7 hF.k4 (hp'.same hs hn))
  rw [show ([⟨53, [.agg (askL b p).toArray], [], isQ b p⟩] : List Fu).all Fu.y = isQ b p from Bool.and_true _] at k52
  rcases Bool.eq_false_or_eq_true b.valid with hv | hv
  · have hF := Bk.fine hv
    rcases Bool.eq_false_or_eq_true (isQ b p) with hq | hq
    · rw [hv, hq, z4b] at k52 ⊢
      have k55 := c55 hS (m := m - 1) (by omega) hb' hF.p7 hF.k4 hp'
      unfold loadV at k55
      rw [hq] at k55
      simp only [cond_true] at k55
      have hk := kind_lt hq
      obtain ⟨k, ek⟩ : ∃ k : Nat, (k : Int) = p.kind := ⟨p.kind.toNat, by omega⟩
      have hkl : k < b.K.length := by omega
      have k54 := c54 hS (m := m - 1) (by omega) hb' hF (setQ p) (setQ_lt hF.p7 hq) hkl
      have hfit : fitQ b p = z8k b.P (setQ p).testBit b.K[k] := by
        unfold fitQ
        rw [← ek, Int.toNat_natCast, List.getElem?_eq_getElem hkl]
      rw [← ek] at k55
      rw [← hfit] at k54
      simp only [eh4, eh3, askL, Bk.cells, Pa.cells, List.cons_append, List.nil_append, ← ek, List.length_cons, List.length_nil, Nat.zero_add] at k52 k54 k55
      simp (maxSteps := 10000000) (implicitDefEqProofs := false) (disch := omega) only [s13, askL, Bk.cells, Pa.cells, ← ek, List.cons_append, List.nil_append, k52, k54, k55, z16, pA9, z1k, storeO, bz, z02, Nat.reduceEqDiff, Nat.reduceLT, Nat.reduceAdd, Nat.reduceMul, Int.reduceToNat]
      exact ⟨_, _, rfl⟩
    · rw [hv, hq, checkI_tf] at k52 ⊢
      simp only [eh4, eh3, askL, Bk.cells, Pa.cells, List.cons_append, List.nil_append, List.length_cons, List.length_nil, Nat.zero_add] at k52
      simp (maxSteps := 10000000) (implicitDefEqProofs := false) (disch := omega) only [s13, askL, Bk.cells, Pa.cells, List.cons_append, List.nil_append, k52, z16, pA9, z1k, storeO, show ((61 : Int) == 0) = false from rfl, bz, z02, Nat.reduceEqDiff, Nat.reduceLT, Nat.reduceAdd, Nat.reduceMul, Int.reduceToNat]
      exact ⟨_, _, rfl⟩
  · rw [hv, z5d] at k52 ⊢
    simp only [eh4, eh3, askL, Bk.cells, Pa.cells, List.cons_append, List.nil_append, List.length_cons, List.length_nil, Nat.zero_add] at k52
    simp (maxSteps := 10000000) (implicitDefEqProofs := false) (disch := omega) only [s13, askL, Bk.cells, Pa.cells, List.cons_append, List.nil_append, k52, z16, pA9, z1k, storeO, show ((60 : Int) == 0) = false from rfl, bz, z02, Nat.reduceEqDiff, Nat.reduceLT, Nat.reduceAdd, Nat.reduceMul, Int.reduceToNat]
    exact ⟨_, _, rfl⟩
def postOk (b : Bk) (p : Pa) (zone : Int) : Bool := isQ b p && inB 0 4 zone
def postE (b : Bk) (p : Pa) (zone : Int) : Int := if b.valid && postOk b p zone then (if fitQ b p then 0 else 4) else z82 b.valid (postOk b p zone)
def postN (b : Bk) (p : Pa) (zone : Int) : Int := if b.valid && (postOk b p zone && fitQ b p) then costQ b p zone.toNat else 0
theorem c17 {S : Kn} (hS : S.Only [22]) {m : Nat} (hm : 15 ≤ m) {b : Bk} {h : Hp} {nx : Nat} (hb : b.At h nx) {p : Pa} (hp : p.At h nx) (zone : Int) : z07 17 [.agg b.cells.toArray, .agg p.cells.toArray, vi zone] (z08 Tryz.prog vmL S m) h nx = .gen (.tuple #[vi (postN b p zone), vi (postE b p zone)]) h nx [] := by
  refine fun17.ground (hS _ _ _ _ (by decide)) (by omega) rfl (by simp) ?_
  obtain ⟨h3, eh3⟩ : ∃ x, x = hset (hset (hset h nx (.cells b.cells none)) (nx + 1) (.cells p.cells none)) (nx + 1 + 1) (.cells (askL b p) none) := ⟨_, rfl⟩
  obtain ⟨h4, eh4⟩ : ∃ x, x = hset h3 (nx + 1 + 1 + 1) (.cells [.func (.func 53) #[.agg (askL b p).toArray] #[], .func (.func 59) #[vi zone] #[]] none) := ⟨_, rfl⟩
  have hsm : Same nx h h4 := by rw [eh4, eh3]; exact ((((Same.refl nx h).set (Nat.le_refl _) _).set (by omega) _).set (by omega) _).set (by omega) _
  have hb' := hb.same hsm (nx' := nx + 1 + 1 + 1 + 1) (by omega)
  have hp' := hp.same hsm (nx' := nx + 1 + 1 + 1 + 1) (by omega)
  have hrow : rowL h4 (nx + 1 + 1 + 1) = some [.func (.func 53) #[.agg (askL b p).toArray] #[], .func (.func 59) #[vi zone] #[]] := by rw [eh4]; exact z03 _ _
  have k52 := c52 hS (m := m - 1) (by omega) hb' (F := [⟨53, [.agg (askL b p).toArray], [], isQ b p⟩, ⟨59, [vi zone], [], inB 0 4 zone⟩]) (by simp) (lst_row (by omega) hrow) (fun hv f hf h' nx' hn hs => by
    have hF := Bk.fine hv
    rcases List.mem_cons.1 hf with rfl | hf
    · exact c53 hS (by omega) (hb'.same hs hn) hF.p7 hF.k4 (hp'.same hs hn)
    · have hf' : f = ⟨59, [vi zone], [], inB 0 4 zone⟩ := by simpa using hf
      subst hf'
      exact c59 hS (by omega) (by omega) (hb'.same hs hn).lim zone)
  have ea : ([⟨53, [.agg (askL b p).toArray], [], isQ b p⟩, ⟨59, [vi zone], [], inB 0 4 zone⟩] : List Fu).all Fu.y = postOk b p zone := by
    show (isQ b p && (inB 0 4 zone && true)) = _
    rw [Bool.and_true]; rfl
  rw [ea] at k52
  unfold postE postN
  rcases Bool.eq_false_or_eq_true b.valid with hv | hv
  · have hF := Bk.fine hv
    rcases Bool.eq_false_or_eq_true (postOk b p zone) with hq0 | hq0
    · obtain ⟨hq, hzn⟩ := Bool.and_eq_true_iff.1 hq0
      rw [hv, hq0, z4b] at k52
      rw [hv, hq0]
      have k55 := c55 hS (m := m - 1) (by omega) hb' hF.p7 hF.k4 hp'
      unfold loadV at k55
      rw [hq] at k55
      simp only [cond_true] at k55
      have hk := kind_lt hq
      obtain ⟨k, ek⟩ : ∃ k : Nat, (k : Int) = p.kind := ⟨p.kind.toNat, by omega⟩
      have hzz := z15 hzn
      obtain ⟨zn, ez⟩ : ∃ k : Nat, (k : Int) = zone := ⟨zone.toNat, by omega⟩
      have hkl : k < b.K.length := by omega
      have hzl : zn < b.K[k].zs.length := by have := (hF.kind hkl).z; omega
      have k54 := c54 hS (m := m - 1) (by omega) hb' hF (setQ p) (setQ_lt hF.p7 hq) hkl
      have k60 := c60 hS (m := m - 1) (by omega) hb' hF (setQ p) (setQ_lt hF.p7 hq) hkl zn hzl
      have hfit : fitQ b p = z8k b.P (setQ p).testBit b.K[k] := by
        unfold fitQ
        rw [← ek, Int.toNat_natCast, List.getElem?_eq_getElem hkl]
      have hcost : costQ b p zone.toNat = b.K[k].zs[zn] + z2e b (setQ p).testBit b.K[k] + z3x b (setQ p).testBit := by
        unfold costQ
        rw [← ek, Int.toNat_natCast, List.getElem?_eq_getElem hkl, ← ez, Int.toNat_natCast]
        simp only [List.getD_eq_getElem?_getD, List.getElem?_eq_getElem hzl, Option.getD_some]
      rw [← ek] at k55
      rw [← hfit] at k54
      rw [← hcost] at k60
      subst ez
      simp only [eh4, eh3, askL, Bk.cells, Pa.cells, List.cons_append, List.nil_append, ← ek, List.length_cons, List.length_nil, Nat.zero_add, Nat.reduceAdd] at k52 k54 k55 k60
      generalize fitQ b p = ft at k54 ⊢
      generalize costQ b p _ = ct at k60 ⊢
      cases ft <;> simp (maxSteps := 10000000) (implicitDefEqProofs := false) (disch := omega) only [s17, askL, Bk.cells, Pa.cells, ← ek, List.cons_append, List.nil_append, k52, k54, k55, k60, z16, pA9, z1k, storeO, bz, z02, Nat.reduceEqDiff, Nat.reduceLT, Nat.reduceAdd, Nat.reduceMul, Int.reduceToNat] <;> exact ⟨_, _, rfl⟩
    · rw [hv, hq0, checkI_tf] at k52
      rw [hv, hq0, checkI_tf]
      simp only [eh4, eh3, askL, Bk.cells, Pa.cells, List.cons_append, List.nil_append, List.length_cons, List.length_nil, Nat.zero_add, Nat.reduceAdd] at k52
      simp (maxSteps := 10000000) (implicitDefEqProofs := false) (disch := omega) only [s17, askL, Bk.cells, Pa.cells, List.cons_append, List.nil_append, k52, z16, pA9, z1k, storeO, show ((61 : Int) == 0) = false from rfl, bz, z02, Nat.reduceEqDiff, Nat.reduceLT, Nat.reduceAdd, Nat.reduceMul, Int.reduceToNat]
      exact ⟨_, _, rfl⟩
  · rw [hv, z5d] at k52
    rw [hv, z5d]
    simp only [eh4, eh3, askL, Bk.cells, Pa.cells, List.cons_append, List.nil_append, List.length_cons, List.length_nil, Nat.zero_add, Nat.reduceAdd] at k52
    simp (maxSteps := 10000000) (implicitDefEqProofs := false) (disch := omega) only [s17, askL, Bk.cells, Pa.cells, List.cons_append, List.nil_append, k52, z16, pA9, z1k, storeO, show ((60 : Int) == 0) = false from rfl, bz, z02, Nat.reduceEqDiff, Nat.reduceLT, Nat.reduceAdd, Nat.reduceMul, Int.reduceToNat]
    exact ⟨_, _, rfl⟩
end Go.Proofs.YtcmkngajdckndaaGreatDoor
namespace Go
namespace Lm
variable {P : Program} {nvs : List (Nat × Nat)}
structure OwnL (h : Hp) (n0 nx sz : Nat) (v : Value) (cells : List Value) : Prop where
  is : (cells = [] ∧ v = .slice none 0 0) ∨ (∃ r len, n0 ≤ r ∧ r < nx ∧ v = .slice (some ⟨r, 0, none⟩) len SENT ∧ hget h r = some (.cells cells (some sz)) ∧ cells.length = len * sz ∧ 0 < len)
theorem OwnL.nil {h : Hp} {n0 nx sz : Nat} : OwnL h n0 nx sz (.slice none 0 0) [] := ⟨.inl ⟨rfl, rfl⟩⟩
theorem OwnL.app {h : Hp} {n0 nx sz k : Nat} {v x : Value} {cells new : List Value} (a : OwnL h n0 nx sz v cells) (hn : n0 ≤ nx) (hx : z2d h sz x = some (1, new)) (hl : new.length = sz) (hsz : 0 < sz) (hk : cells.length = k * sz) (hk2 : k + 1 ≤ 65536) :
    ∃ v' h' M, appO h nx (some sz) (some v) (some x) = .gen v' h' (nx + 1) M ∧ (∀ z : Z, z.n0 ≤ n0 → logZ z M = z) ∧ OwnL h' n0 (nx + 1) sz v' (cells ++ new) ∧ (∀ s, s < n0 → hget h' s = hget h s) ∧ (∀ s, (∀ r len, v = .slice (some ⟨r, 0, none⟩) len SENT → s ≠ r) → s ≠ nx → hget h' s = hget h s) := by
  rcases a.is with ⟨rfl, rfl⟩ | ⟨r, len, hr0, hrn, rfl, hg, hlen, hpos⟩
  · refine ⟨_, hset h nx (.cells new (some sz)), [], ?_, fun z _ => rfl, ⟨.inr ⟨nx, 1, hn, by omega, rfl, z11 _ _, by simp [hl], by omega⟩⟩, fun s hs => z0p _ (by omega), fun s _ hs => z0p _ hs⟩
    unfold appO
    simp only [hx, z5l]
    show appTo h nx sz (.slice none 0 0) 1 new = _
    unfold appTo small z4c
    rfl
  · have hkl : len = k := by
      rw [hlen] at hk
      exact Nat.eq_of_mul_eq_mul_right hsz hk
    subst hkl
    refine ⟨.slice (some ⟨nx, 0, none⟩) (len + 1) SENT, hset (hset h r .dead) nx (.cells (cells ++ new) (some sz)), [r], ?_, fun z hz => z1k _ _ (by omega), ⟨.inr ⟨nx, len + 1, hn, by omega, rfl, z11 _ _, by rw [List.length_append, hlen, hl, Nat.succ_mul], by omega⟩⟩, fun s hs => ?_, fun s hs hs2 => ?_⟩
    · unfold appO
      simp only [hx, z5l]
      show appTo h nx sz (.slice (some ⟨r, 0, none⟩) len SENT) 1 new = _
      unfold appTo
      simp only [hg, z0h]
      unfold small
      have e1 : Nat.ble (Nat.add len 1) 65536 = true := by rw [z1d]; simpa using hk2
      have e2 : Nat.blt SENT HALF = false := rfl
      have e3 : Nat.beq (Nat.mul len sz) cells.length = true := by rw [hlen]; exact z83 _
      have e4 : szOk (some sz) sz = true := z83 _
      have e5 : Nat.beq SENT SENT = true := z83 _
      have e6 : Nat.beq 0 0 = true := rfl
      rw [e1, e2, e3, e4, e5, e6]
      rfl
    · rw [z0p _ (by omega), z0p _ (by omega)]
    · rw [z0p _ hs2, z0p _ (hs r len rfl)]
theorem OwnL.same {h h' : Hp} {n0 nx nx' sz : Nat} {v : Value} {cells : List Value} (a : OwnL h n0 nx sz v cells) (hn : nx ≤ nx') (hs : ∀ r len, v = .slice (some ⟨r, 0, none⟩) len SENT → hget h' r = hget h r) : OwnL h' n0 nx' sz v cells := by
  rcases a.is with ⟨rfl, rfl⟩ | ⟨r, len, h1, h2, rfl, h4, h5, h6⟩
  · exact .nil
  · exact ⟨.inr ⟨r, len, h1, by omega, rfl, by rw [hs r len rfl]; exact h4, h5, h6⟩⟩
theorem OwnL.cut {h : Hp} {n0 nx sz k : Nat} {v : Value} {cells : List Value} (a : OwnL h n0 nx sz v cells) (hk : cells.length = k * sz) (hsz : 0 < sz) (hk2 : k ≤ 65536) :
    (cells = [] ∧ k = 0 ∧ v = .slice none 0 0 ∧ z6q sz (some v) (some (.int .i64 ((k : Nat) : Int))) (some (.int .i64 ((k : Nat) : Int))) = some (.slice none 0 0)) ∨ (∃ r, n0 ≤ r ∧ r < nx ∧ v = .slice (some ⟨r, 0, none⟩) k SENT ∧ hget h r = some (.cells cells (some sz)) ∧ z6q sz (some v) (some (.int .i64 ((k : Nat) : Int))) (some (.int .i64 ((k : Nat) : Int))) = some (.slice (some ⟨r, 0, none⟩) k k)) := by
  rcases a.is with ⟨rfl, rfl⟩ | ⟨r, len, hr0, hrn, rfl, hg, hlen, hpos⟩
  · left
    have : k = 0 := by
      rcases Nat.eq_zero_or_pos k with q | q
      · exact q
      · have := Nat.mul_pos q hsz; simp at hk; omega
    subst this
    exact ⟨rfl, rfl, rfl, rfl⟩
  · right
    have hkl : len = k := by
      rw [hlen] at hk
      exact Nat.eq_of_mul_eq_mul_right hsz hk
    subst hkl
    refine ⟨r, hr0, hrn, rfl, hg, ?_⟩
    unfold z6q z3l
    have e2 : Nat.blt SENT HALF = false := rfl
    have e3 : Nat.blt len HALF = true := by rw [z0b]; have : (65536 : Nat) < HALF := by decide
                                            simp; omega
    simp only [e2]
    have b1 : z1u len (some (.int .i64 ((len : Nat) : Int))) 0 = some len := by
      show (Bool.rec none (some len) (Nat.ble len len) : Option Nat) = _
      rw [z1d]
      simp
    have b0 : z1u len none 0 = some 0 := rfl
    rw [b1]
    simp only
    rw [b1]
    simp only [b0]
    show (Bool.rec none (mkSl sz r 0 0 len len) (Nat.blt len HALF) : Option Value) = _
    rw [e3]
    unfold mkSl
    simp only [z0h]
    have e5 : Nat.add 0 (Nat.mul 0 sz) = 0 := by show 0 + 0 * sz = 0; omega
    rw [e5]
    cases Nat.beq len 0 <;> rfl
structure NewL (h : Hp) (nx : Nat) (h' : Hp) (nx' sz : Nat) (u : Value) (cells : List Value) : Prop where
  is : (cells = [] ∧ u = .slice none 0 0 ∧ h' = h ∧ nx' = nx) ∨ (∃ n c b, u = .slice (some ⟨nx, 0, none⟩) n c ∧ h' = hset h nx (.cells cells b) ∧ nx' = nx + 1 ∧ cells.length = n * sz ∧ 0 < n)
theorem NewL.keep {h h' : Hp} {nx nx' sz : Nat} {u : Value} {cells : List Value} (a : NewL h nx h' nx' sz u cells) : nx ≤ nx' ∧ Same nx h h' := by
  rcases a.is with ⟨_, _, rfl, rfl⟩ | ⟨n, c, b, _, rfl, rfl, _, _⟩
  · exact ⟨Nat.le_refl _, Same.refl _ _⟩
  · exact ⟨by omega, (Same.refl nx h).set (Nat.le_refl _) _⟩
def ListOut (n0 : Nat) (h1 : Hp) (sz : Nat) (v : Value) (cells : List Value) : Prop := (cells = [] ∧ v = .slice none 0 0) ∨ (∃ r n c b, n0 ≤ r ∧ v = .slice (some ⟨r, 0, none⟩) n c ∧ hget h1 r = some (.cells cells b) ∧ cells.length = n * sz ∧ 0 < n)
theorem Fun.list {f : FuncId} {n : Nat} {rs : List ResultVar} {s : SC} (F : Fun P nvs f n rs s) {S : Kn} {m : Nat} {us : List Value} {h : Hp} {nx sz : Nat} {cells : List Value} (hn : S f us h nx = none) (hm : 1 ≤ m) (ha : us.length ≤ n) (hf : z0m flat cells = true)
    (hx : ∃ v h1 n1, ListOut nx h1 sz v cells ∧ doneR P n rs (sC P n n (z08 P nvs S (m - 1)) s ⟨nx, none, [], []⟩ (enum us 0) h nx) = .val v h1 n1 []) :
    ∃ u h' nx', z07 f us (z08 P nvs S m) h nx = .gen u h' nx' [] ∧ NewL h nx h' nx' sz u cells := by
  obtain ⟨v, h1, n1, ho, hx⟩ := hx
  rcases ho with ⟨rfl, rfl⟩ | ⟨r, k, c, b, hr, rfl, hg, hl, hp⟩
  · exact ⟨_, _, _, F.ground hn hm rfl ha ⟨h1, n1, hx⟩, ⟨.inl ⟨rfl, rfl, rfl, rfl⟩⟩⟩
  · exact ⟨_, _, _, F.fresh hn hm ha hf ⟨h1, n1, r, hr, hg, hx⟩, ⟨.inr ⟨k, c, b, rfl, rfl, rfl, hl, hp⟩⟩⟩
theorem cmp3_tup {h1 h : Hp} {nx r n c : Nat} {cs : List Value} {b : Option Nat} {y : Value} (hy : flat y = true) (hr : nx ≤ r) (hc : hget h1 r = some (.cells cs b)) (hf : z0m flat cs = true) :
    cmp3 h1 nx (.tuple #[.slice (some ⟨r, 0, none⟩) n c, y]) ⟨h, nx, []⟩ = some (.tuple #[.slice (some ⟨nx, 0, none⟩) n c, y], ⟨hset h nx (.cells cs b), nx + 1, [r]⟩) := by
  have e1 : cmp2 h1 nx (.slice (some ⟨r, 0, none⟩) n c) ⟨h, nx, []⟩ = some (.slice (some ⟨nx, 0, none⟩) n c, ⟨hset h nx (.cells cs b), nx + 1, [r]⟩) := cmp3_slice hr hc hf
  have e2 : ∀ s : CS, cmp2 h1 nx y s = some (y, s) := by
    intro s
    cases y with
    | agg _ => cases hy
    | tuple _ => cases hy
    | slice a _ _ => cases a with
      | none => rfl
      | some a => cases hy
    | pointer a => cases a with
      | none => rfl
      | some a => cases hy
    | map a => cases a with
      | none => rfl
      | some a => cases hy
    | _ => first | rfl | cases hy
  show (match cmpL (cmp2 h1 nx) [.slice (some ⟨r, 0, none⟩) n c, y] ⟨h, nx, []⟩ with | some (l, s) => some (Value.tuple l.toArray, s) | none => none) = _
  unfold cmpL
  rw [e1]
  simp only
  unfold cmpL
  rw [e2]
  rfl
theorem Fun.listT {f : FuncId} {n : Nat} {rs : List ResultVar} {s : SC} (F : Fun P nvs f n rs s) {S : Kn} {m : Nat} {us : List Value} {h : Hp} {nx sz : Nat} {cells : List Value} {y : Value} (hy : flat y = true) (hn : S f us h nx = none) (hm : 1 ≤ m) (ha : us.length ≤ n) (hf : z0m flat cells = true)
    (hx : ∃ v h1 n1, ListOut nx h1 sz v cells ∧ doneR P n rs (sC P n n (z08 P nvs S (m - 1)) s ⟨nx, none, [], []⟩ (enum us 0) h nx) = .val (.tuple #[v, y]) h1 n1 []) :
    ∃ u h' nx', z07 f us (z08 P nvs S m) h nx = .gen (.tuple #[u, y]) h' nx' [] ∧ NewL h nx h' nx' sz u cells := by
  obtain ⟨v, h1, n1, ho, hx⟩ := hx
  rcases ho with ⟨rfl, rfl⟩ | ⟨r, k, c, b, hr, rfl, hg, hl, hp⟩
  · refine ⟨_, _, _, F.ground hn hm ?_ ha ⟨h1, n1, hx⟩, ⟨.inl ⟨rfl, rfl, rfl, rfl⟩⟩⟩
    show z0m flat [.slice none 0 0, y] = true
    show (Bool.rec false (Bool.rec false true (flat y)) (flat (.slice none 0 0)) : Bool) = true
    rw [hy]; rfl
  · obtain ⟨q, rfl⟩ : ∃ k, m = k + 1 := ⟨m - 1, by omega⟩
    rw [Nat.add_sub_cancel] at hx
    exact ⟨_, _, _, callF_new rfl (cmp3_tup hy hr hg hf) ((z4t hn).trans ((F.run _ us h nx ha).trans hx)), ⟨.inr ⟨k, c, b, rfl, rfl, rfl, hl, hp⟩⟩⟩
end Lm
end Go
namespace Go.Proofs.YtcmkngajdckndaaGreatDoor
open Go Go.Proofs Go.Lm
set_option maxRecDepth 10000
set_option maxHeartbeats 8000000
theorem appF_24 : appF Tryz.prog 24 24 = some 1 := by kernel_rfl
def oneF (i k : Nat) : Bool := decide (k ∈ [i])
theorem bit_one (i : Nat) : (setN [i]).testBit = oneF i := by funext k; exact setN_bit [i] k
def rowFit (P : List Pc) (f : Nat → Bool) (row : List Value) : Bool := match row with
  | [.int _ room, .int _ most, _, _] => decide (sumP Pc.size P f ≤ room) && (decide (sumP Pc.weight P f ≤ most) && z3g P f)
  | _ => false
def tooQ (b : Bk) (i : Nat) : Bool := !b.K.any (z8k b.P (oneF i))
def bigUp (b : Bk) (i : Nat) : List Nat := (List.range i).filter (tooQ b)
def bigQ (b : Bk) : List Nat := bigUp b b.P.length
theorem bigUp_succ (b : Bk) (i : Nat) : bigUp b (i + 1) = bigUp b i ++ if tooQ b i then [i] else [] := by
  unfold bigUp
  rw [List.range_succ, List.filter_append]
  cases h : tooQ b i <;> simp [h]
theorem bigUp_len (b : Bk) (i : Nat) : (bigUp b i).length ≤ i := by
  unfold bigUp
  refine Nat.le_trans (List.length_filter_le _ _) ?_
  simp
def nsV (ns : List Nat) : List Value := ns.map fun n : Nat => vi (n : Int)
theorem loop62 {S : Kn} (hS : S.Only [22]) {m : Nat} (hm : 7 ≤ m) {b : Bk} {z : Z} {vs : Vs} {h : Hp} {nx p1 : Nat} (hF : b.Fine) (hb : b.At h nx) (hr1 : rowL h p1 = some b.cells) (hp1 : p1 < nx) (hz : z.n0 ≤ nx)
    (g1 : vs 1 = some (pt p1)) (g3 : vs 3 = some (.slice none 0 0)) (g8 : vs 8 = some (vi b.P.length)) (g9 : vs 9 = some (vi 0)) {r : R} (hr : z0w (sC Tryz.prog 34 34 (z08 Tryz.prog vmL S m) l62_0) z vs h nx = r) :
    ∃ vs' h' nx' v, r = .exi 0 z vs' h' nx' ∧ vs' 3 = some v ∧ OwnL h' nx nx' 1 v (nsV (bigQ b)) := by
  subst hr
  refine z0o (Post := fun r => ∃ vs' h' nx' v, r = .exi 0 z vs' h' nx' ∧ vs' 3 = some v ∧ OwnL h' nx nx' 1 v (nsV (bigQ b)))
    (fun i z' vs' h' nx' => i ≤ b.P.length ∧ z' = z ∧ nx ≤ nx' ∧ Same nx h h' ∧ vs' 1 = some (pt p1) ∧ (∃ v, vs' 3 = some v ∧ OwnL h' nx nx' 1 v (nsV (bigUp b i))) ∧ vs' 8 = some (vi b.P.length) ∧ vs' 9 = some (vi (i : Int))) b.P.length (by have := hF.p7; omega)
    ⟨Nat.zero_le _, rfl, Nat.le_refl _, Same.refl _ _, g1, ⟨_, g3, .nil⟩, g8, g9⟩ ?_
  rintro i z' vs' h' nx' ⟨hi, rfl, hn, hs, e1, ⟨v, e3, ev⟩, e8, e9⟩
  have h7 := hF.p7
  by_cases hlt : i < b.P.length
  · left
    have h1 : ((i : Int) < (b.P.length : Int)) := by omega
    obtain ⟨H, eH⟩ : ∃ x, x = hset h' nx' (.cells [vi i] none) := ⟨_, rfl⟩
    have hsH : Same nx h H := by rw [eH]; exact hs.set hn _
    have hb' := hb.same hsH (nx' := nx' + 1) (by omega)
    have hrow : rowL h' p1 = some b.cells := by rw [z0n hs hp1]; exact hr1
    have hrowH : rowL H p1 = some b.cells := by rw [z0n hsH hp1]; exact hr1
    have k90 := c90 hS (m := m) (by omega) (ns := [i]) (h := H) (nx := nx' + 1) (v := .slice (some ⟨nx', 0, none⟩) 1 1) (by simp) (by simp; omega) (lst_row (l := [vi i]) (by omega) (by rw [eH]; exact z03 _ _))
    have hlt2 := setN_lt (ns := [i]) (by simp; omega)
    have k82 := c82 hS (m := m) (by omega) (setN [i]) (by omega) hb' hF.p1 hF.k1 hF.s1
    rw [bit_one] at k82
    have k89 := c89 hS (m := m) (by omega) (h := H) (nx := nx' + 1) (v := b.kv) (rows := b.K.map Kd.row) (by rw [List.length_map]; have := hF.k4; omega) hb'.k (fc := 83) (xs := [.agg (z0f b (oneF i)).toArray]) (ys := []) (p := rowFit b.P (oneF i))
      (fun row hrow => by
        obtain ⟨k, hk, rfl⟩ := List.mem_map.1 hrow
        exact c83 hS hb' hF.p7 hF.po (oneF i) (by omega) k)
    have hany : (b.K.map Kd.row).any (rowFit b.P (oneF i)) = b.K.any (z8k b.P (oneF i)) := by rw [List.any_map]; rfl
    rw [hany] at k89
    have hsu := bigUp_succ b i
    have hlen := bigUp_len b i
    have htoo : tooQ b i = !b.K.any (z8k b.P (oneF i)) := rfl
    have hpk : z0c false 1 b.cells 1 = some b.kv := rfl
    have hp7 : z0c true 7 b.cells 0 = some (.agg b.cells.toArray) := rfl
    rw [eH] at k90 k82 k89 hrowH
    rcases Bool.eq_false_or_eq_true (b.K.any (z8k b.P (oneF i))) with hy | hy
    · rw [hy] at k89 htoo
      rw [htoo] at hsu
      rw [show (if (!true) = true then [i] else []) = ([] : List Nat) from rfl, List.append_nil] at hsu
      refine ⟨hlt, z', _, _, _, (by simp (maxSteps := 10000000) (implicitDefEqProofs := false) (disch := omega) only [l62_0, e1, e3, e8, e9, h1, hrow, hrowH, hpk, hp7, k90, k82, k89, bz, z02, Nat.reduceEqDiff, Nat.reduceLT, Nat.reduceAdd, Nat.reduceMul, Int.reduceToNat]; exact rfl), by omega, rfl, ?_, ?_, ?_, ?_, ?_, ?_⟩
      rotate_left 1
      · exact hs.set hn _
      · simp only [z01, z00, Nat.reduceEqDiff, decide_true, decide_false, cond_true, cond_false, e1]
      · refine ⟨v, by simp only [z01, z00, Nat.reduceEqDiff, decide_true, decide_false, cond_true, cond_false, e3], ?_⟩
        rw [hsu]
        refine ev.same (by omega) fun r len hv => ?_
        rcases ev.is with ⟨_, q⟩ | ⟨r', len', q1, q2, q3, _⟩
        · rw [q] at hv; cases hv
        · rw [q3] at hv; cases hv
          exact z0p _ (by omega)
      · simp only [z01, z00, Nat.reduceEqDiff, decide_true, decide_false, cond_true, cond_false, e8]
      · simp only [z01, z00, Nat.reduceEqDiff, decide_true, decide_false, cond_true, cond_false]; rfl
      · omega
    · rw [hy] at k89 htoo
      rw [htoo] at hsu
      rw [show (if (!false) = true then [i] else []) = [i] from rfl] at hsu
      obtain ⟨H2, eH2⟩ : ∃ x, x = hset (hset h' nx' (.cells [vi i] none)) (nx' + 1) (.cells [vi i] none) := ⟨_, rfl⟩
      have evH2 : OwnL H2 nx (nx' + 1 + 1) 1 v (nsV (bigUp b i)) := ev.same (by omega) fun r len hv => by
        rcases ev.is with ⟨_, q⟩ | ⟨r', len', q1, q2, q3, _⟩
        · rw [q] at hv; cases hv
        · rw [q3] at hv; cases hv
          rw [eH2, z0p _ (by omega), z0p _ (by omega)]
      obtain ⟨v', h2, M, ap, lg, own, fr, _⟩ := evH2.app (k := (bigUp b i).length) (x := .slice (some ⟨nx' + 1, 0, none⟩) 1 1) (new := [vi i]) (by omega) (appended_row (by rw [eH2]; exact z03 _ _) rfl) rfl (by omega) (by simp [nsV]) (by omega)
      have lgz := lg z' hz
      rw [eH2] at ap
      refine ⟨hlt, z', _, _, _, (by simp (maxSteps := 10000000) (implicitDefEqProofs := false) (disch := omega) only [l62_0, e1, e3, e8, e9, h1, hrow, hrowH, hpk, hp7, k90, k82, k89, ap, lgz, appF_24, bz, z02, Nat.reduceEqDiff, Nat.reduceLT, Nat.reduceAdd, Nat.reduceMul, Int.reduceToNat]; exact rfl), by omega, rfl, ?_, ?_, ?_, ?_, ?_, ?_⟩
      rotate_left 1
      · intro s hss
        rw [fr s hss, eH2, z0p _ (by omega), z0p _ (by omega)]; exact hs s hss
      · simp only [z01, z00, Nat.reduceEqDiff, decide_true, decide_false, cond_true, cond_false, e1]
      · refine ⟨v', by simp only [z01, z00, Nat.reduceEqDiff, decide_true, decide_false, cond_true, cond_false], ?_⟩
        rw [hsu]
        have : nsV (bigUp b i ++ [i]) = nsV (bigUp b i) ++ [vi i] := by simp [nsV]
        rw [this]
        exact own
      · simp only [z01, z00, Nat.reduceEqDiff, decide_true, decide_false, cond_true, cond_false, e8]
      · simp only [z01, z00, Nat.reduceEqDiff, decide_true, decide_false, cond_true, cond_false]; rfl
      · omega
  · right
    have h1 : ¬ ((i : Int) < (b.P.length : Int)) := by omega
    have hie : i = b.P.length := by omega
    have e : ∃ vs2, sC Tryz.prog 34 34 (z08 Tryz.prog vmL S m) l62_0 z' vs' h' nx' = .exi 0 z' vs2 h' nx' ∧ vs2 3 = vs' 3 := by
      refine ⟨_, by simp (maxSteps := 10000000) (implicitDefEqProofs := false) (disch := omega) only [l62_0, e1, e3, e8, e9, h1, bz, z02, Nat.reduceEqDiff, Nat.reduceLT, Nat.reduceAdd, Nat.reduceMul, Int.reduceToNat]; exact rfl, ?_⟩
      simp only [z01, Nat.reduceEqDiff, decide_true, decide_false, cond_true, cond_false]
    obtain ⟨vs2, e, q3⟩ := e
    rw [e]
    rw [hie] at ev
    exact ⟨trivial, vs2, _, _, v, rfl, q3.trans e3, ev⟩
theorem nsV_flat (ns : List Nat) : z0m flat (nsV ns) = true := z94 fun v hv => by
  unfold nsV at hv
  obtain ⟨n, _, rfl⟩ := List.mem_map.1 hv
  rfl
theorem nsV_len (ns : List Nat) : (nsV ns).length = ns.length := by simp [nsV]
theorem lst_rowc {h : Hp} {r nx : Nat} {l : List Value} (c : Nat) (hr : r < nx) (hc : rowL h r = some l) : Lst h nx 1 (.slice (some ⟨r, 0, none⟩) l.length c) (l.map fun x => [x]) := by
  obtain ⟨a, c', e, hh⟩ := (lst_row hr hc).form
  rw [List.length_map] at e
  cases e
  exact ⟨_, c, by rw [List.length_map], hh⟩
theorem NewL.lst {h h' : Hp} {nx nx' : Nat} {u : Value} {cells : List Value} (a : NewL h nx h' nx' 1 u cells) : Lst h' nx' 1 u (cells.map fun x => [x]) := by
  rcases a.is with ⟨rfl, rfl, rfl, rfl⟩ | ⟨n, c, b, rfl, rfl, rfl, hl, _⟩
  · exact lst_none
  · rw [Nat.mul_one] at hl
    subst hl
    exact lst_rowc c (by omega) (z03 _ _)
theorem nsV_rows (ns : List Nat) : ((nsV ns).map fun x => [x]) = ints (nsI ns) := by
  unfold nsV ints nsI
  rw [List.map_map, List.map_map]; rfl
theorem c62 {S : Kn} (hS : S.Only [22]) {m : Nat} (hm : 8 ≤ m) {b : Bk} {h : Hp} {nx : Nat} (hF : b.Fine) (hb : b.At h nx) : ∃ u h' nx', z07 62 [.agg b.cells.toArray] (z08 Tryz.prog vmL S m) h nx = .gen u h' nx' [] ∧ NewL h nx h' nx' 1 u (nsV (bigQ b)) := by
  refine fun62.list (sz := 1) (hS _ _ _ _ (by decide)) (by omega) (by simp) (nsV_flat _) ?_
  obtain ⟨H, eH⟩ : ∃ x, x = hset h nx (.cells b.cells none) := ⟨_, rfl⟩
  have hsm : Same nx h H := by rw [eH]; exact (Same.refl nx h).set (Nat.le_refl _) _
  have hb' := hb.same hsm (nx' := nx + 1) (by omega)
  obtain ⟨pa, pc, hpv, _⟩ := hb.p.form
  rw [List.length_map] at hpv
  have hpp : z0c false 1 b.cells 0 = some b.pv := rfl
  rw [hpv] at hpp
  have hrow : rowL H nx = some b.cells := by rw [eH]; exact z03 _ _
  rw [eH] at hrow
  simp (maxSteps := 10000000) (implicitDefEqProofs := false) (disch := omega) only [s62, z1x, hrow, hpp, bz, z02, Nat.reduceEqDiff, Nat.reduceLT, Nat.reduceAdd, Nat.reduceMul, Int.reduceToNat]
  generalize hr : z0w _ _ _ _ _ = r
  obtain ⟨vs', h', nx', v, rfl, e3, ev⟩ := loop62 hS (m := m - 1) (by omega) (b := b) (h := hset h nx (.cells b.cells none)) (nx := nx + 1) (p1 := nx) hF (by rw [← eH]; exact hb') hrow (by omega) (by show nx ≤ _; omega) rfl rfl rfl rfl hr
  have hlen := bigUp_len b b.P.length
  have h7 := hF.p7
  rcases ev.cut (k := (bigQ b).length) (by rw [nsV_len, Nat.mul_one]) (by omega) (by unfold bigQ; omega) with ⟨hc, hk, rfl, hsl⟩ | ⟨r, hr0, hrn, rfl, hg, hsl⟩
  · rw [hk] at hsl
    refine ⟨_, _, _, .inl ⟨hc, rfl⟩, by simp (maxSteps := 10000000) (implicitDefEqProofs := false) (disch := omega) only [e3, hsl, o_slice3, bz, z02, Nat.reduceEqDiff, Nat.reduceLT, Nat.reduceAdd, Nat.reduceMul, Int.reduceToNat]; rfl⟩
  · rcases Nat.eq_zero_or_pos (bigQ b).length with hk | hk
    · exfalso
      rcases ev.is with ⟨_, q⟩ | ⟨r', len', _, _, q, _, ql, qp⟩
      · cases q
      · cases q; omega
    · refine ⟨_, _, _, .inr ⟨r, _, _, _, by omega, rfl, hg, by rw [nsV_len, Nat.mul_one], hk⟩, by simp (maxSteps := 10000000) (implicitDefEqProofs := false) (disch := omega) only [e3, hsl, o_slice3, bz, z02, Nat.reduceEqDiff, Nat.reduceLT, Nat.reduceAdd, Nat.reduceMul, Int.reduceToNat]; rfl⟩
theorem c19 {S : Kn} (hS : S.Only [22]) {m : Nat} (hm : 15 ≤ m) {b : Bk} {h : Hp} {nx : Nat} (hb : b.At h nx) : ∃ u h' nx', z07 19 [.agg b.cells.toArray] (z08 Tryz.prog vmL S m) h nx = .gen (.tuple #[u, vi (z82 b.valid true)]) h' nx' [] ∧ NewL h nx h' nx' 1 u (nsV (if b.valid then bigQ b else [])) := by
  refine fun19.listT (sz := 1) rfl (hS _ _ _ _ (by decide)) (by omega) (by simp) (nsV_flat _) ?_
  obtain ⟨H, eH⟩ : ∃ x, x = hset h nx (.cells b.cells none) := ⟨_, rfl⟩
  have hsm : Same nx h H := by rw [eH]; exact (Same.refl nx h).set (Nat.le_refl _) _
  have hb' := hb.same hsm (nx' := nx + 1) (by omega)
  have k15 := c15 hS (m := m - 1) (by omega) hb'
  rcases Bool.eq_false_or_eq_true b.valid with hv | hv
  · rw [hv, z4b] at k15
    rw [hv, z4b]
    obtain ⟨u, h2, n2, k62, hnew⟩ := c62 hS (m := m - 1) (by omega) (Bk.fine hv) hb'
    simp only [eH, Bk.cells] at k15 k62
    have hne : ListOut nx h2 1 u (nsV (bigQ b)) := by
      rcases hnew.is with ⟨q1, q2, _, _⟩ | ⟨n, c, b2, q1, q2, _, q4, q5⟩
      · exact .inl ⟨q1, q2⟩
      · exact   .inr ⟨_, n, c, b2, by omega, q1, by rw [q2]; exact z11 _ _, q4, q5⟩
    refine ⟨u, _, _, hne, by simp (maxSteps := 10000000) (implicitDefEqProofs := false) (disch := omega) only [s19, Bk.cells, k15, k62, show ((0 : Int) == 0) = true from rfl, bz, z02, Nat.reduceEqDiff, Nat.reduceLT, Nat.reduceAdd, Nat.reduceMul, Int.reduceToNat]; rfl⟩
  · rw [hv, z5d] at k15
    rw [hv, z5d]
    simp only [eH, Bk.cells] at k15
    refine ⟨_, _, _, .inl ⟨rfl, rfl⟩, by simp (maxSteps := 10000000) (implicitDefEqProofs := false) (disch := omega) only [s19, Bk.cells, k15, show ((60 : Int) == 0) = false from rfl, bz, z02, Nat.reduceEqDiff, Nat.reduceLT, Nat.reduceAdd, Nat.reduceMul, Int.reduceToNat]; rfl⟩
end Go.Proofs.YtcmkngajdckndaaGreatDoor
namespace Go.Proofs.YtcmkngajdckndaaGreatDoor
open Go Go.Proofs Go.Lm
set_option maxRecDepth 10000
set_option maxHeartbeats 8000000
variable {S : Kn} (hS : S.Only [22]) {m : Nat} {h : Hp} {nx : Nat}
include hS
theorem c34 (hm : 1 ≤ m) (n k : Int) (hk : 1 ≤ k) (hk2 : k ≤ 1000000000) : z07 34 [vi n, vi k] (z08 Tryz.prog vmL S m) h nx = .gen (vi (n % k)) h nx [] := by
  refine fun34.ground (hS _ _ _ _ (by decide)) hm rfl (by simp) ?_
  have h1 : ¬ k < 1 := by omega
  have h0 : k ≠ 0 := by omega
  have hb := bin_rem (P := Tryz.prog) 3 (.tmp 8) (.tmp 9) n k h0
  have hr := Int.tmod_lt_of_pos n (show 0 < k by omega)
  have hr2 : -k < n.tmod k := by
    have := Int.tmod_lt_of_pos (-n) (show 0 < k by omega)
    rw [Int.neg_tmod] at this
    omega
  by_cases h2 : n.tmod k < 0
  · have e : n % k = n.tmod k + k := by
      rw [Int.emod_eq_tmod]
      have : ¬ (0 ≤ n ∨ k ∣ n) := by
        rintro (q | q)
        · have := Int.tmod_nonneg k q; omega
        · have := Int.tmod_eq_zero_of_dvd q; omega
      rw [if_neg this]
      have : k.natAbs = k.toNat := by omega
      omega
    rw [e]
    simp (maxSteps := 10000000) (implicitDefEqProofs := false) (disch := omega) only [s34, h1, hb, h2, bz, z02, Nat.reduceEqDiff, Nat.reduceLT, Nat.reduceAdd, Nat.reduceMul, Int.reduceToNat]
    exact ⟨_, _, rfl⟩
  · have e : n % k = n.tmod k := by
      have h3 := Int.tmod_add_mul_tdiv n k
      have h4 : (n.tmod k + k * n.tdiv k) % k = n.tmod k := by
        rw [Int.add_mul_emod_self_left]
        exact Int.emod_eq_of_lt (by omega) hr
      rw [h3] at h4
      exact h4
    rw [e]
    simp (maxSteps := 10000000) (implicitDefEqProofs := false) (disch := omega) only [s34, h1, hb, h2, bz, z02, Nat.reduceEqDiff, Nat.reduceLT, Nat.reduceAdd, Nat.reduceMul, Int.reduceToNat]
    exact ⟨_, _, rfl⟩
theorem c41 (hm : 1 ≤ m) (k : Int) {a : Option Addr} {n c : Nat} (hv : oldV nx (.slice a n c)) : z07 41 [vi k, .slice a n c] (z08 Tryz.prog vmL S m) h nx = .gen (.agg #[vi k, .slice a n c]) h nx [] := by
  refine fun41.same (hS _ _ _ _ (by decide)) hm (fun g => cmp3_agg (l := [vi k, .slice a n c]) (fun x hx => by
    simp only [List.mem_cons, List.not_mem_nil, or_false] at hx
    rcases hx with rfl | rfl
    · rfl
    · exact hv) _) (by simp) ?_
  simp (maxSteps := 10000000) (implicitDefEqProofs := false) (disch := omega) only [s41, bz, z02, Nat.reduceEqDiff, Nat.reduceLT, Nat.reduceAdd, Nat.reduceMul, Int.reduceToNat]
  exact ⟨_, _, rfl⟩
omit hS in
theorem loop43 {ih : Rec} {zs : List Int} {n : Int} {z : Z} {vs : Vs} {v : Value} (hl : zs.length ≤ 140737488355328) (hv : Lst h nx 1 v (ints zs))
    (g0 : vs 0 = some v) (g1 : vs 1 = some (vi n)) (g5 : vs 5 = some (vi 0)) {r : R} (hr : z0w (sC Tryz.prog 19 19 ih l43_0) z vs h nx = r) :
    (∃ i : Nat, ∃ vs', zs.idxOf? n = some i ∧ r = .ret z vs' h nx ∧ vs' 4 = some (vi (i : Int))) ∨ (zs.idxOf? n = none ∧ ∃ vs', r = .exi 0 z vs' h nx) := by
  subst hr
  refine z0o (Post := fun r => (∃ i : Nat, ∃ vs', zs.idxOf? n = some i ∧ r = .ret z vs' h nx ∧ vs' 4 = some (vi (i : Int))) ∨ (zs.idxOf? n = none ∧ ∃ vs', r = .exi 0 z vs' h nx))
    (fun i z' vs' h' nx' => i ≤ zs.length ∧ z' = z ∧ nx' = nx ∧ h' = h ∧ vs' 0 = some v ∧ vs' 1 = some (vi n) ∧ vs' 5 = some (vi (i : Int)) ∧ ∀ j (hj : j < zs.length), j < i → zs[j] ≠ n) zs.length (by omega)
    ⟨Nat.zero_le _, rfl, rfl, rfl, g0, g1, g5, fun j _ hj => by omega⟩ ?_
  rintro i z' vs' h' nx' ⟨hi, rfl, rfl, rfl, e0, e1, e5, ef⟩
  obtain ⟨a, c, rfl, _⟩ := hv.form
  have hil : (ints zs).length = zs.length := by simp [ints]
  rw [hil] at e0 hv
  by_cases hlt : i < zs.length
  · obtain ⟨_, rr, o, row, cs, rfl, hrn, hrow, hrl, hcs, ho, hseg⟩ := hv.load (i := i) hlt
    have h1 : ((i : Int) < (zs.length : Int)) := by omega
    have hrw : row = [vi zs[i]] := by
      unfold ints at hrow
      rw [List.getElem?_map, List.getElem?_eq_getElem hlt] at hrow
      exact (Option.some.inj hrow).symm
    subst hrw
    have hel : z0c false 1 cs (o + i * 1) = some (vi zs[i]) := z2u (row := []) hseg
    by_cases h2 : zs[i] = n
    · right
      have h2' : (zs[i] == n) = true := by simp [h2]
      have e : ∃ vs2, sC Tryz.prog 19 19 ih l43_0 z' vs' h' nx' = .ret z' vs2 h' nx' ∧ vs2 4 = some (vi (i : Int)) := by
        refine ⟨_, by simp (maxSteps := 10000000) (implicitDefEqProofs := false) (disch := omega) only [l43_0, e0, e1, e5, h1, hcs, hel, h2', bz, z02, Nat.reduceEqDiff, Nat.reduceLT, Nat.reduceAdd, Nat.reduceMul, Int.reduceToNat]; exact rfl, ?_⟩
        simp only [z01, Nat.reduceEqDiff, decide_true, decide_false, cond_true, cond_false]
      obtain ⟨vs2, e, q4⟩ := e
      rw [e]
      refine ⟨trivial, .inl ⟨i, vs2, ?_, rfl, q4⟩⟩
      rw [List.idxOf?_eq_some_iff]
      exact ⟨hlt, h2, fun j hj => ef j (by omega) hj⟩
    · left
      have h2' : (zs[i] == n) = false := by simp [h2]
      refine ⟨hlt, z', _, _, _, (by simp (maxSteps := 10000000) (implicitDefEqProofs := false) (disch := omega) only [l43_0, e0, e1, e5, h1, hcs, hel, h2', bz, z02, Nat.reduceEqDiff, Nat.reduceLT, Nat.reduceAdd, Nat.reduceMul, Int.reduceToNat]; exact rfl), by omega, rfl, rfl, rfl, ?_, ?_, ?_, fun j hj hji => ?_⟩
      · simp only [z01, Nat.reduceEqDiff, decide_true, decide_false, cond_true, cond_false, e0, hil]
      · simp only [z01, Nat.reduceEqDiff, decide_true, decide_false, cond_true, cond_false, e1]
      · simp only [z01, Nat.reduceEqDiff, decide_true, decide_false, cond_true, cond_false]; rfl
      · by_cases hjj : j = i
        · subst hjj; exact h2
        · exact ef j hj (by omega)
  · right
    have h1 : ¬ ((i : Int) < (zs.length : Int)) := by omega
    have e : ∃ vs2, sC Tryz.prog 19 19 ih l43_0 z' vs' h' nx' = .exi 0 z' vs2 h' nx' := ⟨_, by simp (maxSteps := 10000000) (implicitDefEqProofs := false) (disch := omega) only [l43_0, e0, e1, e5, h1, bz, z02, Nat.reduceEqDiff, Nat.reduceLT, Nat.reduceAdd, Nat.reduceMul, Int.reduceToNat]; exact rfl⟩
    obtain ⟨vs2, e⟩ := e
    rw [e]
    refine ⟨trivial, .inr ⟨?_, vs2, rfl⟩⟩
    rw [List.idxOf?_eq_none_iff]
    intro hn
    obtain ⟨j, hj, hjn⟩ := List.getElem_of_mem hn
    exact ef j hj (by omega) hjn
def placeQ (zs : List Int) (n : Int) : Int := match zs.idxOf? n with | some i => (i : Int) | none => -1
theorem c43 (hm : 1 ≤ m) {zs : List Int} (n : Int) {v : Value} (hl : zs.length ≤ 140737488355328) (hv : Lst h nx 1 v (ints zs)) : z07 43 [v, vi n] (z08 Tryz.prog vmL S m) h nx = .gen (vi (placeQ zs n)) h nx [] := by
  refine fun43.ground (hS _ _ _ _ (by decide)) (by omega) rfl (by simp) ?_
  simp (maxSteps := 10000000) (implicitDefEqProofs := false) (disch := omega) only [s43, z1x, bz, z02, Nat.reduceEqDiff, Nat.reduceLT, Nat.reduceAdd, Nat.reduceMul, Int.reduceToNat]
  generalize hr : z0w _ _ _ _ _ = r
  unfold placeQ
  rcases loop43 hl hv rfl rfl rfl hr with ⟨i, vs', hc, rfl, q4⟩ | ⟨hc, vs', rfl⟩
  · rw [hc]
    exact ⟨_, _, by simp (maxSteps := 10000000) (implicitDefEqProofs := false) (disch := omega) only [q4, bz, z02, Nat.reduceEqDiff, Nat.reduceLT, Nat.reduceAdd, Nat.reduceMul, Int.reduceToNat]; rfl⟩
  · rw [hc]
    exact ⟨_, _, by simp (maxSteps := 10000000) (implicitDefEqProofs := false) (disch := omega) only [bz, z02, Nat.reduceEqDiff, Nat.reduceLT, Nat.reduceAdd, Nat.reduceMul, Int.reduceToNat]; rfl⟩
omit hS in
theorem place_neg (ns : List Nat) (i : Nat) : (placeQ (nsI ns) i < 0) ↔ i ∉ ns := by
  unfold placeQ
  cases h : (nsI ns).idxOf? (i : Int) with
  | none =>
    rw [List.idxOf?_eq_none_iff] at h
    simp only
    constructor
    · intro _ hi; exact h (List.mem_map.2 ⟨i, hi, rfl⟩)
    · intro _; omega
  | some j =>
    rw [List.idxOf?_eq_some_iff] at h
    obtain ⟨hj, e, _⟩ := h
    simp only
    constructor
    · intro hh; omega
    · intro hi
      have := List.getElem_mem hj
      rw [e] at this
      obtain ⟨k, hk, ek⟩ := List.mem_map.1 this
      have : k = i := by omega
      subst this
      exact (hi hk).elim
end Go.Proofs.YtcmkngajdckndaaGreatDoor
namespace Go.Proofs.YtcmkngajdckndaaGreatDoor
open Go Go.Proofs Go.Lm
set_option maxRecDepth 10000
set_option maxHeartbeats 8000000
def ofQ (s n : Nat) : List Nat := (List.range n).filter s.testBit
theorem ofQ_len (s n : Nat) : (ofQ s n).length ≤ n := by
  unfold ofQ
  refine Nat.le_trans (List.length_filter_le _ _) ?_
  simp
def pcAt (b : Bk) (n : Nat) : Pc := b.P.getD n ⟨0, 0, 0, false⟩
theorem pcAt_is {b : Bk} {n : Nat} (h : n < b.P.length) : pcAt b n = b.P[n] := by
  unfold pcAt
  rw [List.getD_eq_getElem?_getD, List.getElem?_eq_getElem h]; rfl
def sumN (g : Pc → Int) (b : Bk) (ns : List Nat) : Int := (ns.map fun n => g (pcAt b n)).sum
theorem z7b (g : Pc → Int) (b : Bk) {ns : List Nat} {i : Nat} (hi : i < ns.length) : sumN g b (ns.take (i + 1)) = sumN g b (ns.take i) + g (pcAt b ns[i]) := by
  unfold sumN
  rw [List.take_add_one, List.getElem?_eq_getElem hi, Option.toList_some, List.map_append, List.sum_append]
  simp
theorem z89 {b : Bk} {g : Pc → Int} {B : Int} (hB : 0 ≤ B) (hg : ∀ x, x ∈ b.P → 0 ≤ g x ∧ g x ≤ B) {ns : List Nat} (hn : ∀ n, n ∈ ns → n < b.P.length) : 0 ≤ sumN g b ns ∧ sumN g b ns ≤ B * ns.length := by
  unfold sumN
  have := sum_range (l := ns.map fun n => g (pcAt b n)) hB (fun y hy => by
    obtain ⟨n, hn', rfl⟩ := List.mem_map.1 hy
    rw [pcAt_is (hn n hn')]
    exact hg _ (List.getElem_mem _))
  rwa [List.length_map] at this
theorem Bk.Fine.pc {b : Bk} (hF : b.Fine) {x : Pc} (hx : x ∈ b.P) : (1 ≤ x.size ∧ x.size ≤ 500) ∧ (1 ≤ x.weight ∧ x.weight ≤ 5000) ∧ (0 ≤ x.worth ∧ x.worth ≤ 10000) := by
  have h := List.all_eq_true.1 hF.po x hx
  unfold Pc.ok at h
  simp only [Bool.and_eq_true] at h
  exact ⟨z15 h.1, z15 h.2.1, z15 h.2.2⟩
theorem sumN_size {b : Bk} (hF : b.Fine) {ns : List Nat} (hn : ∀ n, n ∈ ns → n < b.P.length) : 0 ≤ sumN Pc.size b ns ∧ sumN Pc.size b ns ≤ 500 * ns.length := z89 (by omega) (fun x hx => by have := hF.pc hx; omega) hn
theorem z54 {b : Bk} (hF : b.Fine) {ns : List Nat} (hn : ∀ n, n ∈ ns → n < b.P.length) : 0 ≤ sumN Pc.weight b ns ∧ sumN Pc.weight b ns ≤ 5000 * ns.length := z89 (by omega) (fun x hx => by have := hF.pc hx; omega) hn
theorem sumN_worth {b : Bk} (hF : b.Fine) {ns : List Nat} (hn : ∀ n, n ∈ ns → n < b.P.length) : 0 ≤ sumN Pc.worth b ns ∧ sumN Pc.worth b ns ≤ 10000 * ns.length := z89 (by omega) (fun x hx => by have := hF.pc hx; omega) hn
def z8f (b : Bk) (ns : List Nat) : Bool := ns.any fun n => (pcAt b n).alone
theorem lone_succ (b : Bk) {ns : List Nat} {i : Nat} (hi : i < ns.length) : z8f b (ns.take (i + 1)) = (z8f b (ns.take i) || (pcAt b ns[i]).alone) := by
  unfold z8f
  rw [List.take_add_one, List.getElem?_eq_getElem hi, Option.toList_some, List.any_append]
  simp
theorem Bk.At.piece {b : Bk} {h : Hp} {nx : Nat} (hb : b.At h nx) {i : Nat} (hi : i < b.P.length) : ∃ r o cs c, b.pv = .slice (some ⟨r, o, none⟩) b.P.length c ∧ rowL h r = some cs ∧ r < nx ∧ z0c true 4 cs (o + i * 4) = some (.agg b.P[i].row.toArray) ∧ o + i * 4 + 4 ≤ cs.length ∧ (cs.drop (o + i * 4)).take 4 = b.P[i].row := by
  have hk := hb.p
  obtain ⟨a, c, hve, _⟩ := hk.form
  rw [List.length_map] at hve
  rw [hve] at hk
  obtain ⟨_, r, o, row, cs, rfl, hrn, hrow, hrl, hcs, ho, hseg⟩ := hk.load (i := i) (by simpa using hi)
  rw [List.getElem?_map, List.getElem?_eq_getElem hi] at hrow
  cases hrow
  exact ⟨r, o, cs, c, hve, hcs, hrn, z3j (by omega) hseg, ho, hseg⟩
theorem ints_el {h : Hp} {nx : Nat} {a : Option Addr} {c : Nat} {zs : List Int} (hv : Lst h nx 1 (.slice a zs.length c) (ints zs)) {i : Nat} (hi : i < zs.length) : ∃ r o cs, a = some ⟨r, o, none⟩ ∧ r < nx ∧ rowL h r = some cs ∧ z0c false 1 cs (o + i * 1) = some (vi zs[i]) := by
  obtain ⟨_, r, o, row, cs, rfl, hrn, hrow, hrl, hcs, ho, hseg⟩ := hv.load hi
  have hrw : row = [vi zs[i]] := by
    unfold ints at hrow
    rw [List.getElem?_map, List.getElem?_eq_getElem hi] at hrow
    exact (Option.some.inj hrow).symm
  subst hrw
  exact ⟨r, o, cs, rfl, hrn, hcs, z2u (row := []) hseg⟩
theorem nsI_at {ns : List Nat} {i : Nat} (hi : i < ns.length) : (nsI ns)[i]'(by simpa [nsI] using hi) = (ns[i] : Int) := by simp [nsI]
theorem nsI_len (ns : List Nat) : (nsI ns).length = ns.length := by simp [nsI]
theorem loop42 {ih : Rec} {b : Bk} {ns : List Nat} {z : Z} {vs : Vs} {h : Hp} {nx p3 : Nat} {v : Value} (hF : b.Fine) (hb : b.At h nx) (hn : ∀ n, n ∈ ns → n < b.P.length) (hl : ns.length ≤ 1000) (hv : Lst h nx 1 v (ints (nsI ns))) (hr3 : rowL h p3 = some b.cells) (hp3 : p3 < nx) (hz : z.n0 ≤ nx)
    (g2 : vs 2 = some v) (g3 : vs 3 = some (pt p3)) (g7 : vs 7 = some (vi 0)) (g8 : vs 8 = some (vi 0)) (g9 : vs 9 = some (vi 0)) {r : R} (hr : z0w (sC Tryz.prog 58 58 ih l42_0) z vs h nx = r) :
    ((decide (1 < ns.length) && z8f b ns) = true ∧ ∃ vs' h' nx', r = .ret z vs' h' nx' ∧ vs' 6 = some (.bool false)) ∨ ((decide (1 < ns.length) && z8f b ns) = false ∧ ∃ vs' h' nx', r = .exi 0 z vs' h' nx' ∧ nx ≤ nx' ∧ Same nx h h' ∧ vs' 1 = vs 1 ∧ vs' 3 = some (pt p3) ∧ vs' 7 = some (vi (sumN Pc.size b ns)) ∧ vs' 8 = some (vi (sumN Pc.weight b ns))) := by
  subst hr
  refine z0o (Post := fun r => ((decide (1 < ns.length) && z8f b ns) = true ∧ ∃ vs' h' nx', r = .ret z vs' h' nx' ∧ vs' 6 = some (.bool false)) ∨ ((decide (1 < ns.length) && z8f b ns) = false ∧ ∃ vs' h' nx', r = .exi 0 z vs' h' nx' ∧ nx ≤ nx' ∧ Same nx h h' ∧ vs' 1 = vs 1 ∧ vs' 3 = some (pt p3) ∧ vs' 7 = some (vi (sumN Pc.size b ns)) ∧ vs' 8 = some (vi (sumN Pc.weight b ns))))
    (fun i z' vs' h' nx' => i ≤ ns.length ∧ z' = z ∧ nx ≤ nx' ∧ Same nx h h' ∧ vs' 1 = vs 1 ∧ vs' 2 = some v ∧ vs' 3 = some (pt p3) ∧ vs' 7 = some (vi (sumN Pc.size b (ns.take i))) ∧ vs' 8 = some (vi (sumN Pc.weight b (ns.take i))) ∧ vs' 9 = some (vi (i : Int)) ∧ (decide (1 < ns.length) && z8f b (ns.take i)) = false) ns.length (by omega)
    ⟨Nat.zero_le _, rfl, Nat.le_refl _, Same.refl _ _, rfl, g2, g3, g7, g8, g9, by simp [z8f]⟩ ?_
  rintro i z' vs' h' nx' ⟨hi, rfl, hnx, hs, e1, e2, e3, e7, e8, e9, el⟩
  obtain ⟨a, c, rfl, _⟩ := hv.form
  have hil : (ints (nsI ns)).length = ns.length := by simp [ints, nsI]
  rw [hil] at e2 hv
  have hil2 := nsI_len ns
  by_cases hlt : i < ns.length
  · have h1 : ((i : Int) < (ns.length : Int)) := by omega
    have hv' := hv.same hs hnx
    rw [← hil2] at hv'
    obtain ⟨rr, o, cs, rfl, hrn, hcs, hel⟩ := ints_el hv' (i := i) (by omega)
    rw [nsI_at hlt] at hel
    have hk := hn _ (List.getElem_mem hlt)
    have hpx := pcAt_is hk
    obtain ⟨r2, o2, cs2, c2, hpv, hcs2, hrn2, hel2, _, _⟩ := (hb.same hs hnx).piece hk
    have hpc := hF.pc (List.getElem_mem hk)
    have hss := z7b Pc.size b hlt
    have hsw := z7b Pc.weight b hlt
    have hrs := sumN_size hF (ns := ns.take i) (fun n h => hn n (List.mem_of_mem_take h))
    have hrw := z54 hF (ns := ns.take i) (fun n h => hn n (List.mem_of_mem_take h))
    have hle : (ns.take i).length ≤ 1000 := by rw [List.length_take]; omega
    have hlo := lone_succ b hlt
    rw [hpx] at hss hsw hlo
    have hrow3 : rowL h' p3 = some b.cells := by rw [z0n hs hp3]; exact hr3
    have hpp : z0c false 1 b.cells 0 = some b.pv := rfl
    rw [hpv] at hpp
    generalize b.P[ns[i]] = x at *
    have hst := fun H : Hp => z3h (h := hset H nx' (.cells [vi 0, vi 0, vi 0, .bool false] none)) (r := nx') (l := x.row) (z11 _ _) rfl
    simp only [Pc.row, z16, List.length_cons, List.length_nil, Nat.reduceAdd, Nat.zero_add] at hst hel2
    rcases Bool.eq_false_or_eq_true x.alone with ha | ha
    · by_cases h2 : 1 < ns.length
      · right
        have h2' : (1 : Int) < (ns.length : Int) := by omega
        have e : ∃ vs2 h2 n2, sC Tryz.prog 58 58 ih l42_0 z' vs' h' nx' = .ret z' vs2 h2 n2 ∧ vs2 6 = some (.bool false) := by
          rw [ha] at hel2 hst
          refine ⟨_, _, _, by simp (maxSteps := 10000000) (implicitDefEqProofs := false) (disch := omega) only [l42_0, e1, e2, e3, e7, e8, e9, h1, hrow3, hpp, hcs, hel, hcs2, hel2, h2', hst, storeO, z1k, bm, z02, Nat.reduceEqDiff, Nat.reduceLT, Nat.reduceAdd, Nat.reduceMul, Int.reduceToNat]; exact rfl, ?_⟩
          simp only [z01, z00, Nat.reduceEqDiff, decide_true, decide_false, cond_true, cond_false]
        obtain ⟨vs2, h2, n2, e, q6⟩ := e
        rw [e]
        refine ⟨trivial, .inl ⟨?_, vs2, h2, n2, rfl, q6⟩⟩
        rw [decide_eq_true (by assumption), Bool.true_and]
        unfold z8f
        rw [List.any_eq_true]
        exact ⟨ns[i], List.getElem_mem hlt, by rw [hpx]; exact ha⟩
      · left
        have h2' : ¬ (1 : Int) < (ns.length : Int) := by omega
        rw [ha] at hel2 hst
        refine ⟨hlt, z', _, _, _, (by simp (maxSteps := 10000000) (implicitDefEqProofs := false) (disch := omega) only [l42_0, e1, e2, e3, e7, e8, e9, h1, hrow3, hpp, hcs, hel, hcs2, hel2, h2', hst, storeO, z1k, bm, z02, Nat.reduceEqDiff, Nat.reduceLT, Nat.reduceAdd, Nat.reduceMul, Int.reduceToNat]; exact rfl), by omega, rfl, by omega, hs.set hnx _, ?_, ?_, ?_, ?_, ?_, ?_, ?_⟩
        · simp only [z01, z00, Nat.reduceEqDiff, decide_true, decide_false, cond_true, cond_false, e1]
        · simp only [z01, z00, Nat.reduceEqDiff, decide_true, decide_false, cond_true, cond_false, e2, hil]
        · simp only [z01, z00, Nat.reduceEqDiff, decide_true, decide_false, cond_true, cond_false, e3]
        · simp only [z01, z00, Nat.reduceEqDiff, decide_true, decide_false, cond_true, cond_false, hss]
        · simp only [z01, z00, Nat.reduceEqDiff, decide_true, decide_false, cond_true, cond_false, hsw]
        · simp only [z01, z00, Nat.reduceEqDiff, decide_true, decide_false, cond_true, cond_false]; rfl
        · rw [decide_eq_false (by assumption)]; rfl
    · left
      rw [ha] at hel2 hst
      refine ⟨hlt, z', _, _, _, (by simp (maxSteps := 10000000) (implicitDefEqProofs := false) (disch := omega) only [l42_0, e1, e2, e3, e7, e8, e9, h1, hrow3, hpp, hcs, hel, hcs2, hel2, hst, storeO, z1k, bm, z02, Nat.reduceEqDiff, Nat.reduceLT, Nat.reduceAdd, Nat.reduceMul, Int.reduceToNat]; exact rfl), by omega, rfl, by omega, hs.set hnx _, ?_, ?_, ?_, ?_, ?_, ?_, ?_⟩
      · simp only [z01, z00, Nat.reduceEqDiff, decide_true, decide_false, cond_true, cond_false, e1]
      · simp only [z01, z00, Nat.reduceEqDiff, decide_true, decide_false, cond_true, cond_false, e2, hil]
      · simp only [z01, z00, Nat.reduceEqDiff, decide_true, decide_false, cond_true, cond_false, e3]
      · simp only [z01, z00, Nat.reduceEqDiff, decide_true, decide_false, cond_true, cond_false, hss]
      · simp only [z01, z00, Nat.reduceEqDiff, decide_true, decide_false, cond_true, cond_false, hsw]
      · simp only [z01, z00, Nat.reduceEqDiff, decide_true, decide_false, cond_true, cond_false]; rfl
      · rw [hlo, ha, Bool.or_false]; exact el
  · right
    have h1 : ¬ ((i : Int) < (ns.length : Int)) := by omega
    have hie : i = ns.length := by omega
    have e : ∃ vs2, sC Tryz.prog 58 58 ih l42_0 z' vs' h' nx' = .exi 0 z' vs2 h' nx' ∧ vs2 1 = vs' 1 ∧ vs2 3 = vs' 3 ∧ vs2 7 = vs' 7 ∧ vs2 8 = vs' 8 := by
      refine ⟨_, by simp (maxSteps := 10000000) (implicitDefEqProofs := false) (disch := omega) only [l42_0, e1, e2, e3, e7, e8, e9, h1, bz, z02, Nat.reduceEqDiff, Nat.reduceLT, Nat.reduceAdd, Nat.reduceMul, Int.reduceToNat]; exact rfl, ?_, ?_, ?_, ?_⟩ <;> simp only [z01, Nat.reduceEqDiff, decide_true, decide_false, cond_true, cond_false]
    obtain ⟨vs2, e, q1, q3, q7, q8⟩ := e
    rw [e]
    rw [hie, List.take_length] at e7 e8 el
    exact ⟨trivial, .inr ⟨el, vs2, _, _, rfl, hnx, hs, q1.trans e1, q3.trans e3, q7.trans e7, q8.trans e8⟩⟩
theorem seg_at {cs row : List Value} {a n j : Nat} {x : Value} (hseg : (cs.drop a).take n = row) (hx : row[j]? = some x) (hj : j < n) : z0c false 1 cs (a + j) = some x := by
  rw [z3k, ← hx, ← hseg, List.getElem?_take_of_lt hj, List.getElem?_drop]
theorem Bk.At.kind {b : Bk} {h : Hp} {nx : Nat} (hb : b.At h nx) {i : Nat} (hi : i < b.K.length) : ∃ r o cs c, b.kv = .slice (some ⟨r, o, none⟩) b.K.length c ∧ rowL h r = some cs ∧ r < nx ∧ z0c false 1 cs (o + i * 4) = some (vi b.K[i].room) ∧ z0c false 1 cs (o + i * 4 + 1) = some (vi b.K[i].most) ∧ z0c false 1 cs (o + i * 4 + 2) = some b.K[i].zv ∧ z0c false 1 cs (o + i * 4 + 3) = some (vi b.K[i].step) := by
  have hk := hb.k
  obtain ⟨a, c, hve, _⟩ := hk.form
  rw [List.length_map] at hve
  rw [hve] at hk
  obtain ⟨_, r, o, row, cs, rfl, hrn, hrow, hrl, hcs, ho, hseg⟩ := hk.load (i := i) (by simpa using hi)
  rw [List.getElem?_map, List.getElem?_eq_getElem hi] at hrow
  cases hrow
  exact ⟨r, o, cs, c, hve, hcs, hrn, seg_at (j := 0) hseg rfl (by omega), seg_at (j := 1) hseg rfl (by omega), seg_at (j := 2) hseg rfl (by omega), seg_at (j := 3) hseg rfl (by omega)⟩
def z20 (b : Bk) (k : Kd) (ns : List Nat) : Bool := !(decide (1 < ns.length) && z8f b ns) && (decide (sumN Pc.size b ns ≤ k.room) && decide (sumN Pc.weight b ns ≤ k.most))
theorem c42 {S : Kn} (hS : S.Only [22]) {m : Nat} (hm : 1 ≤ m) {b : Bk} {h : Hp} {nx : Nat} (hF : b.Fine) (hb : b.At h nx) {kind : Nat} (hk : kind < b.K.length) {ns : List Nat} (hn : ∀ n, n ∈ ns → n < b.P.length) (hl : ns.length ≤ 1000) {v : Value} (hv : Lst h nx 1 v (ints (nsI ns))) :
    z07 42 [.agg b.cells.toArray, vi kind, v] (z08 Tryz.prog vmL S m) h nx = .gen (.bool (z20 b b.K[kind] ns)) h nx [] := by
  refine fun42.ground (hS _ _ _ _ (by decide)) (by omega) rfl (by simp) ?_
  have hsm : Same nx h (hset h nx (.cells b.cells none)) := (Same.refl nx h).set (Nat.le_refl _) _
  have hb' := hb.same hsm (nx' := nx + 1) (by omega)
  simp (maxSteps := 10000000) (implicitDefEqProofs := false) (disch := omega) only [s42, z1x, bz, z02, Nat.reduceEqDiff, Nat.reduceLT, Nat.reduceAdd, Nat.reduceMul, Int.reduceToNat]
  generalize hr : z0w _ _ _ _ _ = r
  unfold z20
  rcases loop42 (b := b) (ns := ns) (h := hset h nx (.cells b.cells none)) (nx := nx + 1) (p3 := nx) hF hb' hn hl (hv.same hsm (by omega)) (z03 _ _) (by omega) (by show nx ≤ _; omega) rfl rfl rfl rfl rfl hr with ⟨hc, vs', h', nx', rfl, q6⟩ | ⟨hc, vs', h', nx', rfl, hnx, hs, q1, q3, q7, q8⟩
  · rw [hc]
    exact ⟨_, _, by simp (maxSteps := 10000000) (implicitDefEqProofs := false) (disch := omega) only [q6, Bool.not_true, Bool.false_and, bz, z02, Nat.reduceEqDiff, Nat.reduceLT, Nat.reduceAdd, Nat.reduceMul, Int.reduceToNat]; rfl⟩
  · rw [hc]
    have q1' : vs' 1 = some (vi (kind : Int)) := by rw [q1]; rfl
    have hrow : rowL h' nx = some b.cells := by rw [z0n hs (by omega)]; exact z03 _ _
    have hpk : z0c false 1 b.cells 1 = some b.kv := rfl
    obtain ⟨rr, o, cs, c, hkv, hcs, hrn, k0, k1, _, _⟩ := (hb'.same hs hnx).kind hk
    rw [hkv] at hpk
    generalize b.K[kind] = kd at *
    by_cases h1 : sumN Pc.size b ns ≤ kd.room
    · rw [decide_eq_true h1]
      exact ⟨_, _, by simp (maxSteps := 10000000) (implicitDefEqProofs := false) (disch := omega) only [q1', q3, q7, q8, hrow, hpk, hcs, k0, k1, h1, Bool.not_false, Bool.true_and, bz, z02, Nat.reduceEqDiff, Nat.reduceLT, Nat.reduceAdd, Nat.reduceMul, Int.reduceToNat]; rfl⟩
    · rw [decide_eq_false h1]
      exact ⟨_, _, by simp (maxSteps := 10000000) (implicitDefEqProofs := false) (disch := omega) only [q1', q3, q7, q8, hrow, hpk, hcs, k0, k1, h1, Bool.not_false, Bool.true_and, Bool.false_and, Bool.and_false, bz, z02, Nat.reduceEqDiff, Nat.reduceLT, Nat.reduceAdd, Nat.reduceMul, Int.reduceToNat]; rfl⟩
theorem loop44a {ih : Rec} {b : Bk} {ns : List Nat} {z : Z} {vs : Vs} {h : Hp} {nx p4 : Nat} {v : Value} (hF : b.Fine) (hb : b.At h nx) (hn : ∀ n, n ∈ ns → n < b.P.length) (hl : ns.length ≤ 1000) (hv : Lst h nx 1 v (ints (nsI ns))) (hr4 : rowL h p4 = some b.cells)
    (g2 : vs 2 = some v) (g4 : vs 4 = some (pt p4)) (g10 : vs 10 = some (vi 0)) (g11 : vs 11 = some (vi 0)) (g12 : vs 12 = some (vi 0)) {r : R} (hr : z0w (sC Tryz.prog 83 83 ih l44_0) z vs h nx = r) :
    ∃ vs', r = .exi 0 z vs' h nx ∧ vs' 1 = vs 1 ∧ vs' 4 = some (pt p4) ∧ vs' 9 = vs 9 ∧ vs' 10 = some (vi (sumN Pc.weight b ns)) ∧ vs' 11 = some (vi (sumN Pc.worth b ns)) := by
  subst hr
  refine z0o (Post := fun r => ∃ vs', r = .exi 0 z vs' h nx ∧ vs' 1 = vs 1 ∧ vs' 4 = some (pt p4) ∧ vs' 9 = vs 9 ∧ vs' 10 = some (vi (sumN Pc.weight b ns)) ∧ vs' 11 = some (vi (sumN Pc.worth b ns)))
    (fun i z' vs' h' nx' => i ≤ ns.length ∧ z' = z ∧ nx' = nx ∧ h' = h ∧ vs' 1 = vs 1 ∧ vs' 2 = some v ∧ vs' 4 = some (pt p4) ∧ vs' 9 = vs 9 ∧ vs' 10 = some (vi (sumN Pc.weight b (ns.take i))) ∧ vs' 11 = some (vi (sumN Pc.worth b (ns.take i))) ∧ vs' 12 = some (vi (i : Int))) ns.length (by omega)
    ⟨Nat.zero_le _, rfl, rfl, rfl, rfl, g2, g4, rfl, g10, g11, g12⟩ ?_
  rintro i z' vs' h' nx' ⟨hi, rfl, rfl, rfl, e1, e2, e4, e9, e10, e11, e12⟩
  obtain ⟨a, c, rfl, _⟩ := hv.form
  have hil : (ints (nsI ns)).length = ns.length := by simp [ints, nsI]
  rw [hil] at e2 hv
  have hil2 := nsI_len ns
  by_cases hlt : i < ns.length
  · left
    have h1 : ((i : Int) < (ns.length : Int)) := by omega
    have hv' := hv
    rw [← hil2] at hv'
    obtain ⟨rr, o, cs, rfl, hrn, hcs, hel⟩ := ints_el hv' (i := i) (by omega)
    rw [nsI_at hlt] at hel
    have hk := hn _ (List.getElem_mem hlt)
    have hpx := pcAt_is hk
    obtain ⟨r2, o2, cs2, c2, hpv, hcs2, hrn2, _, ho2, hsg⟩ := hb.piece hk
    have x1 : z0c false 1 cs2 (o2 + ns[i] * 4 + 1) = some (vi b.P[ns[i]].weight) := seg_at (j := 1) hsg rfl (by omega)
    have x2 : z0c false 1 cs2 (o2 + ns[i] * 4 + 2) = some (vi b.P[ns[i]].worth) := seg_at (j := 2) hsg rfl (by omega)
    have hpc := hF.pc (List.getElem_mem hk)
    have hss := z7b Pc.worth b hlt
    have hsw := z7b Pc.weight b hlt
    have hrs := sumN_worth hF (ns := ns.take i) (fun n h => hn n (List.mem_of_mem_take h))
    have hrw := z54 hF (ns := ns.take i) (fun n h => hn n (List.mem_of_mem_take h))
    have hle : (ns.take i).length ≤ 1000 := by rw [List.length_take]; omega
    rw [hpx] at hss hsw
    have hpp : z0c false 1 b.cells 0 = some b.pv := rfl
    rw [hpv] at hpp
    generalize b.P[ns[i]] = x at *
    refine ⟨hlt, z', _, _, _, (by simp (maxSteps := 10000000) (implicitDefEqProofs := false) (disch := omega) only [l44_0, e1, e2, e4, e9, e10, e11, e12, h1, hr4, hpp, hcs, hel, hcs2, x1, x2, bz, z02, Nat.reduceEqDiff, Nat.reduceLT, Nat.reduceAdd, Nat.reduceMul, Int.reduceToNat]; exact rfl), by omega, rfl, rfl, rfl, ?_, ?_, ?_, ?_, ?_, ?_, ?_⟩
    · simp only [z01, z00, Nat.reduceEqDiff, decide_true, decide_false, cond_true, cond_false, e1]
    · simp only [z01, z00, Nat.reduceEqDiff, decide_true, decide_false, cond_true, cond_false, e2, hil]
    · simp only [z01, z00, Nat.reduceEqDiff, decide_true, decide_false, cond_true, cond_false, e4]
    · simp only [z01, z00, Nat.reduceEqDiff, decide_true, decide_false, cond_true, cond_false, e9]
    · simp only [z01, z00, Nat.reduceEqDiff, decide_true, decide_false, cond_true, cond_false, hsw]
    · simp only [z01, z00, Nat.reduceEqDiff, decide_true, decide_false, cond_true, cond_false, hss]
    · simp only [z01, z00, Nat.reduceEqDiff, decide_true, decide_false, cond_true, cond_false]; rfl
  · right
    have h1 : ¬ ((i : Int) < (ns.length : Int)) := by omega
    have hie : i = ns.length := by omega
    have e : ∃ vs2, sC Tryz.prog 83 83 ih l44_0 z' vs' h' nx' = .exi 0 z' vs2 h' nx' ∧ vs2 1 = vs' 1 ∧ vs2 4 = vs' 4 ∧ vs2 9 = vs' 9 ∧ vs2 10 = vs' 10 ∧ vs2 11 = vs' 11 := by
      refine ⟨_, by simp (maxSteps := 10000000) (implicitDefEqProofs := false) (disch := omega) only [l44_0, e1, e2, e12, h1, bz, z02, Nat.reduceEqDiff, Nat.reduceLT, Nat.reduceAdd, Nat.reduceMul, Int.reduceToNat]; exact rfl, ?_, ?_, ?_, ?_, ?_⟩ <;> simp only [z01, Nat.reduceEqDiff, decide_true, decide_false, cond_true, cond_false]
    obtain ⟨vs2, e, q1, q4, q9, q10, q11⟩ := e
    rw [e]
    rw [hie, List.take_length] at e10 e11
    exact ⟨trivial, vs2, rfl, q1.trans e1, q4.trans e4, q9.trans e9, q10.trans e10, q11.trans e11⟩
theorem ceil_is {X u t : Int} (hu : 0 < u) (h1 : u * (t - 1) < X) (h2 : X ≤ u * t) : (X + u - 1) / u = t := by
  have e : u * (t - 1) = u * t - u := by rw [Int.mul_sub, Int.mul_one]
  have : X + u - 1 = (X + u - 1 - u * t) + u * t := by omega
  rw [this, Int.add_mul_ediv_left _ _ (by omega), Int.ediv_eq_zero_of_lt (by omega) (by omega)]
  omega
theorem loop44b {ih : Rec} {b : Bk} {z : Z} {vs : Vs} {h : Hp} {nx p4 : Nat} {c0 W : Int} (hF : b.Fine) (hb : b.At h nx) {kind : Nat} (hk : kind < b.K.length) (hr4 : rowL h p4 = some b.cells) (hW : 1 ≤ W) (hW2 : W ≤ 5000000) (hc0 : 0 ≤ c0) (hc1 : c0 ≤ 1000)
    (g1 : vs 1 = some (vi kind)) (g4 : vs 4 = some (pt p4)) (g9 : vs 9 = some (vi c0)) (g10 : vs 10 = some (vi W)) (g13 : vs 13 = some (vi b.grams)) {r : R} (hr : z0w (sC Tryz.prog 83 83 ih l44_1) z vs h nx = r) :
    ∃ vs', r = .exi 2 z vs' h nx ∧ vs' 1 = some (vi kind) ∧ vs' 4 = some (pt p4) ∧ vs' 9 = some (vi (c0 + b.K[kind].step * ((W + b.grams - 1) / b.grams - 1))) ∧ vs' 11 = vs 11 := by
  subst hr
  refine z0o (Post := fun r => ∃ vs', r = .exi 2 z vs' h nx ∧ vs' 1 = some (vi kind) ∧ vs' 4 = some (pt p4) ∧ vs' 9 = some (vi (c0 + b.K[kind].step * ((W + b.grams - 1) / b.grams - 1))) ∧ vs' 11 = vs 11)
    (fun i z' vs' h' nx' => z' = z ∧ nx' = nx ∧ h' = h ∧ vs' 1 = some (vi kind) ∧ vs' 4 = some (pt p4) ∧ vs' 10 = some (vi W) ∧ vs' 11 = vs 11 ∧ ∃ q s : Int, q = b.grams * (i : Int) ∧ s = b.K[kind].step * (i : Int) ∧ vs' 13 = some (vi (q + b.grams)) ∧ vs' 9 = some (vi (c0 + s)) ∧ q < W ∧ (i : Int) ≤ q) 5000000 (by omega)
    ⟨rfl, rfl, rfl, g1, g4, g10, rfl, 0, 0, by simp, by simp, by simpa using g13, by simpa using g9, by omega, by simp⟩ ?_
  rintro i z' vs' h' nx' ⟨rfl, rfl, rfl, e1, e4, e10, e11, q, s, hq, hs, e13, e9, hqW, hiq⟩
  have hG := hF.g1
  have hG2 := hF.g2
  have hkf := hF.kind hk
  obtain ⟨rr, o, cs, c, hkv, hcs, hrn, _, _, _, k3⟩ := hb.kind hk
  have hpk : z0c false 1 b.cells 1 = some b.kv := rfl
  have hpg : z0c false 1 b.cells 2 = some (vi b.grams) := rfl
  rw [hkv] at hpk
  have hq2 : b.grams * ((i + 1 : Nat) : Int) = q + b.grams := by rw [Int.natCast_succ, Int.mul_add, Int.mul_one, ← hq]
  have hs2 : b.K[kind].step * ((i + 1 : Nat) : Int) = s + b.K[kind].step := by rw [Int.natCast_succ, Int.mul_add, Int.mul_one, ← hs]
  have hsr : 0 ≤ s ∧ s ≤ 1000 * (i : Int) := by
    rw [hs]
    exact ⟨Int.mul_nonneg hkf.s1 (by omega), Int.mul_le_mul_of_nonneg_right hkf.s2 (by omega)⟩
  have hst1 := hkf.s1
  have hst2 := hkf.s2
  by_cases h1 : q + b.grams < W
  · left
    refine ⟨by omega, z', _, _, _, (by simp (maxSteps := 10000000) (implicitDefEqProofs := false) (disch := omega) only [l44_1, e1, e4, e9, e10, e13, h1, hr4, hpk, hpg, hcs, k3, bz, z02, Nat.reduceEqDiff, Nat.reduceLT, Nat.reduceAdd, Nat.reduceMul, Int.reduceToNat]; exact rfl), rfl, rfl, rfl, ?_, ?_, ?_, ?_, q + b.grams, s + b.K[kind].step, hq2.symm, hs2.symm, ?_, ?_, by omega, by omega⟩
    · simp only [z01, z00, Nat.reduceEqDiff, decide_true, decide_false, cond_true, cond_false, e1]
    · simp only [z01, z00, Nat.reduceEqDiff, decide_true, decide_false, cond_true, cond_false, e4]
    · simp only [z01, z00, Nat.reduceEqDiff, decide_true, decide_false, cond_true, cond_false, e10]
    · simp only [z01, z00, Nat.reduceEqDiff, decide_true, decide_false, cond_true, cond_false, e11]
    · simp only [z01, z00, Nat.reduceEqDiff, decide_true, decide_false, cond_true, cond_false]
    · simp only [z01, z00, Nat.reduceEqDiff, decide_true, decide_false, cond_true, cond_false, Int.add_assoc]
  · right
    have e : ∃ vs2, sC Tryz.prog 83 83 ih l44_1 z' vs' h' nx' = .exi 2 z' vs2 h' nx' ∧ vs2 1 = vs' 1 ∧ vs2 4 = vs' 4 ∧ vs2 9 = vs' 9 ∧ vs2 11 = vs' 11 := by
      refine ⟨_, by simp (maxSteps := 10000000) (implicitDefEqProofs := false) (disch := omega) only [l44_1, e1, e4, e10, e13, h1, bz, z02, Nat.reduceEqDiff, Nat.reduceLT, Nat.reduceAdd, Nat.reduceMul, Int.reduceToNat]; exact rfl, ?_, ?_, ?_, ?_⟩ <;> simp only [z01, Nat.reduceEqDiff, decide_true, decide_false, cond_true, cond_false]
    obtain ⟨vs2, e, q1, q4, q9, q11⟩ := e
    rw [e]
    have hc : (W + b.grams - 1) / b.grams = (i : Int) + 1 := by
      refine ceil_is (by omega) ?_ ?_
      · have : b.grams * ((i : Int) + 1 - 1) = q := by rw [Int.add_sub_cancel, ← hq]
        omega
      · have : b.grams * ((i : Int) + 1) = q + b.grams := by rw [Int.mul_add, Int.mul_one, ← hq]
        omega
    rw [hc, Int.add_sub_cancel, ← hs]
    exact ⟨trivial, vs2, rfl, q1.trans e1, q4.trans e4, q9.trans e9, q11.trans e11⟩
theorem loop44c {ih : Rec} {b : Bk} {z : Z} {vs : Vs} {h : Hp} {nx p4 : Nat} {c0 W : Int} (hF : b.Fine) (hr4 : rowL h p4 = some b.cells) (hW : 0 ≤ W) (hW2 : W ≤ 10000000) (hc0 : -1000 ≤ c0) (hc1 : c0 ≤ 10000000000)
    (g4 : vs 4 = some (pt p4)) (g9 : vs 9 = some (vi c0)) (g11 : vs 11 = some (vi W)) (g14 : vs 14 = some (vi b.free)) {r : R} (hr : z0w (sC Tryz.prog 83 83 ih l44_2) z vs h nx = r) :
    ∃ vs', r = .exi 4 z vs' h nx ∧ vs' 9 = some (vi (c0 + b.fee * ((max 0 (W - b.free) + b.unit - 1) / b.unit))) := by
  subst hr
  refine z0o (Post := fun r => ∃ vs', r = .exi 4 z vs' h nx ∧ vs' 9 = some (vi (c0 + b.fee * ((max 0 (W - b.free) + b.unit - 1) / b.unit))))
    (fun i z' vs' h' nx' => z' = z ∧ nx' = nx ∧ h' = h ∧ vs' 4 = some (pt p4) ∧ vs' 11 = some (vi W) ∧ ∃ q s : Int, q = b.unit * (i : Int) ∧ s = b.fee * (i : Int) ∧ vs' 14 = some (vi (b.free + q)) ∧ vs' 9 = some (vi (c0 + s)) ∧ (q = 0 ∧ i = 0 ∨ b.free + q - b.unit < W) ∧ (i : Int) ≤ q) 20000000 (by omega)
    ⟨rfl, rfl, rfl, g4, g11, 0, 0, by simp, by simp, by simpa using g14, by simpa using g9, .inl ⟨rfl, rfl⟩, by simp⟩ ?_
  rintro i z' vs' h' nx' ⟨rfl, rfl, rfl, e4, e11, q, s, hq, hs, e14, e9, hqW, hiq⟩
  have hG := hF.u1
  have hG2 := hF.u2
  have hf1 := hF.f1
  have hf2 := hF.f2
  have hpu : z0c false 1 b.cells 4 = some (vi b.unit) := rfl
  have hpf : z0c false 1 b.cells 5 = some (vi b.fee) := rfl
  have hq2 : b.unit * ((i + 1 : Nat) : Int) = q + b.unit := by rw [Int.natCast_succ, Int.mul_add, Int.mul_one, ← hq]
  have hs2 : b.fee * ((i + 1 : Nat) : Int) = s + b.fee := by rw [Int.natCast_succ, Int.mul_add, Int.mul_one, ← hs]
  have hsr : 0 ≤ s ∧ s ≤ 1000 * (i : Int) := by
    rw [hs]
    exact ⟨Int.mul_nonneg hF.e1 (by omega), Int.mul_le_mul_of_nonneg_right hF.e2 (by omega)⟩
  have hst1 := hF.e1
  have hst2 := hF.e2
  by_cases h1 : b.free + q < W
  · left
    refine ⟨by omega, z', _, _, _, (by simp (maxSteps := 10000000) (implicitDefEqProofs := false) (disch := omega) only [l44_2, e4, e9, e11, e14, h1, hr4, hpu, hpf, bz, z02, Nat.reduceEqDiff, Nat.reduceLT, Nat.reduceAdd, Nat.reduceMul, Int.reduceToNat]; exact rfl), rfl, rfl, rfl, ?_, ?_, q + b.unit, s + b.fee, hq2.symm, hs2.symm, ?_, ?_, .inr (by omega), by omega⟩
    · simp only [z01, z00, Nat.reduceEqDiff, decide_true, decide_false, cond_true, cond_false, e4]
    · simp only [z01, z00, Nat.reduceEqDiff, decide_true, decide_false, cond_true, cond_false, e11]
    · simp only [z01, z00, Nat.reduceEqDiff, decide_true, decide_false, cond_true, cond_false, Int.add_assoc]
    · simp only [z01, z00, Nat.reduceEqDiff, decide_true, decide_false, cond_true, cond_false, Int.add_assoc]
  · right
    have e : ∃ vs2, sC Tryz.prog 83 83 ih l44_2 z' vs' h' nx' = .exi 4 z' vs2 h' nx' ∧ vs2 9 = vs' 9 := by
      refine ⟨_, by simp (maxSteps := 10000000) (implicitDefEqProofs := false) (disch := omega) only [l44_2, e4, e11, e14, h1, bz, z02, Nat.reduceEqDiff, Nat.reduceLT, Nat.reduceAdd, Nat.reduceMul, Int.reduceToNat]; exact rfl, ?_⟩
      simp only [z01, Nat.reduceEqDiff, decide_true, decide_false, cond_true, cond_false]
    obtain ⟨vs2, e, q9⟩ := e
    rw [e]
    have hc : (max 0 (W - b.free) + b.unit - 1) / b.unit = (i : Int) := by
      have e1 : b.unit * ((i : Int) - 1) = q - b.unit := by rw [Int.mul_sub, Int.mul_one, ← hq]
      refine ceil_is (by omega) ?_ ?_
      · omega
      · omega
    rw [hc, ← hs]
    exact ⟨trivial, vs2, rfl, q9.trans e9⟩
def z6o (b : Bk) (k : Kd) (ns : List Nat) (zone : Nat) : Int := k.zs.getD zone 0 + k.step * ((sumN Pc.weight b ns + b.grams - 1) / b.grams - 1) + b.fee * ((max 0 (sumN Pc.worth b ns - b.free) + b.unit - 1) / b.unit)
theorem c44 {S : Kn} (hS : S.Only [22]) {m : Nat} (hm : 1 ≤ m) {b : Bk} {h : Hp} {nx : Nat} (hF : b.Fine) (hb : b.At h nx) {kind : Nat} (hk : kind < b.K.length) {ns : List Nat} (hn : ∀ n, n ∈ ns → n < b.P.length) (hl : ns.length ≤ 1000) (hne : ns ≠ []) {v : Value} (hv : Lst h nx 1 v (ints (nsI ns))) {zone : Nat} (hz : zone < 5) :
    z07 44 [.agg b.cells.toArray, vi kind, v, vi zone] (z08 Tryz.prog vmL S m) h nx = .gen (vi (z6o b b.K[kind] ns zone)) h nx [] := by
  refine fun44.ground (hS _ _ _ _ (by decide)) (by omega) rfl (by simp) ?_
  have hsm : Same nx h (hset h nx (.cells b.cells none)) := (Same.refl nx h).set (Nat.le_refl _) _
  have hb' := hb.same hsm (nx' := nx + 1) (by omega)
  have hrow : rowL (hset h nx (.cells b.cells none)) nx = some b.cells := z03 _ _
  obtain ⟨rr, o, cs, c, hkv, hcs, hrn, k0, k1, k2, k3⟩ := hb'.kind hk
  have hpk : z0c false 1 b.cells 1 = some b.kv := rfl
  have hpg : z0c false 1 b.cells 2 = some (vi b.grams) := rfl
  have hpf : z0c false 1 b.cells 3 = some (vi b.free) := rfl
  rw [hkv] at hpk
  have hkf := hF.kind hk
  have hzk := hb'.z _ (List.getElem_mem hk)
  obtain ⟨za, zc, hzv, _⟩ := hzk.form
  have hzl : (ints b.K[kind].zs).length = b.K[kind].zs.length := by simp [ints]
  rw [hzl] at hzv
  rw [hzv] at hzk
  have hz5 : zone < b.K[kind].zs.length := by have := hkf.z; omega
  obtain ⟨r3, o3, cs3, rfl, hrn3, hcs3, hel3⟩ := ints_el hzk hz5
  rw [hzv] at k2
  have hz7 : b.K[kind].zs.length = 5 := hkf.z
  rw [hz7] at k2
  have hzr := hkf.zo _ (List.getElem_mem hz5)
  have hwt := z54 hF hn
  have hwo := sumN_worth hF hn
  have hw1 : 1 ≤ sumN Pc.weight b ns := by
    cases ns with
    | nil => exact (hne rfl).elim
    | cons n ns =>
      have h1 := z54 hF (ns := ns) (fun k hk => hn k (List.mem_cons_of_mem _ hk))
      have h2 := hn n List.mem_cons_self
      have h3 := hF.pc (List.getElem_mem h2)
      have : sumN Pc.weight b (n :: ns) = (pcAt b n).weight + sumN Pc.weight b ns := by unfold sumN; rw [List.map_cons, List.sum_cons]
      rw [this, pcAt_is h2]
      omega
  simp (maxSteps := 10000000) (implicitDefEqProofs := false) (disch := omega) only [s44, z1x, hrow, hpk, hcs, k2, hcs3, hel3, bz, z02, Nat.reduceEqDiff, Nat.reduceLT, Nat.reduceAdd, Nat.reduceMul, Int.reduceToNat]
  generalize hr : z0w _ _ _ _ _ = r
  obtain ⟨vs1, rfl, q1, q4, q9, q10, q11⟩ := loop44a (b := b) (ns := ns) (h := hset h nx (.cells b.cells none)) (nx := nx + 1) (p4 := nx) hF hb' hn hl (hv.same hsm (by omega)) hrow rfl rfl rfl rfl rfl hr
  simp (maxSteps := 10000000) (implicitDefEqProofs := false) (disch := omega) only [z1x, q4, hrow, hpg, bz, z02, Nat.reduceEqDiff, Nat.reduceLT, Nat.reduceAdd, Nat.reduceMul, Int.reduceToNat]
  generalize hr2 : z0w _ _ _ _ _ = r2
  obtain ⟨vs2, rfl, t1, t4, t9, t11⟩ := loop44b (b := b) (h := hset h nx (.cells b.cells none)) (nx := nx + 1) (p4 := nx) (kind := kind) (c0 := b.K[kind].zs[zone]) (W := sumN Pc.weight b ns) hF hb' hk hrow hw1 (by omega) (by omega) (by omega)
    (by simp only [z01, z00, Nat.reduceEqDiff, decide_true, decide_false, cond_true, cond_false, q1]) (by simp only [z01, z00, Nat.reduceEqDiff, decide_true, decide_false, cond_true, cond_false, q4]) (by simp only [z01, z00, Nat.reduceEqDiff, decide_true, decide_false, cond_true, cond_false, q9]) (by simp only [z01, z00, Nat.reduceEqDiff, decide_true, decide_false, cond_true, cond_false, q10]) (by simp only [z01, z00, Nat.reduceEqDiff, decide_true, decide_false, cond_true, cond_false]) hr2
  have t11' : vs2 11 = some (vi (sumN Pc.worth b ns)) := by rw [t11]; simp only [z01, z00, Nat.reduceEqDiff, decide_true, decide_false, cond_true, cond_false, q11]
  simp (maxSteps := 10000000) (implicitDefEqProofs := false) (disch := omega) only [z1x, t4, hrow, hpf, bz, z02, Nat.reduceEqDiff, Nat.reduceLT, Nat.reduceAdd, Nat.reduceMul, Int.reduceToNat]
  generalize hr3 : z0w _ _ _ _ _ = r3
  have hstp : -1000 ≤ b.K[kind].step * ((sumN Pc.weight b ns + b.grams - 1) / b.grams - 1) ∧ b.K[kind].step * ((sumN Pc.weight b ns + b.grams - 1) / b.grams - 1) ≤ 5000000000 := by
    have h2 := div_range hwt.1 hF.g1
    have h3 := hkf.s1
    have h4 := hkf.s2
    generalize (sumN Pc.weight b ns + b.grams - 1) / b.grams = q at h2 ⊢
    have e1 : b.K[kind].step * (-1) ≤ b.K[kind].step * (q - 1) := Int.mul_le_mul_of_nonneg_left (by omega) h3
    have e2 : b.K[kind].step * (q - 1) ≤ b.K[kind].step * 5000000 := Int.mul_le_mul_of_nonneg_left (by omega) h3
    omega
  obtain ⟨vs3, rfl, y9⟩ := loop44c (b := b) (h := hset h nx (.cells b.cells none)) (nx := nx + 1) (p4 := nx) (c0 := b.K[kind].zs[zone] + b.K[kind].step * ((sumN Pc.weight b ns + b.grams - 1) / b.grams - 1)) (W := sumN Pc.worth b ns) hF hrow (by omega) (by omega) (by omega) (by omega)
    (by simp only [z01, z00, Nat.reduceEqDiff, decide_true, decide_false, cond_true, cond_false, t4]) (by simp only [z01, z00, Nat.reduceEqDiff, decide_true, decide_false, cond_true, cond_false, t9]) (by simp only [z01, z00, Nat.reduceEqDiff, decide_true, decide_false, cond_true, cond_false, t11']) (by simp only [z01, z00, Nat.reduceEqDiff, decide_true, decide_false, cond_true, cond_false]) hr3
  have hcq : z6o b b.K[kind] ns zone = b.K[kind].zs[zone] + b.K[kind].step * ((sumN Pc.weight b ns + b.grams - 1) / b.grams - 1) + b.fee * ((max 0 (sumN Pc.worth b ns - b.free) + b.unit - 1) / b.unit) := by
    unfold z6o
    simp only [List.getD_eq_getElem?_getD, List.getElem?_eq_getElem hz5, Option.getD_some]
  rw [hcq]
  exact ⟨_, _, by simp (maxSteps := 10000000) (implicitDefEqProofs := false) (disch := omega) only [y9, bz, z02, Nat.reduceEqDiff, Nat.reduceLT, Nat.reduceAdd, Nat.reduceMul, Int.reduceToNat]; rfl⟩
theorem loop_once {b : Z → Vs → Hp → Nat → R} {z : Z} {vs : Vs} {h : Hp} {nx : Nat} {r : R} (e : b z vs h nx = r) (hf : isFin r) : z0w b z vs h nx = r := by
  refine z0o (Post := fun q => q = r) (fun _ z' vs' h' nx' => z' = z ∧ vs' = vs ∧ h' = h ∧ nx' = nx) 0 (by omega) ⟨rfl, rfl, rfl, rfl⟩ ?_
  rintro i z' vs' h' nx' ⟨rfl, rfl, rfl, rfl⟩
  right
  rw [e]
  exact ⟨hf, rfl⟩
section
variable {ih : Rec} {z : Z} {vs : Vs} {h : Hp} {nx : Nat}
theorem exit35_0 (g3 : vs 3 = some (.bool false)) : ∃ vs', z0w (sC Tryz.prog 154 154 ih l35_0) z vs h nx = .exi 0 z vs' h nx ∧ vs' 1 = vs 1 ∧ vs' 3 = some (.bool false) := by
  have e : ∃ vs', sC Tryz.prog 154 154 ih l35_0 z vs h nx = .exi 0 z vs' h nx ∧ vs' 1 = vs 1 ∧ vs' 3 = some (.bool false) := by
    refine ⟨_, by simp (maxSteps := 10000000) (implicitDefEqProofs := false) (disch := omega) only [l35_0, g3, bz, z02, Nat.reduceEqDiff, Nat.reduceLT, Nat.reduceAdd, Nat.reduceMul, Int.reduceToNat]; exact rfl, ?_, ?_⟩ <;> simp only [z01, Nat.reduceEqDiff, decide_true, decide_false, cond_true, cond_false, g3]
  obtain ⟨vs', e, q⟩ := e
  exact ⟨vs', loop_once e trivial, q⟩
theorem exit35_2 (g3 : vs 3 = some (.bool false)) : ∃ vs', z0w (sC Tryz.prog 154 154 ih l35_2) z vs h nx = .exi 2 z vs' h nx ∧ vs' 1 = vs 1 ∧ vs' 3 = some (.bool false) := by
  have e : ∃ vs', sC Tryz.prog 154 154 ih l35_2 z vs h nx = .exi 2 z vs' h nx ∧ vs' 1 = vs 1 ∧ vs' 3 = some (.bool false) := by
    refine ⟨_, by simp (maxSteps := 10000000) (implicitDefEqProofs := false) (disch := omega) only [l35_2, g3, bz, z02, Nat.reduceEqDiff, Nat.reduceLT, Nat.reduceAdd, Nat.reduceMul, Int.reduceToNat]; exact rfl, ?_, ?_⟩ <;> simp only [z01, Nat.reduceEqDiff, decide_true, decide_false, cond_true, cond_false, g3]
  obtain ⟨vs', e, q⟩ := e
  exact ⟨vs', loop_once e trivial, q⟩
theorem exit35_3 (g3 : vs 3 = some (.bool false)) : ∃ vs', z0w (sC Tryz.prog 154 154 ih l35_3) z vs h nx = .exi 6 z vs' h nx ∧ vs' 1 = vs 1 ∧ vs' 3 = some (.bool false) := by
  have e : ∃ vs', sC Tryz.prog 154 154 ih l35_3 z vs h nx = .exi 6 z vs' h nx ∧ vs' 1 = vs 1 ∧ vs' 3 = some (.bool false) := by
    refine ⟨_, by simp (maxSteps := 10000000) (implicitDefEqProofs := false) (disch := omega) only [l35_3, g3, bz, z02, Nat.reduceEqDiff, Nat.reduceLT, Nat.reduceAdd, Nat.reduceMul, Int.reduceToNat]; exact rfl, ?_, ?_⟩ <;> simp only [z01, Nat.reduceEqDiff, decide_true, decide_false, cond_true, cond_false, g3]
  obtain ⟨vs', e, q⟩ := e
  exact ⟨vs', loop_once e trivial, q⟩
end
theorem z1i {lo hi x : Int} (h1 : lo ≤ x) (h2 : x ≤ hi) : inB lo hi x = true := by unfold inB; rw [decide_eq_true h1, decide_eq_true h2]; rfl
theorem loop35_0 {S : Kn} (hS : S.Only [22]) {m : Nat} (hm : 1 ≤ m) {b : Bk} {z : Z} {vs : Vs} {h : Hp} {nx p1 : Nat} (hF : b.Fine) (hb : b.At h nx) (hr1 : rowL h p1 = some b.cells) (hp1 : p1 < nx) (hz : z.n0 ≤ nx)
    (g1 : vs 1 = some (pt p1)) (g3 : vs 3 = some (.bool true)) (g4 : vs 4 = some (vi 0)) {r : R} (hr : z0w (sC Tryz.prog 154 154 (z08 Tryz.prog vmL S m) l35_0) z vs h nx = r) :
    ∃ vs' h' nx', r = .exi 0 z vs' h' nx' ∧ nx ≤ nx' ∧ Same nx h h' ∧ vs' 1 = some (pt p1) ∧ vs' 3 = some (.bool true) := by
  subst hr
  refine z0o (Post := fun r => ∃ vs' h' nx', r = .exi 0 z vs' h' nx' ∧ nx ≤ nx' ∧ Same nx h h' ∧ vs' 1 = some (pt p1) ∧ vs' 3 = some (.bool true))
    (fun i z' vs' h' nx' => i ≤ b.P.length ∧ z' = z ∧ nx ≤ nx' ∧ Same nx h h' ∧ vs' 1 = some (pt p1) ∧ vs' 3 = some (.bool true) ∧ vs' 4 = some (vi (i : Int))) b.P.length (by have := hF.p7; omega)
    ⟨Nat.zero_le _, rfl, Nat.le_refl _, Same.refl _ _, g1, g3, g4⟩ ?_
  rintro i z' vs' h' nx' ⟨hi, rfl, hn, hs, e1, e3, e4⟩
  have h7 := hF.p7
  have hrow : rowL h' p1 = some b.cells := by rw [z0n hs hp1]; exact hr1
  obtain ⟨pa, pc, hpv, _⟩ := hb.p.form
  rw [List.length_map] at hpv
  have hpp : z0c false 1 b.cells 0 = some b.pv := rfl
  rw [hpv] at hpp
  by_cases hlt : i < b.P.length
  · left
    have h1 : ((i : Int) < (b.P.length : Int)) := by omega
    obtain ⟨r2, o2, cs2, c2, hpv2, hcs2, hrn2, hel2, _, _⟩ := (hb.same hs hn).piece hlt
    rw [hpv2] at hpv
    cases hpv
    have hpc := hF.pc (List.getElem_mem hlt)
    have k40 := fun (h : Hp) (nx : Nat) (x lo hi : Int) => c40 hS (m := m) (h := h) (nx := nx) hm x lo hi
    generalize b.P[i] = x at *
    have b1 := z1i hpc.1.1 hpc.1.2
    have b2 := z1i hpc.2.1.1 hpc.2.1.2
    have b3 := z1i hpc.2.2.1 hpc.2.2.2
    have hst := fun H : Hp => z3h (h := hset H nx' (.cells [vi 0, vi 0, vi 0, .bool false] none)) (r := nx') (l := x.row) (z11 _ _) rfl
    simp only [Pc.row, z16, List.length_cons, List.length_nil, Nat.reduceAdd, Nat.zero_add] at hst hel2
    refine ⟨hlt, z', _, _, _, (by simp (maxSteps := 10000000) (implicitDefEqProofs := false) (disch := omega) only [l35_0, e1, e3, e4, h1, hrow, hpp, hcs2, hel2, k40, b1, b2, b3, hst, storeO, z1k, bm, z02, Nat.reduceEqDiff, Nat.reduceLT, Nat.reduceAdd, Nat.reduceMul, Int.reduceToNat]; exact rfl), by omega, rfl, by omega, hs.set hn _, ?_, ?_, ?_⟩
    · simp only [z01, z00, Nat.reduceEqDiff, decide_true, decide_false, cond_true, cond_false, e1]
    · simp only [z01, z00, Nat.reduceEqDiff, decide_true, decide_false, cond_true, cond_false]
    · simp only [z01, z00, Nat.reduceEqDiff, decide_true, decide_false, cond_true, cond_false]; rfl
  · right
    have h1 : ¬ ((i : Int) < (b.P.length : Int)) := by omega
    have e : ∃ vs2, sC Tryz.prog 154 154 (z08 Tryz.prog vmL S m) l35_0 z' vs' h' nx' = .exi 0 z' vs2 h' nx' ∧ vs2 1 = vs' 1 ∧ vs2 3 = vs' 3 := by
      refine ⟨_, by simp (maxSteps := 10000000) (implicitDefEqProofs := false) (disch := omega) only [l35_0, e1, e3, e4, h1, hrow, hpp, bz, z02, Nat.reduceEqDiff, Nat.reduceLT, Nat.reduceAdd, Nat.reduceMul, Int.reduceToNat]; exact rfl, ?_, ?_⟩ <;> simp only [z01, Nat.reduceEqDiff, decide_true, decide_false, cond_true, cond_false]
    obtain ⟨vs2, e, q1, q3⟩ := e
    rw [e]
    exact ⟨trivial, vs2, _, _, rfl, hn, hs, q1.trans e1, q3.trans e3⟩
theorem loop35_1 {S : Kn} (hS : S.Only [22]) {m : Nat} (hm : 1 ≤ m) {k : Kd} {z : Z} {vs : Vs} {h : Hp} {nx p7 : Nat} (hk : k.Fine) (hz : Lst h nx 1 k.zv (ints k.zs)) (hr7 : rowL h p7 = some k.row)
    (g3 : vs 3 = some (.bool true)) (g7 : vs 7 = some (pt p7)) (g8 : vs 8 = some (vi 0)) {r : R} (hr : z0w (sC Tryz.prog 154 154 (z08 Tryz.prog vmL S m) l35_1) z vs h nx = r) :
    ∃ vs', r = .exi 4 z vs' h nx ∧ vs' 1 = vs 1 ∧ vs' 3 = some (.bool true) ∧ vs' 6 = vs 6 := by
  subst hr
  refine z0o (Post := fun r => ∃ vs', r = .exi 4 z vs' h nx ∧ vs' 1 = vs 1 ∧ vs' 3 = some (.bool true) ∧ vs' 6 = vs 6)
    (fun i z' vs' h' nx' => i ≤ k.zs.length ∧ z' = z ∧ nx' = nx ∧ h' = h ∧ vs' 1 = vs 1 ∧ vs' 3 = some (.bool true) ∧ vs' 6 = vs 6 ∧ vs' 7 = some (pt p7) ∧ vs' 8 = some (vi (i : Int))) k.zs.length (by have := hk.z; omega)
    ⟨Nat.zero_le _, rfl, rfl, rfl, rfl, g3, rfl, g7, g8⟩ ?_
  rintro i z' vs' h' nx' ⟨hi, rfl, rfl, rfl, e1, e3, e6, e7, e8⟩
  have h5 := hk.z
  obtain ⟨a, c, hzv, _⟩ := hz.form
  have hil : (ints k.zs).length = k.zs.length := by simp [ints]
  rw [hil] at hzv
  have hpz : z0c false 1 k.row 2 = some k.zv := rfl
  rw [hzv] at hpz hz
  by_cases hlt : i < k.zs.length
  · left
    have h1 : ((i : Int) < (k.zs.length : Int)) := by omega
    obtain ⟨rr, o, cs, rfl, hrn, hcs, hel⟩ := ints_el hz hlt
    have hzr := hk.zo _ (List.getElem_mem hlt)
    have b1 := z1i hzr.1 hzr.2
    have k40 := fun (h : Hp) (nx : Nat) (x lo hi : Int) => c40 hS (m := m) (h := h) (nx := nx) hm x lo hi
    refine ⟨hlt, z', _, _, _, (by simp (maxSteps := 10000000) (implicitDefEqProofs := false) (disch := omega) only [l35_1, e1, e3, e6, e7, e8, h1, hr7, hpz, hcs, hel, k40, b1, bz, z02, Nat.reduceEqDiff, Nat.reduceLT, Nat.reduceAdd, Nat.reduceMul, Int.reduceToNat]; exact rfl), by omega, rfl, rfl, rfl, ?_, ?_, ?_, ?_, ?_⟩
    · simp only [z01, z00, Nat.reduceEqDiff, decide_true, decide_false, cond_true, cond_false, e1]
    · simp only [z01, z00, Nat.reduceEqDiff, decide_true, decide_false, cond_true, cond_false]
    · simp only [z01, z00, Nat.reduceEqDiff, decide_true, decide_false, cond_true, cond_false, e6]
    · simp only [z01, z00, Nat.reduceEqDiff, decide_true, decide_false, cond_true, cond_false, e7]
    · simp only [z01, z00, Nat.reduceEqDiff, decide_true, decide_false, cond_true, cond_false]; rfl
  · right
    have h1 : ¬ ((i : Int) < (k.zs.length : Int)) := by omega
    have e : ∃ vs2, sC Tryz.prog 154 154 (z08 Tryz.prog vmL S m) l35_1 z' vs' h' nx' = .exi 4 z' vs2 h' nx' ∧ vs2 1 = vs' 1 ∧ vs2 3 = vs' 3 ∧ vs2 6 = vs' 6 := by
      refine ⟨_, by simp (maxSteps := 10000000) (implicitDefEqProofs := false) (disch := omega) only [l35_1, e1, e3, e6, e7, e8, h1, hr7, hpz, bz, z02, Nat.reduceEqDiff, Nat.reduceLT, Nat.reduceAdd, Nat.reduceMul, Int.reduceToNat]; exact rfl, ?_, ?_, ?_⟩ <;> simp only [z01, Nat.reduceEqDiff, decide_true, decide_false, cond_true, cond_false]
    obtain ⟨vs2, e, q1, q3, q6⟩ := e
    rw [e]
    exact ⟨trivial, vs2, rfl, q1.trans e1, q3.trans e3, q6.trans e6⟩
theorem loop35_2 {S : Kn} (hS : S.Only [22]) {m : Nat} (hm : 1 ≤ m) {b : Bk} {z : Z} {vs : Vs} {h : Hp} {nx p1 : Nat} (hF : b.Fine) (hb : b.At h nx) (hr1 : rowL h p1 = some b.cells) (hp1 : p1 < nx) (hz : z.n0 ≤ nx)
    (g1 : vs 1 = some (pt p1)) (g3 : vs 3 = some (.bool true)) (g6 : vs 6 = some (vi 0)) {r : R} (hr : z0w (sC Tryz.prog 154 154 (z08 Tryz.prog vmL S m) l35_2) z vs h nx = r) :
    ∃ vs' h' nx', r = .exi 2 z vs' h' nx' ∧ nx ≤ nx' ∧ Same nx h h' ∧ vs' 1 = some (pt p1) ∧ vs' 3 = some (.bool true) := by
  subst hr
  refine z0o (Post := fun r => ∃ vs' h' nx', r = .exi 2 z vs' h' nx' ∧ nx ≤ nx' ∧ Same nx h h' ∧ vs' 1 = some (pt p1) ∧ vs' 3 = some (.bool true))
    (fun i z' vs' h' nx' => i ≤ b.K.length ∧ z' = z ∧ nx ≤ nx' ∧ Same nx h h' ∧ vs' 1 = some (pt p1) ∧ vs' 3 = some (.bool true) ∧ vs' 6 = some (vi (i : Int))) b.K.length (by have := hF.k4; omega)
    ⟨Nat.zero_le _, rfl, Nat.le_refl _, Same.refl _ _, g1, g3, g6⟩ ?_
  rintro i z' vs' h' nx' ⟨hi, rfl, hn, hs, e1, e3, e6⟩
  have h4 := hF.k4
  have hrow : rowL h' p1 = some b.cells := by rw [z0n hs hp1]; exact hr1
  have hb' := hb.same hs hn
  have hk' := hb'.k
  obtain ⟨ka, kc, hkv, _⟩ := hk'.form
  rw [List.length_map] at hkv
  have hpk : z0c false 1 b.cells 1 = some b.kv := rfl
  rw [hkv] at hpk hk'
  by_cases hlt : i < b.K.length
  · left
    have h1 : ((i : Int) < (b.K.length : Int)) := by omega
    obtain ⟨_, r2, o2, row, cs2, rfl, hrn2, hrow2, hrl2, hcs2, ho2, hseg2⟩ := hk'.load (i := i) (by simpa using hlt)
    rw [List.getElem?_map, List.getElem?_eq_getElem hlt] at hrow2
    cases hrow2
    have hel2 : z0c true 4 cs2 (o2 + i * 4) = some (.agg b.K[i].row.toArray) := z3j (by omega) hseg2
    have hkf := hF.kind hlt
    have hzk := hb'.z _ (List.getElem_mem hlt)
    have k40 := fun (h : Hp) (nx : Nat) (x lo hi : Int) => c40 hS (m := m) (h := h) (nx := nx) hm x lo hi
    generalize b.K[i] = x at *
    have b1 := z1i hkf.r1 hkf.r2
    have b2 := z1i hkf.m1 hkf.m2
    have b3 := z1i hkf.s1 hkf.s2
    obtain ⟨H, eH⟩ : ∃ q, q = hset h' nx' (.cells x.row none) := ⟨_, rfl⟩
    have hzH : Lst H (nx' + 1) 1 x.zv (ints x.zs) := hzk.same (by rw [eH]; exact (Same.refl nx' h').set (Nat.le_refl _) _) (by omega)
    have hr7 : rowL H nx' = some x.row := by rw [eH]; exact z03 _ _
    have hst := fun H : Hp => z3h (h := hset H nx' (.cells [vi 0, vi 0, .slice none 0 0, vi 0] none)) (r := nx') (l := x.row) (z11 _ _) rfl
    obtain ⟨za, zc, hzv, _⟩ := hzk.form
    have hzl : (ints x.zs).length = x.zs.length := by simp [ints]
    rw [hzl, hkf.z] at hzv
    have h55 : (((5 : Nat) : Int) == 5) = true := rfl
    have hr7e := hr7
    simp only [Kd.row, z16, List.length_cons, List.length_nil, Nat.reduceAdd, Nat.zero_add, hzv] at hst hel2 eH hr7e
    have e : ∃ vs2, sC Tryz.prog 154 154 (z08 Tryz.prog vmL S m) l35_2 z' vs' h' nx' = .nor z' vs2 H (nx' + 1) ∧ vs2 1 = vs' 1 ∧ vs2 3 = some (.bool true) ∧ vs2 6 = some (vi ((i + 1 : Nat) : Int)) := by
      simp (maxSteps := 10000000) (implicitDefEqProofs := false) (disch := omega) only [l35_2, z1x, e1, e3, e6, h1, hrow, hpk, hcs2, hel2, k40, b1, b2, b3, h55, hst, storeO, z1k, ← eH, hr7e, bm, z02, Nat.reduceEqDiff, Nat.reduceLT, Nat.reduceAdd, Nat.reduceMul, Int.reduceToNat]
      generalize hr : z0w _ _ _ _ _ = r
      obtain ⟨vs1, rfl, q1, q3, q6⟩ := loop35_1 hS hm (k := x) (p7 := nx') hkf hzH hr7 (by rfl) (by rfl) (by rfl) hr
      have q6' : vs1 6 = some (vi (i : Int)) := by rw [q6]; simp only [z01, z00, Nat.reduceEqDiff, decide_true, decide_false, cond_true, cond_false, e6]
      refine ⟨_, by simp (maxSteps := 10000000) (implicitDefEqProofs := false) (disch := omega) only [q6', bz, z02, Nat.reduceEqDiff, Nat.reduceLT, Nat.reduceAdd, Nat.reduceMul, Int.reduceToNat]; exact rfl, ?_, ?_, ?_⟩
      · simp only [z01, z00, Nat.reduceEqDiff, decide_true, decide_false, cond_true, cond_false, q1, e1]
      · simp only [z01, z00, Nat.reduceEqDiff, decide_true, decide_false, cond_true, cond_false, q3]
      · simp only [z01, z00, Nat.reduceEqDiff, decide_true, decide_false, cond_true, cond_false]; rfl
    obtain ⟨vs2, e, q1, q3, q6⟩ := e
    exact ⟨hlt, z', vs2, H, nx' + 1, e, by omega, rfl, by omega, by rw [eH]; exact hs.set hn _, q1.trans e1, q3, q6⟩
  · right
    have h1 : ¬ ((i : Int) < (b.K.length : Int)) := by omega
    have e : ∃ vs2, sC Tryz.prog 154 154 (z08 Tryz.prog vmL S m) l35_2 z' vs' h' nx' = .exi 2 z' vs2 h' nx' ∧ vs2 1 = vs' 1 ∧ vs2 3 = vs' 3 := by
      refine ⟨_, by simp (maxSteps := 10000000) (implicitDefEqProofs := false) (disch := omega) only [l35_2, e1, e3, e6, h1, hrow, hpk, bz, z02, Nat.reduceEqDiff, Nat.reduceLT, Nat.reduceAdd, Nat.reduceMul, Int.reduceToNat]; exact rfl, ?_, ?_⟩ <;> simp only [z01, Nat.reduceEqDiff, decide_true, decide_false, cond_true, cond_false]
    obtain ⟨vs2, e, q1, q3⟩ := e
    rw [e]
    exact ⟨trivial, vs2, _, _, rfl, hn, hs, q1.trans e1, q3.trans e3⟩
end Go.Proofs.YtcmkngajdckndaaGreatDoor
