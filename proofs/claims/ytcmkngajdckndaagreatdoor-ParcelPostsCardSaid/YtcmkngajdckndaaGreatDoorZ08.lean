/- What the functions of package parcel answer, for any book, and why the law's comparison holds; how a book of a world reads; Rules by which a run of that machine is computed; A machine that takes letters for numbers and lists: what it answers, the program answers (its operations, steps, calls, loops, lists of a world). Conditions: none. -/
import Derived.Test.YtcmkngajdckndaaGreatDoorZ07
import Derived.Test.YtcmkngajdckndaaGreatDoorZ04
import Derived.Test.YtcmkngajdckndaaGreatDoorChecked
import Derived.Deep.Slices
import Derived.Lib.SmallJoins
import Derived.SizedLaws
import Derived.ChangeArms
import Derived.OpenShut
import Derived.Test.YtcmkngajdckndaaGreatDoorCards
import Derived.Test.YtcmkngajdckndaaGreatDoorTie
import Derived.WalkKit
import Derived.ProofKit
import Derived.ReadAgain
import Derived.Deep.DeepHandedRow
import Derived.Lib.LaidTab
set_option linter.unusedVariables false
set_option linter.unusedSimpArgs false
namespace Go.Proofs.YtcmkngajdckndaaGreatDoor
open Go Go.Proofs Go.Lm
set_option maxRecDepth 10000
set_option maxHeartbeats 8000000
structure Bk.Fine (b : Bk) : Prop where
  p1 : 1 ≤ b.P.length
  p7 : b.P.length ≤ 7
  po : b.P.all Pc.ok = true
  k1 : 1 ≤ b.K.length
  k4 : b.K.length ≤ 4
  ko : b.K.all Kd.ok = true
  g1 : 1 ≤ b.grams
  g2 : b.grams ≤ 5000
  f1 : 0 ≤ b.free
  f2 : b.free ≤ 10000
  u1 : 1 ≤ b.unit
  u2 : b.unit ≤ 10000
  e1 : 0 ≤ b.fee
  e2 : b.fee ≤ 1000
  s1 : 1 ≤ b.S.length
  s5 : b.S.length ≤ 5
  so : b.S.all (inB 1 1000) = true
  si : incB b.S = true
theorem Bk.fine {b : Bk} (h : b.valid = true) : b.Fine := by
  unfold Bk.valid at h
  simp only [Bool.and_eq_true] at h
  obtain ⟨⟨a1, a2⟩, ⟨a3, a4⟩, a5, a6, a7, a8, ⟨a9, a10⟩, a11⟩ := h
  have := z0u a1
  have := z0u a3
  have := z0u a5
  have := z0u a6
  have := z0u a7
  have := z0u a8
  have := z0u a9
  exact ⟨by omega, by omega, a2, by omega, by omega, a4, by omega, by omega, by omega, by omega, by omega, by omega, by omega, by omega, by omega, by omega, a10, a11⟩
structure Kd.Fine (x : Kd) : Prop where
  r1 : 1 ≤ x.room
  r2 : x.room ≤ 500
  m1 : 1 ≤ x.most
  m2 : x.most ≤ 5000
  z : x.zs.length = 5
  zo : ∀ n, n ∈ x.zs → 1 ≤ n ∧ n ≤ 1000
  s1 : 0 ≤ x.step
  s2 : x.step ≤ 1000
theorem Kd.fine {x : Kd} (h : x.ok = true) : x.Fine := by
  unfold Kd.ok zbt at h
  simp only [Bool.and_eq_true] at h
  obtain ⟨a1, a2, ⟨a3, a4⟩, a5⟩ := h
  have := z0u a1
  have := z0u a2
  have := z0u a3
  have := z0u a5
  exact ⟨by omega, by omega, by omega, by omega, by omega, fun n hn => z0u (List.all_eq_true.1 a4 n hn), by omega, by omega⟩
theorem Bk.Fine.kind {b : Bk} (h : b.Fine) {i : Nat} (hi : i < b.K.length) : b.K[i].Fine := Kd.fine (List.all_eq_true.1 h.ko _ (List.getElem_mem hi))
theorem zec {l : List Int} {B : Int} (hB : 0 ≤ B) : (∀ x, x ∈ l → 0 ≤ x ∧ x ≤ B) → 0 ≤ l.sum ∧ l.sum ≤ B * l.length := by
  induction l with
  | nil => intro _; simp
  | cons x l ih =>
    intro h
    have h1 := h x List.mem_cons_self
    have h2 := ih fun y hy => h y (List.mem_cons_of_mem _ hy)
    rw [List.sum_cons, List.length_cons, Int.natCast_succ, Int.mul_add, Int.mul_one]
    omega
theorem zjg {P : List Pc} {f : Nat → Bool} {i : Nat} {x : Pc} (hx : x ∈ z0b P f i) : x ∈ P := by
  unfold z0b at hx
  obtain ⟨y, hy, rfl⟩ := List.mem_map.1 hx
  have := List.mem_filter.1 hy
  exact List.mem_of_mem_take (List.fst_mem_of_mem_zipIdx this.1)
theorem zc0 {P : List Pc} (f : Nat → Bool) (h7 : P.length ≤ 7) {g : Pc → Int} {B : Int} (hB : 0 ≤ B) (hg : ∀ x, x ∈ P → 0 ≤ g x ∧ g x ≤ B) : 0 ≤ sumP g P f ∧ sumP g P f ≤ B * 7 := by
  unfold sumP
  have h := zec (l := (z0b P f P.length).map g) hB (fun y hy => by
    obtain ⟨x, hx, rfl⟩ := List.mem_map.1 hy
    exact hg x (zjg hx))
  have hl := z3x P f P.length
  rw [List.length_map] at h
  have : B * ((z0b P f P.length).length : Int) ≤ B * 7 := Int.mul_le_mul_of_nonneg_left (by omega) hB
  omega
theorem z91 {b : Bk} (hf : b.Fine) (f : Nat → Bool) : 0 ≤ sumP Pc.weight b.P f ∧ sumP Pc.weight b.P f ≤ 35000 := by
  have := zc0 f hf.p7 (g := Pc.weight) (B := 5000) (by omega) (fun x hx => by
    have h := List.all_eq_true.1 hf.po x hx
    unfold Pc.ok at h
    have := z0u (Bool.and_eq_true_iff.1 (Bool.and_eq_true_iff.1 h).2).1
    omega)
  omega
theorem z9o {b : Bk} (hf : b.Fine) (f : Nat → Bool) : 0 ≤ sumP Pc.worth b.P f ∧ sumP Pc.worth b.P f ≤ 70000 := by
  have := zc0 f hf.p7 (g := Pc.worth) (B := 10000) (by omega) (fun x hx => by
    have h := List.all_eq_true.1 hf.po x hx
    unfold Pc.ok at h
    have := z0u (Bool.and_eq_true_iff.1 (Bool.and_eq_true_iff.1 h).2).2
    omega)
  omega
def z2i (b : Bk) (f : Nat → Bool) (k : Kd) : Int := k.step * ((sumP Pc.weight b.P f + b.grams - 1) / b.grams - 1)
def z3z (b : Bk) (f : Nat → Bool) : Int := b.fee * ((max 0 (sumP Pc.worth b.P f - b.free) + b.unit - 1) / b.unit)
theorem zfx {a b : Int} (ha : 0 ≤ a) (hb : 1 ≤ b) : 0 ≤ (a + b - 1) / b ∧ (a + b - 1) / b ≤ a := by
  refine ⟨Int.ediv_nonneg (by omega) (by omega), ?_⟩
  have h1 : (a + b - 1) / b < a + 1 := by
    rw [Int.ediv_lt_iff_lt_mul (by omega)]
    have : (a + 1) * b = a * b + b := by rw [Int.add_mul, Int.one_mul]
    have h2 : a ≤ a * b := by
      have := Int.mul_le_mul_of_nonneg_left (show (1 : Int) ≤ b by omega) ha
      omega
    omega
  omega
theorem zd4 {b : Bk} (hf : b.Fine) (f : Nat → Bool) {k : Kd} (hk : k.Fine) : -1000 ≤ z2i b f k ∧ z2i b f k ≤ 35000000 := by
  unfold z2i
  have h1 := z91 hf f
  have h2 := zfx h1.1 hf.g1
  have h3 := hk.s1
  have h4 := hk.s2
  generalize (sumP Pc.weight b.P f + b.grams - 1) / b.grams = q at h2 ⊢
  have e1 : k.step * (-1) ≤ k.step * (q - 1) := Int.mul_le_mul_of_nonneg_left (by omega) h3
  have e2 : k.step * (q - 1) ≤ k.step * 35000 := Int.mul_le_mul_of_nonneg_left (by omega) h3
  omega
theorem ze8 {b : Bk} (hf : b.Fine) (f : Nat → Bool) : 0 ≤ z3z b f ∧ z3z b f ≤ 70000000 := by
  unfold z3z
  have h1 := z9o hf f
  have h0 := hf.f1
  have h2 := zfx (a := max 0 (sumP Pc.worth b.P f - b.free)) (by omega) hf.u1
  have h3 := hf.e1
  have h4 := hf.e2
  generalize (max 0 (sumP Pc.worth b.P f - b.free) + b.unit - 1) / b.unit = q at h2 ⊢
  have e1 : 0 ≤ b.fee * q := Int.mul_nonneg h3 h2.1
  have e2 : b.fee * q ≤ b.fee * 70000 := Int.mul_le_mul_of_nonneg_left (by omega) h3
  omega
theorem c54 {S : Kn} (hS : S.Only [22]) {m : Nat} (hm : 6 ≤ m) {b : Bk} {h : Hp} {nx : Nat} (hb : b.At h nx) (hf : b.Fine) (s : Nat) (hs : s < 4611686018427387904) {kind : Nat} (hk : kind < b.K.length) : z06 54 [.agg b.cells.toArray, .agg #[vi kind, vi s]] (z07 Tryz.prog vmL S m) h nx = .gen (.bool (z8p b.P s.testBit b.K[kind])) h nx [] := by
  refine fun54.ground (hS _ _ _ _ (by decide)) (by omega) rfl (by simp) ?_
  have hsm : Same nx h (hset (hset h nx (.cells b.cells none)) (nx + 1) (.cells [vi kind, vi s] none)) := ((Same.refl nx h).set (Nat.le_refl _) _).set (by omega) _
  have hb' := hb.same hsm (nx' := nx + 1 + 1) (by omega)
  have k82 := c82 hS (m := m - 1) (by omega) s hs hb' hf.p1 hf.k1 hf.s1
  have k83 := c83 hS hb' hf.p7 hf.po s.testBit (m := m - 1) (by omega) b.K[kind]
  have hk' := hb'.k
  obtain ⟨a, c, hve, _⟩ := hk'.form
  rw [List.length_map] at hve
  rw [hve] at hk'
  obtain ⟨_, rr, o, row, cs, rfl, hrn, hrow, hrl, hcs, ho, hseg⟩ := hk'.load (i := kind) (by simpa using hk)
  rw [List.getElem?_map, List.getElem?_eq_getElem hk] at hrow
  cases hrow
  have hel : z09 true 4 cs (o + kind * 4) = some (.agg b.K[kind].row.toArray) := z3j (by omega) hseg
  generalize b.K[kind] = kd at *
  simp only [Bk.cells, Kd.row, hve] at k82 k83 hcs hel
  simp (maxSteps := 10000000) (disch := omega) only [s54, Bk.cells, hve, k82, k83, hcs, hel, bz, z00, Nat.reduceEqDiff, Nat.reduceLT, Nat.reduceAdd, Nat.reduceMul, Int.reduceToNat]
  exact ⟨_, _, rfl⟩
def ztx (a b c : Int) (row : List Value) : Int := match row with
  | [.func (.func 117) _ _] => a
  | [.func (.func 118) _ _] => b
  | _ => c
theorem c60 {S : Kn} (hS : S.Only [22]) {m : Nat} (hm : 8 ≤ m) {b : Bk} {h : Hp} {nx : Nat} (hb : b.At h nx) (hf : b.Fine) (s : Nat) (hs : s < 4611686018427387904) {kind : Nat} (hk : kind < b.K.length) (zone : Nat) (hz : zone < b.K[kind].zs.length) :
    z06 60 [.agg b.cells.toArray, .agg #[vi kind, vi s], vi zone] (z07 Tryz.prog vmL S m) h nx = .gen (vi (b.K[kind].zs[zone] + z2i b s.testBit b.K[kind] + z3z b s.testBit)) h nx [] := by
  refine fun60.ground (hS _ _ _ _ (by decide)) (by omega) rfl (by simp) ?_
  have hsm : Same nx h (hset (hset h nx (.cells b.cells none)) (nx + 1) (.cells [vi kind, vi s] none)) := ((Same.refl nx h).set (Nat.le_refl _) _).set (by omega) _
  have hb' := hb.same hsm (nx' := nx + 1 + 1) (by omega)
  have k82 := c82 hS (m := m - 1) (by omega) s hs hb' hf.p1 hf.k1 hf.s1
  have hk' := hb'.k
  obtain ⟨a, c, hve, _⟩ := hk'.form
  rw [List.length_map] at hve
  rw [hve] at hk'
  obtain ⟨_, rr, o, row, cs, rfl, hrn, hrow, hrl, hcs, ho, hseg⟩ := hk'.load (i := kind) (by simpa using hk)
  rw [List.getElem?_map, List.getElem?_eq_getElem hk] at hrow
  cases hrow
  have hel : z09 true 4 cs (o + kind * 4) = some (.agg b.K[kind].row.toArray) := z3j (by omega) hseg
  have hkf := hf.kind hk
  have hzk := hb.z _ (List.getElem_mem hk)
  generalize b.K[kind] = kd at *
  obtain ⟨h3, eh3⟩ : ∃ x, x = hset (hset (hset h nx (.cells b.cells none)) (nx + 1) (.cells [vi kind, vi s] none)) (nx + 1 + 1) (.cells (z2o b s.testBit kd (zone : Int)) none) := ⟨_, rfl⟩
  obtain ⟨h4, eh4⟩ : ∃ x, x = hset h3 (nx + 1 + 1 + 1) (.cells [fn 117, fn 118, fn 119] none) := ⟨_, rfl⟩
  have hsm4 : Same nx h h4 := by rw [eh4, eh3]; exact ((hsm.set (by omega) _)).set (by omega) _
  have hb4 := hb.same hsm4 (nx' := nx + 1 + 1 + 1 + 1) (by omega)
  have hrow4 : rowL h4 (nx + 1 + 1) = some (z2o b s.testBit kd (zone : Int)) := by
    rw [eh4, z0a _ (by omega), eh3]; exact z01 _ _
  have hrow5 : rowL h4 (nx + 1 + 1 + 1) = some [fn 117, fn 118, fn 119] := by rw [eh4]; exact z01 _ _
  have w1 := z91 hf s.testBit
  have w2 := z9o hf s.testBit
  have g1 := hf.g1
  have g2 := hf.g2
  have u1 := hf.u1
  have u2 := hf.u2
  have f1 := hf.f1
  have f2 := hf.f2
  have e1 := hf.e1
  have e2 := hf.e2
  have st1 := hkf.s1
  have st2 := hkf.s2
  have zl := hkf.z
  have k117 := c117 hS (m := m - 1 - 1 - 1) (b := b) s.testBit (by omega) kd zone (hzk.same hsm4 (nx' := nx + 1 + 1 + 1 + 1) (by omega)) hz (by omega)
  have k118 := c118 hS hb4 hf.p7 hf.po s.testBit (m := m - 1 - 1 - 1) (by omega) kd zone st1 st2 g1 (by omega) w1.1 (by omega)
  have k119 := c119 hS hb4 hf.p7 hf.po s.testBit (m := m - 1 - 1 - 1) (by omega) kd zone e1 e2 u1 (by omega) f1 (by omega) w2.1 (by omega)
  have hzr := hkf.zo _ (List.getElem_mem hz)
  have hwr := zd4 hf s.testBit hkf
  have hor := ze8 hf s.testBit
  have k86 := c86 hS (m := m - 1) (by omega) (rows := [[fn 117], [fn 118], [fn 119]]) (h := h4) (nx := nx + 1 + 1 + 1 + 1) (q := nx + 1 + 1) (v := .slice (some ⟨nx + 1 + 1 + 1, 0, none⟩) 3 3) (p := ztx kd.zs[zone] (z2i b s.testBit kd) (z3z b s.testBit)) (by simp)
    (by
      refine ⟨_, _, rfl, fun i row hi => ?_⟩
      have hlt := (List.getElem?_eq_some_iff.1 hi).1
      have : i = 0 ∨ i = 1 ∨ i = 2 := by simp at hlt; omega
      rcases this with rfl | rfl | rfl <;> cases hi <;> exact ⟨rfl, _, 0, _, rfl, by omega, hrow5, by simp, rfl⟩)
    (by
      intro row hr
      simp only [List.mem_cons, List.not_mem_nil, or_false] at hr
      rcases hr with rfl | rfl | rfl
      · show _ ≤ kd.zs[zone] ∧ kd.zs[zone] ≤ _; omega
      · show _ ≤ z2i b s.testBit kd ∧ z2i b s.testBit kd ≤ _; omega
      · show _ ≤ z3z b s.testBit ∧ z3z b s.testBit ≤ _; omega)
    (by
      intro row hr
      simp only [List.mem_cons, List.not_mem_nil, or_false] at hr
      rcases hr with rfl | rfl | rfl
      · exact ⟨117, rfl, c87 hS (by omega) hrow4 k117⟩
      · exact ⟨118, rfl, c87 hS (by omega) hrow4 k118⟩
      · exact ⟨119, rfl, c87 hS (by omega) hrow4 k119⟩)
  have hsum : sumR (ztx kd.zs[zone] (z2i b s.testBit kd) (z3z b s.testBit)) [[fn 117], [fn 118], [fn 119]] [[fn 117], [fn 118], [fn 119]].length = kd.zs[zone] + z2i b s.testBit kd + z3z b s.testBit := by
    show (kd.zs[zone] + (z2i b s.testBit kd + (z3z b s.testBit + 0)) : Int) = _
    omega
  rw [hsum] at k86
  have k88 := fun (h : Hp) (nx : Nat) => c88 hS (m := m - 1) (by omega) (h := h) (nx := nx)
  have hst := fun H : Hp => z5q (h := hset H (nx + 1 + 1) (.cells [.slice none 0 0, .slice none 0 0, .int .i64 0, .int .i64 0, .int .i64 0, .int .i64 0, .slice none 0 0, .bool false, .bool false, .bool false, .bool false, .bool false, .bool false, .bool false, .int .i64 0, .int .i64 0, .slice none 0 0, .int .i64 0, .int .i64 0] none)) (r := nx + 1 + 1) (l := z2o b s.testBit kd (zone : Int)) (z1c _ _) rfl
  generalize kd.zs[zone] + z2i b s.testBit kd + z3z b s.testBit = ans at *
  simp only [eh4, eh3, z2o, z0f, z08, Bk.cells, Kd.row, hve, List.cons_append, List.nil_append, z1k, List.length_cons, List.length_nil, Nat.reduceAdd, Nat.zero_add] at k82 k86 hcs hel hst
  simp (maxSteps := 10000000) (disch := omega) only [s60, Bk.cells, hve, k82, k86, k88, z1k, hcs, hel, hst, z26, storeO, bm, z00, Nat.reduceEqDiff, Nat.reduceLT, Nat.reduceAdd, Nat.reduceMul, Int.reduceToNat]
  exact ⟨_, _, rfl⟩
theorem zw0 (a b c d e f g : Bool) : binV Tryz.prog .eql 124 (.tmp 18) (.tmp 19) (.agg #[.bool a, .bool b, .bool c, .bool d, .bool e, .bool f, .bool g]) (.agg #[.bool false, .bool false, .bool false, .bool false, .bool false, .bool false, .bool false]) = some (.bool (!(a || (b || (c || (d || (e || (f || g)))))))) := by
  cases a <;> cases b <;> cases c <;> cases d <;> cases e <;> cases f <;> cases g <;> (as_aux_lemma => kernel_rfl)
theorem zwb (k s : Nat) (hs : 0 < s) : binV Tryz.prog .neq 84 (.tmp 4) (.tmp 5) (.agg #[vi (k : Int), vi (s : Int)]) (.agg #[vi 0, vi 0]) = some (.bool true) := by
  obtain ⟨s, rfl⟩ : ∃ x, s = x + 1 := ⟨s - 1, by omega⟩
  cases k <;> (as_aux_lemma => kernel_rfl)
theorem zu8 : binV Tryz.prog .neq 84 (.tmp 4) (.tmp 5) (.agg #[vi 0, vi 0]) (.agg #[vi 0, vi 0]) = some (.bool false) := by kernel_rfl
def setN (ns : List Nat) : Nat := ns.foldl (fun s n => s ||| 2 ^ n) 0
def nsI (ns : List Nat) : List Int := ns.map fun n : Nat => (n : Int)
theorem zh0 {ns : List Nat} (h : ∀ n, n ∈ ns → n ≤ 60) : ∀ s, s < 2 ^ 61 → ns.foldl (fun s n => s ||| 2 ^ n) s < 2 ^ 61 := by
  induction ns with
  | nil => intro s hs; exact hs
  | cons n ns ih =>
    intro s hs
    refine ih (fun k hk => h k (List.mem_cons_of_mem _ hk)) _ (Nat.or_lt_two_pow hs ?_)
    exact Nat.pow_lt_pow_right (by omega) (by have := h n List.mem_cons_self; omega)
theorem zgc {ns : List Nat} (h : ∀ n, n ∈ ns → n ≤ 60) : setN ns < 2 ^ 61 := zh0 h 0 (by decide)
theorem zda (ns : List Nat) (k : Nat) : (setN ns).testBit k = decide (k ∈ ns) := by
  have key : ∀ (ns : List Nat) (s : Nat), (ns.foldl (fun s n => s ||| 2 ^ n) s).testBit k = (s.testBit k || decide (k ∈ ns)) := by
    intro ns
    induction ns with
    | nil => intro s; simp
    | cons n ns ih =>
      intro s
      rw [List.foldl_cons, ih, Nat.testBit_or, Nat.testBit_two_pow]
      by_cases h : k = n
      · subst h; simp
      · have h' : ¬ n = k := fun q => h q.symm
        simp [h, h']
  have := key ns 0
  simpa [setN] using this
theorem zua {S : Kn} (hS : S.Only [22]) {m : Nat} (hm : 1 ≤ m) {ns : List Nat} {z : Z} {vs : Vs} {h : Hp} {nx : Nat} {v : Value} (hl : ns.length ≤ 1000) (h60 : ∀ n, n ∈ ns → n ≤ 60) (hv : Lst h nx 1 v (ints (nsI ns)))
    (g3 : vs 3 = some (vi 0)) (g6 : vs 6 = some v) (g7 : vs 7 = some (vi ns.length)) (g8 : vs 8 = some (vi 0)) {r : R} (hr : z14 (sC Tryz.prog 17 17 (z07 Tryz.prog vmL S m) zm4) z vs h nx = r) :
    ∃ vs', r = .exi 0 z vs' h nx ∧ vs' 3 = some (vi (setN ns)) := by
  subst hr
  refine z0n (Post := fun r => ∃ vs', r = .exi 0 z vs' h nx ∧ vs' 3 = some (vi (setN ns)))
    (fun i z' vs' h' nx' => i ≤ ns.length ∧ z' = z ∧ nx' = nx ∧ h' = h ∧ vs' 3 = some (vi (setN (ns.take i))) ∧ vs' 6 = some v ∧ vs' 7 = some (vi ns.length) ∧ vs' 8 = some (vi (i : Int))) ns.length (by omega)
    ⟨Nat.zero_le _, rfl, rfl, rfl, g3, g6, g7, g8⟩ ?_
  rintro i z' vs' h' nx' ⟨hi, rfl, rfl, rfl, e3, e6, e7, e8⟩
  obtain ⟨a, c, rfl, _⟩ := hv.form
  have hil : (ints (nsI ns)).length = ns.length := by simp [ints, nsI]
  rw [hil] at e6 hv
  by_cases hlt : i < ns.length
  · left
    obtain ⟨_, rr, o, row, cs, rfl, hrn, hrow, hrl, hcs, ho, hseg⟩ := hv.load (i := i) hlt
    have h1 : ((i : Int) < (ns.length : Int)) := by omega
    have hrw : row = [vi ns[i]] := by
      unfold ints nsI at hrow
      rw [List.getElem?_map, List.getElem?_map, List.getElem?_eq_getElem hlt] at hrow
      exact (Option.some.inj hrow).symm
    subst hrw
    have hel : z09 false 1 cs (o + i * 1) = some (vi ns[i]) := z2w (row := []) hseg
    have hb := zgc (ns := ns.take i) fun n hn => h60 n (List.mem_of_mem_take hn)
    have hc := fun (h : Hp) (nx : Nat) => c121 hS hm (setN (ns.take i)) ns[i] (by omega) (h60 _ (List.getElem_mem hlt)) (h := h) (nx := nx)
    have hw : setN (ns.take (i + 1)) = setN (ns.take i) ||| 2 ^ ns[i] := by
      unfold setN
      rw [List.take_add_one, List.getElem?_eq_getElem hlt, Option.toList_some, List.foldl_append]; rfl
    refine ⟨hlt, z', _, _, _, (by simp (maxSteps := 10000000) (disch := omega) only [zm4, e3, e6, e7, e8, h1, hcs, hel, hc, bz, z00, Nat.reduceEqDiff, Nat.reduceLT, Nat.reduceAdd, Nat.reduceMul, Int.reduceToNat]; exact rfl), by omega, rfl, rfl, rfl, ?_, ?_, ?_, ?_⟩
    · simp only [pq, Nat.reduceEqDiff, hw]
    · simp only [pq, Nat.reduceEqDiff, e6, hil]
    · simp only [pq, Nat.reduceEqDiff, e7]
    · simp only [pq, Nat.reduceEqDiff]; rfl
  · right
    have h1 : ¬ ((i : Int) < (ns.length : Int)) := by omega
    have hie : i = ns.length := by omega
    have e : ∃ vs2, sC Tryz.prog 17 17 (z07 Tryz.prog vmL S m) zm4 z' vs' h' nx' = .exi 0 z' vs2 h' nx' ∧ vs2 3 = vs' 3 := by
      refine ⟨_, by simp (maxSteps := 10000000) (disch := omega) only [zm4, e3, e6, e7, e8, h1, bz, z00, Nat.reduceEqDiff, Nat.reduceLT, Nat.reduceAdd, Nat.reduceMul, Int.reduceToNat]; exact rfl, ?_⟩
      simp only [pg, Nat.reduceEqDiff]
    obtain ⟨vs2, e, q3⟩ := e
    rw [e]
    rw [hie, List.take_length] at e3
    exact ⟨trivial, vs2, rfl, q3.trans e3⟩
theorem c90 {S : Kn} (hS : S.Only [22]) {m : Nat} (hm : 2 ≤ m) {ns : List Nat} {h : Hp} {nx : Nat} {v : Value} (hl : ns.length ≤ 1000) (h60 : ∀ n, n ∈ ns → n ≤ 60) (hv : Lst h nx 1 v (ints (nsI ns))) : z06 90 [v] (z07 Tryz.prog vmL S m) h nx = .gen (vi (setN ns)) h nx [] := by
  refine fun90.ground (hS _ _ _ _ (by decide)) (by omega) rfl (by simp) ?_
  obtain ⟨a, c, e1, _⟩ := hv.form
  have hil : (ints (nsI ns)).length = ns.length := by simp [ints, nsI]
  rw [hil] at e1
  simp (maxSteps := 10000000) (disch := omega) only [s90, z1j, e1, bz, z00, Nat.reduceEqDiff, Nat.reduceLT, Nat.reduceAdd, Nat.reduceMul, Int.reduceToNat]
  generalize hr : z14 _ _ _ _ _ = r
  obtain ⟨vs', rfl, e3⟩ := zua hS (by omega) hl h60 hv rfl (by rw [e1]; rfl) rfl rfl hr
  exact ⟨_, _, by simp (maxSteps := 10000000) (disch := omega) only [e3, bz, z00, Nat.reduceEqDiff, Nat.reduceLT, Nat.reduceAdd, Nat.reduceMul, Int.reduceToNat]; rfl⟩
def z13 (next last : Int) : List Int → Bool
  | [] => true
  | x :: l => inB next last x && z13 (x + 1) last l
def hasQ (zs : List Int) (k : Nat) : Bool := decide ((k : Int) ∈ zs)
theorem zsa {S : Kn} (hS : S.Only [22]) {m : Nat} (hm : 1 ≤ m) {b : Bk} {zs : List Int} {z : Z} {vs : Vs} {G : Hp} {nx p2 p4 p5 : Nat} {v : Value} (hl : zs.length ≤ 140737488355328) (h7 : b.P.length ≤ 7) {pa : Option Addr} {pc : Nat} (hpv : b.pv = .slice pa b.P.length pc)
    (hv : ∀ f, Lst (hset G p5 (.cells (z08 f) none)) nx 1 v (ints zs)) (hr2 : ∀ f, rowL (hset G p5 (.cells (z08 f) none)) p2 = some b.cells)
    (hz : z.n0 ≤ p5) (hz4 : z.n0 ≤ p4) (h45 : p4 ≠ p5) (hr4 : ∃ C, hget G p4 = some (.cells (z08 C) none))
    (g2 : vs 2 = some (pt p2)) (g4 : vs 4 = some (pt p4)) (g5 : vs 5 = some (pt p5)) (g6 : vs 6 = some (vi 0)) (g9 : vs 9 = some v) (g10 : vs 10 = some (vi zs.length)) (g11 : vs 11 = some (vi 0)) {r : R} (hr : z14 (sC Tryz.prog 32 32 (z07 Tryz.prog vmL S m) zan) z vs (hset G p5 (.cells (z08 fun _ => false) none)) nx = r) :
    (z13 0 (b.P.length - 1) zs = false ∧ ∃ vs' h', r = .ret z vs' h' nx ∧ vs' 4 = some (pt p4) ∧ rowL h' p4 = some (z08 fun _ => false)) ∨ (z13 0 (b.P.length - 1) zs = true ∧ ∃ vs', r = .exi 0 z vs' (hset G p5 (.cells (z08 (hasQ zs)) none)) nx ∧ vs' 4 = some (pt p4) ∧ vs' 5 = some (pt p5)) := by
  subst hr
  refine z0n (Post := fun r => (z13 0 (b.P.length - 1) zs = false ∧ ∃ vs' h', r = .ret z vs' h' nx ∧ vs' 4 = some (pt p4) ∧ rowL h' p4 = some (z08 fun _ => false)) ∨ (z13 0 (b.P.length - 1) zs = true ∧ ∃ vs', r = .exi 0 z vs' (hset G p5 (.cells (z08 (hasQ zs)) none)) nx ∧ vs' 4 = some (pt p4) ∧ vs' 5 = some (pt p5)))
    (fun i z' vs' h' nx' => i ≤ zs.length ∧ z' = z ∧ nx' = nx ∧ vs' 2 = some (pt p2) ∧ vs' 4 = some (pt p4) ∧ vs' 5 = some (pt p5) ∧ vs' 9 = some v ∧ vs' 10 = some (vi zs.length) ∧ vs' 11 = some (vi (i : Int)) ∧ ∃ f next, h' = hset G p5 (.cells (z08 f) none) ∧ vs' 6 = some (vi next) ∧ 0 ≤ next ∧ next ≤ 1000000 ∧ (∀ k : Nat, k < 7 → f k = decide ((k : Int) ∈ zs.take i)) ∧ z13 0 (b.P.length - 1) zs = z13 next (b.P.length - 1) (zs.drop i)) zs.length (by omega)
    ⟨Nat.zero_le _, rfl, rfl, g2, g4, g5, g9, g10, g11, fun _ => false, 0, rfl, g6, by omega, by omega, fun k _ => by simp, rfl⟩ ?_
  rintro i z' vs' h' nx' ⟨hi, rfl, rfl, e2, e4, e5, e9, e10, e11, f, next, rfl, e6, n0, n1, ef, ec⟩
  have hvf := hv f
  obtain ⟨a, c, rfl, _⟩ := hvf.form
  have hil : (ints zs).length = zs.length := by simp [ints]
  rw [hil] at e9 hv hvf
  have hrf := hr2 f
  have hpt : z09 false 1 b.cells 0 = some b.pv := rfl
  rw [hpv] at hpt
  by_cases hlt : i < zs.length
  · obtain ⟨_, rr, o, row, cs, rfl, hrn, hrow, hrl, hcs, ho, hseg⟩ := hvf.load (i := i) hlt
    have h1 : ((i : Int) < (zs.length : Int)) := by omega
    have hrw : row = [vi zs[i]] := by
      unfold ints at hrow
      rw [List.getElem?_map, List.getElem?_eq_getElem hlt] at hrow
      exact (Option.some.inj hrow).symm
    subst hrw
    have hel : z09 false 1 cs (o + i * 1) = some (vi zs[i]) := z2w (row := []) hseg
    have k85 := fun (h : Hp) (nx : Nat) (lo hi x : Int) => c85 hS (m := m) (h := h) (nx := nx) (by omega) lo hi x
    have hd : zs.drop i = zs[i] :: zs.drop (i + 1) := List.drop_eq_getElem_cons hlt
    rw [hd] at ec
    rcases Bool.eq_false_or_eq_true (inB next (b.P.length - 1) zs[i]) with hb | hb
    · left
      have hbb := z0u hb
      obtain ⟨x, hx⟩ : ∃ x : Nat, (x : Int) = zs[i] := ⟨zs[i].toNat, by omega⟩
      have hx7 : x < 7 := by omega
      have hst : storeAt 1 (hset G p5 (.cells (z08 f) none)) p5 (0 + x * 1) (.bool true) = .wr (hset G p5 (.cells (z08 fun k => if k = x then true else f k) none)) p5 := by
        unfold storeAt
        rw [z1c]
        simp only [cellsL, List.length_cons, List.length_nil, Nat.zero_add, Nat.mul_one, zbi f x hx7 true, z1k]
        rfl
      have hst' : storeAt 1 (hset G p5 (.cells (z08 f) none)) p5 (x * 1) (.bool true) = .wr (hset G p5 (.cells (z08 fun k => if k = x then true else f k) none)) p5 := by rwa [Nat.zero_add] at hst
      have hix : z6u 7 (.int .i64 (x : Int)) = some x := z8m 7 .i64 x hx7
      have hcl : z13 0 (b.P.length - 1) zs = z13 (zs[i] + 1) (b.P.length - 1) (zs.drop (i + 1)) := by rw [ec]; show (inB _ _ _ && _) = _; rw [hb]; rfl
      have hmem : ∀ k : Nat, ((k : Int) ∈ zs.take (i + 1)) ↔ ((k : Int) ∈ zs.take i ∨ k = x) := fun k => by
        rw [List.take_add_one, List.getElem?_eq_getElem hlt, Option.toList_some, List.mem_append, List.mem_singleton, ← hx]
        constructor
        · rintro (q | q)
          · exact .inl q
          · exact .inr (by omega)
        · rintro (q | q)
          · exact .inl q
          · exact .inr (by omega)
      rw [← hx] at hel hb hcl
      refine ⟨hlt, z', _, _, _, (by simp (maxSteps := 10000000) (disch := omega) only [zan, e2, e4, e5, e6, e9, e10, e11, h1, hcs, hel, hrf, hpt, k85, hb, storeO, hix, hst', z26, bz, z00, Nat.reduceEqDiff, Nat.reduceLT, Nat.reduceAdd, Nat.reduceMul, Int.reduceToNat]; exact rfl), by omega, rfl, rfl, ?_, ?_, ?_, ?_, ?_, ?_, _, _, rfl, (by simp only [pq, Nat.reduceEqDiff]), by omega, by omega, fun k hk => ?_, hcl⟩
      · simp only [pq, Nat.reduceEqDiff, e2]
      · simp only [pq, Nat.reduceEqDiff, e4]
      · simp only [pq, Nat.reduceEqDiff, e5]
      · simp only [pq, Nat.reduceEqDiff, e9, hil]
      · simp only [pq, Nat.reduceEqDiff, e10]
      · simp only [pq, Nat.reduceEqDiff]; rfl
      · by_cases hkx : k = x
        · simp [hkx, hmem]
        · simp [hkx, hmem, ef k hk]
    · right
      obtain ⟨C, hC⟩ := hr4
      have hst : storeAt 7 (hset G p5 (.cells (z08 f) none)) p4 0 (.agg #[.bool false, .bool false, .bool false, .bool false, .bool false, .bool false, .bool false]) = .wr (hset (hset G p5 (.cells (z08 f) none)) p4 (.cells (z08 fun _ => false) none)) p4 := by
        have := z5q (h := hset G p5 (.cells (z08 f) none)) (r := p4) (cs := z08 C) (l := z08 fun _ => false) (b := none) (by rw [z0l _ h45]; exact hC) rfl
        exact this
      have e : ∃ vs2, sC Tryz.prog 32 32 (z07 Tryz.prog vmL S m) zan z' vs' (hset G p5 (.cells (z08 f) none)) nx' = .ret z' vs2 (hset (hset G p5 (.cells (z08 f) none)) p4 (.cells (z08 fun _ => false) none)) nx' ∧ vs2 4 = some (pt p4) := by
        refine ⟨_, by simp (maxSteps := 10000000) (disch := omega) only [zan, e2, e4, e5, e6, e9, e10, e11, h1, hcs, hel, hrf, hpt, k85, hb, storeO, hst, z26, bm, z00, Nat.reduceEqDiff, Nat.reduceLT, Nat.reduceAdd, Nat.reduceMul, Int.reduceToNat]; exact rfl, ?_⟩
        simp only [pq, Nat.reduceEqDiff, e4]
      obtain ⟨vs2, e, q4⟩ := e
      rw [e]
      refine ⟨trivial, .inl ⟨?_, vs2, _, rfl, q4, z01 _ _⟩⟩
      rw [ec]
      show (inB _ _ _ && _) = _
      rw [hb]; rfl
  · right
    have h1 : ¬ ((i : Int) < (zs.length : Int)) := by omega
    have e : ∃ vs2, sC Tryz.prog 32 32 (z07 Tryz.prog vmL S m) zan z' vs' (hset G p5 (.cells (z08 f) none)) nx' = .exi 0 z' vs2 (hset G p5 (.cells (z08 f) none)) nx' ∧ vs2 4 = some (pt p4) ∧ vs2 5 = some (pt p5) := by
      refine ⟨_, by simp (maxSteps := 10000000) (disch := omega) only [zan, e2, e4, e5, e6, e9, e10, e11, h1, bz, z00, Nat.reduceEqDiff, Nat.reduceLT, Nat.reduceAdd, Nat.reduceMul, Int.reduceToNat]; exact rfl, ?_, ?_⟩
      · simp only [pg, Nat.reduceEqDiff, e4]
      · simp only [pg, Nat.reduceEqDiff, e5]
    obtain ⟨vs2, e, q4, q5⟩ := e
    rw [e]
    refine ⟨trivial, .inr ⟨?_, vs2, ?_, q4, q5⟩⟩
    · rw [ec, List.drop_of_length_le (by omega)]; rfl
    · rw [zbj (g := hasQ zs) fun k hk => (ef k hk).trans (by rw [List.take_of_length_le (by omega)]; rfl)]
def zgw (n : Nat) (zs : List Int) (k : Nat) : Bool := z13 0 (n - 1) zs && hasQ zs k
theorem c116 {S : Kn} (hS : S.Only [22]) {m : Nat} (hm : 2 ≤ m) {b : Bk} {h : Hp} {nx : Nat} (hb : b.At h nx) (h7 : b.P.length ≤ 7) {zs : List Int} {v : Value} (hl : zs.length ≤ 140737488355328) (hv : Lst h nx 1 v (ints zs)) : z06 116 [.agg b.cells.toArray, v] (z07 Tryz.prog vmL S m) h nx = .gen (.agg (z08 (zgw b.P.length zs)).toArray) h nx [] := by
  refine fun116.ground (hS _ _ _ _ (by decide)) (by omega) rfl (by simp) ?_
  obtain ⟨pa, pc, hpv, _⟩ := hb.p.form
  rw [List.length_map] at hpv
  obtain ⟨a, c, hve, _⟩ := hv.form
  have hil : (ints zs).length = zs.length := by simp [ints]
  rw [hil] at hve
  subst hve
  obtain ⟨G, eG⟩ : ∃ x, x = hset (hset h nx (.cells b.cells none)) (nx + 1) (.cells (z08 fun _ => false) none) := ⟨_, rfl⟩
  have hsm : ∀ f, Same nx h (hset G (nx + 1 + 1) (.cells (z08 f) none)) := fun f => by rw [eG]; exact (((Same.refl nx h).set (Nat.le_refl _) _).set (by omega) _).set (by omega) _
  have hrr : ∀ f, rowL (hset G (nx + 1 + 1) (.cells (z08 f) none)) nx = some b.cells := fun f => by
    rw [z0a _ (by omega), eG, z0a _ (by omega)]; exact z01 _ _
  simp (maxSteps := 10000000) (disch := omega) only [s116, z1j, noB, ← eG, bz, z00, Nat.reduceEqDiff, Nat.reduceLT, Nat.reduceAdd, Nat.reduceMul, Int.reduceToNat]
  generalize hr : z14 _ _ _ _ _ = r
  rcases zsa hS (m := m - 1) (by omega) (b := b) (p2 := nx) (p4 := nx + 1) (p5 := nx + 1 + 1) (G := G) hl h7 hpv (fun f => hv.same (hsm f) (by omega)) hrr (by show nx ≤ _; omega) (by show nx ≤ _; omega) (by omega) ⟨_, by rw [eG]; exact z1c _ _⟩ rfl rfl rfl rfl rfl rfl rfl hr with ⟨hc, vs', h', rfl, q4, qr⟩ | ⟨hc, vs', rfl, q4, q5⟩
  · have e : zgw b.P.length zs = fun _ => false := by funext k; unfold zgw; rw [hc]; rfl
    rw [e]
    exact ⟨_, _, by simp (maxSteps := 10000000) (disch := omega) only [q4, qr, zl1, bz, z00, Nat.reduceEqDiff, Nat.reduceLT, Nat.reduceAdd, Nat.reduceMul, Int.reduceToNat]; rfl⟩
  · have e : zgw b.P.length zs = hasQ zs := by funext k; unfold zgw; rw [hc]; rfl
    rw [e]
    have hst : storeAt 7 (hset G (nx + 1 + 1) (.cells (z08 (hasQ zs)) none)) (nx + 1) 0 (.agg (z08 (hasQ zs)).toArray) = .wr (hset (hset G (nx + 1 + 1) (.cells (z08 (hasQ zs)) none)) (nx + 1) (.cells (z08 (hasQ zs)) none)) (nx + 1) := by
      exact z5q (h := hset G (nx + 1 + 1) (.cells (z08 (hasQ zs)) none)) (r := nx + 1) (cs := z08 fun _ => false) (l := z08 (hasQ zs)) (b := none) (by rw [z0l _ (by omega), eG]; exact z1c _ _) rfl
    exact ⟨_, _, by simp (maxSteps := 10000000) (disch := omega) only [q4, q5, storeO, hst, zl1, bm, z00, Nat.reduceEqDiff, Nat.reduceLT, Nat.reduceAdd, Nat.reduceMul, Int.reduceToNat]; rfl⟩
theorem z4e {l : Int} : ∀ {zs : List Int} {a : Int}, z13 a l zs = true → ∀ x, x ∈ zs → a ≤ x ∧ x ≤ l := by
  intro zs
  induction zs with
  | nil => intro a _ x hx; cases hx
  | cons y zs ih =>
    intro a h x hx
    obtain ⟨h1, h2⟩ := Bool.and_eq_true_iff.1 (show (inB a l y && z13 (y + 1) l zs) = true from h)
    have := z0u h1
    rcases List.mem_cons.1 hx with rfl | hx
    · exact this
    · have := ih h2 x hx; omega
theorem zg1 {l : Int} : ∀ {zs : List Int} {a : Int}, z13 a l zs = true → (zs.length : Int) ≤ max 0 (l + 1 - a) := by
  intro zs
  induction zs with
  | nil => intro a _; simp; omega
  | cons y zs ih =>
    intro a h
    obtain ⟨h1, h2⟩ := Bool.and_eq_true_iff.1 (show (inB a l y && z13 (y + 1) l zs) = true from h)
    have := z0u h1
    have := ih h2
    rw [List.length_cons]
    omega
def z3n (zs : List Int) : List Nat := zs.map Int.toNat
theorem zi3 {zs : List Int} (h : ∀ x, x ∈ zs → 0 ≤ x) : nsI (z3n zs) = zs := by
  unfold nsI z3n
  rw [List.map_map]
  conv => rhs; rw [← List.map_id zs]
  exact List.map_congr_left fun x hx => Int.toNat_of_nonneg (h x hx)
structure Pa where
  kind : Int
  zs : List Int
  v : Value
def Pa.cells (p : Pa) : List Value := [vi p.kind, p.v]
structure Pa.At (p : Pa) (h : Hp) (nx : Nat) : Prop where
  l : Lst h nx 1 p.v (ints p.zs)
  n : p.zs.length ≤ 140737488355328
theorem Pa.At.same {p : Pa} {h h' : Hp} {nx nx' : Nat} (k : p.At h nx) (a : Same nx h h') (hn : nx ≤ nx') : p.At h' nx' := ⟨k.l.same a hn, k.n⟩
def isQ (b : Bk) (p : Pa) : Bool := inB 0 (b.K.length - 1) p.kind && (z13 0 (b.P.length - 1) p.zs && !p.zs.isEmpty)
def setQ (p : Pa) : Nat := setN (z3n p.zs)
def anyQ (f : Nat → Bool) : Bool := f 0 || (f 1 || (f 2 || (f 3 || (f 4 || (f 5 || f 6)))))
theorem zp6 (f : Nat → Bool) : anyQ f = true ↔ ∃ k, k < 7 ∧ f k = true := by
  unfold anyQ
  simp only [Bool.or_eq_true]
  constructor
  · rintro (h | h | h | h | h | h | h)
    · exact ⟨0, by omega, h⟩
    · exact ⟨1, by omega, h⟩
    · exact ⟨2, by omega, h⟩
    · exact ⟨3, by omega, h⟩
    · exact ⟨4, by omega, h⟩
    · exact ⟨5, by omega, h⟩
    · exact ⟨6, by omega, h⟩
  · rintro ⟨k, hk, h⟩
    have : k = 0 ∨ k = 1 ∨ k = 2 ∨ k = 3 ∨ k = 4 ∨ k = 5 ∨ k = 6 := by omega
    rcases this with rfl | rfl | rfl | rfl | rfl | rfl | rfl <;> simp [h]
theorem zp5 {n : Nat} (h7 : n ≤ 7) (zs : List Int) : anyQ (zgw n zs) = (z13 0 (n - 1) zs && !zs.isEmpty) := by
  rw [Bool.eq_iff_iff, zp6, Bool.and_eq_true]
  constructor
  · rintro ⟨k, hk, h⟩
    obtain ⟨h1, h2⟩ := Bool.and_eq_true_iff.1 h
    refine ⟨h1, ?_⟩
    cases zs with
    | nil => simp [hasQ] at h2
    | cons _ _ => rfl
  · rintro ⟨h1, h2⟩
    cases zs with
    | nil => simp at h2
    | cons x zs =>
      have := z4e h1 x List.mem_cons_self
      refine ⟨x.toNat, by omega, ?_⟩
      unfold zgw
      rw [h1]
      show hasQ _ _ = true
      unfold hasQ
      rw [Int.toNat_of_nonneg this.1]
      simp
def zgv (b : Bk) (p : Pa) : Value := .agg #[vi (bif isQ b p then p.kind else 0), vi (bif isQ b p then (setQ p : Int) else 0)]
theorem c84 {S : Kn} (hS : S.Only [22]) {m : Nat} (hm : 4 ≤ m) {b : Bk} {h : Hp} {nx : Nat} (hb : b.At h nx) (h7 : b.P.length ≤ 7) (h4 : b.K.length ≤ 4) {p : Pa} (hp : p.At h nx) : z06 84 [.agg b.cells.toArray, .agg p.cells.toArray] (z07 Tryz.prog vmL S m) h nx = .gen (zgv b p) h nx [] := by
  refine fun84.ground (hS _ _ _ _ (by decide)) (by omega) rfl (by simp) ?_
  obtain ⟨G, eG⟩ : ∃ x, x = hset (hset (hset h nx (.cells b.cells none)) (nx + 1) (.cells p.cells none)) (nx + 1 + 1) (.cells [vi 0, vi 0] none) := ⟨_, rfl⟩
  have hsm : Same nx h G := by rw [eG]; exact (((Same.refl nx h).set (Nat.le_refl _) _).set (by omega) _).set (by omega) _
  have hb' := hb.same hsm (nx' := nx + 1 + 1 + 1) (by omega)
  have hp' := hp.same hsm (nx' := nx + 1 + 1 + 1) (by omega)
  have k116 := c116 hS (m := m - 1) (by omega) hb' h7 hp'.n hp'.l
  have k85 := fun (h : Hp) (nx : Nat) (lo hi x : Int) => c85 hS (m := m - 1) (h := h) (nx := nx) (by omega) lo hi x
  have k115 := fun (h : Hp) (nx : Nat) => c115 hS (m := m - 1) (h := h) (nx := nx) (by omega) (b.K.length : Int) (by omega) (by omega)
  obtain ⟨ka, kc, hkv, _⟩ := hb.k.form
  rw [List.length_map] at hkv
  have hany := zp5 h7 p.zs
  unfold zgv isQ
  simp only [Bk.cells, Pa.cells, z08] at k116 eG
  unfold anyQ at hany
  rw [hkv] at k116 eG
  rw [eG] at k116
  rcases Bool.eq_false_or_eq_true (inB 0 (b.K.length - 1) p.kind) with h1 | h1
  · rcases Bool.eq_false_or_eq_true (z13 0 (b.P.length - 1) p.zs && !p.zs.isEmpty) with h2 | h2
    · rw [h1, h2]
      rw [h2] at hany
      have h3 := Bool.and_eq_true_iff.1 h2
      have hr := z4e h3.1
      have hz : nsI (z3n p.zs) = p.zs := zi3 fun x hx => (hr x hx).1
      have hp2 := hp'.l
      rw [← hz, eG] at hp2
      have k90 := c90 hS (m := m - 1) (by omega) (ns := z3n p.zs) (by
        have : (z3n p.zs).length = p.zs.length := by simp [z3n]
        have hl := zg1 h3.1
        omega) (fun n hn => by
          obtain ⟨x, hx, rfl⟩ := List.mem_map.1 hn
          have := hr x hx
          omega) hp2
      simp (maxSteps := 10000000) (disch := omega) only [s84, Bk.cells, Pa.cells, hkv, k85, k115, k116, k90, h1, zw0, hany, setQ, bz, z00, Nat.reduceEqDiff, Nat.reduceLT, Nat.reduceAdd, Nat.reduceMul, Int.reduceToNat]
      exact ⟨_, _, rfl⟩
    · rw [h1, h2]
      rw [h2] at hany
      simp (maxSteps := 10000000) (disch := omega) only [s84, Bk.cells, Pa.cells, hkv, k85, k115, k116, h1, zw0, hany, bz, z00, Nat.reduceEqDiff, Nat.reduceLT, Nat.reduceAdd, Nat.reduceMul, Int.reduceToNat]
      exact ⟨_, _, rfl⟩
  · rw [h1]
    simp (maxSteps := 10000000) (disch := omega) only [s84, Bk.cells, Pa.cells, hkv, k85, k115, h1, bz, z00, Nat.reduceEqDiff, Nat.reduceLT, Nat.reduceAdd, Nat.reduceMul, Int.reduceToNat]
    exact ⟨_, _, rfl⟩
theorem pA9 (x0 x1 x2 x3 x4 x5 x6 x7 x8 : Value) (l : List Value) : z09 true 9 (x0 :: x1 :: x2 :: x3 :: x4 :: x5 :: x6 :: x7 :: x8 :: l) 0 = some (.agg #[x0, x1, x2, x3, x4, x5, x6, x7, x8]) := rfl
def askL (b : Bk) (p : Pa) : List Value := b.cells ++ p.cells
theorem c55 {S : Kn} (hS : S.Only [22]) {m : Nat} (hm : 5 ≤ m) {b : Bk} {h : Hp} {nx : Nat} (hb : b.At h nx) (h7 : b.P.length ≤ 7) (h4 : b.K.length ≤ 4) {p : Pa} (hp : p.At h nx) : z06 55 [.agg (askL b p).toArray] (z07 Tryz.prog vmL S m) h nx = .gen (zgv b p) h nx [] := by
  refine fun55.ground (hS _ _ _ _ (by decide)) (by omega) rfl (by simp) ?_
  obtain ⟨G, eG⟩ : ∃ x, x = hset (hset h nx (.cells (askL b p) none)) (nx + 1) (.cells [vi 0, vi 0] none) := ⟨_, rfl⟩
  have hsm : Same nx h G := by rw [eG]; exact ((Same.refl nx h).set (Nat.le_refl _) _).set (by omega) _
  have k84 := c84 hS (m := m - 1) (by omega) (hb.same hsm (nx' := nx + 1 + 1) (by omega)) h7 h4 (hp.same hsm (nx' := nx + 1 + 1) (by omega))
  simp only [eG, askL, Bk.cells, Pa.cells, List.cons_append, List.nil_append] at k84
  unfold zgv at k84 ⊢
  simp (maxSteps := 10000000) (disch := omega) only [s55, askL, Bk.cells, Pa.cells, List.cons_append, List.nil_append, k84, pA9, bz, z00, Nat.reduceEqDiff, Nat.reduceLT, Nat.reduceAdd, Nat.reduceMul, Int.reduceToNat]
  exact ⟨_, _, rfl⟩
theorem znz {b : Bk} {p : Pa} (h : isQ b p = true) : 0 < setQ p := by
  unfold isQ at h
  have h3 := Bool.and_eq_true_iff.1 (Bool.and_eq_true_iff.1 h).2
  cases hz : p.zs with
  | nil => rw [hz] at h3; simp at h3
  | cons x zs =>
    have : (setQ p).testBit x.toNat = true := by
      unfold setQ z3n
      rw [zda, hz]
      simp
    exact Nat.pos_of_ne_zero fun q => by rw [q] at this; simp at this
theorem zdm {b : Bk} {p : Pa} (h : isQ b p = true) : 0 ≤ p.kind ∧ p.kind < b.K.length := by
  unfold isQ at h
  have := z0u (Bool.and_eq_true_iff.1 h).1
  omega
theorem zgb {b : Bk} {p : Pa} (h7 : b.P.length ≤ 7) (h : isQ b p = true) : setQ p < 4611686018427387904 := by
  unfold isQ at h
  have h3 := Bool.and_eq_true_iff.1 (Bool.and_eq_true_iff.1 h).2
  have hr := z4e h3.1
  have := zgc (ns := z3n p.zs) (fun n hn => by
    obtain ⟨x, hx, rfl⟩ := List.mem_map.1 hn
    have := hr x hx
    omega)
  unfold setQ
  omega
theorem c53 {S : Kn} (hS : S.Only [22]) {m : Nat} (hm : 6 ≤ m) {b : Bk} {h : Hp} {nx : Nat} (hb : b.At h nx) (h7 : b.P.length ≤ 7) (h4 : b.K.length ≤ 4) {p : Pa} (hp : p.At h nx) : z06 53 [.agg (askL b p).toArray] (z07 Tryz.prog vmL S m) h nx = .gen (.bool (isQ b p)) h nx [] := by
  refine fun53.ground (hS _ _ _ _ (by decide)) (by omega) rfl (by simp) ?_
  obtain ⟨G, eG⟩ : ∃ x, x = hset h nx (.cells (askL b p) none) := ⟨_, rfl⟩
  have hsm : Same nx h G := by rw [eG]; exact (Same.refl nx h).set (Nat.le_refl _) _
  have k55 := c55 hS (m := m - 1) (by omega) (hb.same hsm (nx' := nx + 1) (by omega)) h7 h4 (hp.same hsm (nx' := nx + 1) (by omega))
  simp only [eG, askL, Bk.cells, Pa.cells, List.cons_append, List.nil_append] at k55
  unfold zgv at k55
  rcases Bool.eq_false_or_eq_true (isQ b p) with hq | hq
  · rw [hq] at k55 ⊢
    have hs := znz hq
    obtain ⟨k, hk⟩ : ∃ k : Nat, (k : Int) = p.kind := ⟨p.kind.toNat, by have := zdm hq; omega⟩
    simp only [← hk, cond_true] at k55
    have hn := zwb k (setQ p) hs
    simp (maxSteps := 10000000) (disch := omega) only [s53, askL, Bk.cells, Pa.cells, ← hk, List.cons_append, List.nil_append, k55, hn, pA9, bz, z00, Nat.reduceEqDiff, Nat.reduceLT, Nat.reduceAdd, Nat.reduceMul, Int.reduceToNat]
    exact ⟨_, _, rfl⟩
  · rw [hq] at k55 ⊢
    simp only [cond_false] at k55
    simp (maxSteps := 10000000) (disch := omega) only [s53, askL, Bk.cells, Pa.cells, List.cons_append, List.nil_append, k55, zu8, pA9, bz, z00, Nat.reduceEqDiff, Nat.reduceLT, Nat.reduceAdd, Nat.reduceMul, Int.reduceToNat]
    exact ⟨_, _, rfl⟩
theorem c59 {S : Kn} (hS : S.Only [22]) {m : Nat} (hm : 2 ≤ m) {h : Hp} {nx : Nat} (hn : 1 ≤ nx) (hl : rowL h 0 = some limL) (x : Int) : z06 59 [vi x] (z07 Tryz.prog vmL S m) h nx = .gen (.bool (inB 0 4 x)) h nx [] := by
  refine fun59.ground (hS _ _ _ _ (by decide)) (by omega) rfl (by simp) ?_
  have k85 := fun (h : Hp) (nx : Nat) (lo hi x : Int) => c85 hS (m := m - 1) (h := h) (nx := nx) (by omega) lo hi x
  simp (maxSteps := 10000000) (disch := omega) only [s59, k85, hl, pA9, bz, z00, Nat.reduceEqDiff, Nat.reduceLT, Nat.reduceAdd, Nat.reduceMul, Int.reduceToNat]
  exact ⟨_, _, rfl⟩
theorem zi4 {h : Hp} {nx sz : Nat} : Lst h nx sz (.slice none 0 0) [] := ⟨none, 0, rfl, fun i row hi => by simp at hi⟩
theorem c15 {S : Kn} (hS : S.Only [22]) {m : Nat} (hm : 14 ≤ m) {b : Bk} {h : Hp} {nx : Nat} (hb : b.At h nx) : z06 15 [.agg b.cells.toArray] (z07 Tryz.prog vmL S m) h nx = .gen (vi (z2e b.valid true)) h nx [] := by
  refine fun15.ground (hS _ _ _ _ (by decide)) (by omega) rfl (by simp) ?_
  obtain ⟨G, eG⟩ : ∃ x, x = hset h nx (.cells b.cells none) := ⟨_, rfl⟩
  have hsm : Same nx h G := by rw [eG]; exact (Same.refl nx h).set (Nat.le_refl _) _
  have k52 := c52 hS (m := m - 1) (by omega) (hb.same hsm (nx' := nx + 1) (by omega)) (F := []) (by simp) zi4 (fun _ f hf => by cases hf)
  rw [show ([] : List Fu).all Fu.y = true from rfl] at k52
  simp only [eG, Bk.cells] at k52
  simp (maxSteps := 10000000) (disch := omega) only [s15, Bk.cells, k52, pA9, bz, z00, Nat.reduceEqDiff, Nat.reduceLT, Nat.reduceAdd, Nat.reduceMul, Int.reduceToNat]
  exact ⟨_, _, rfl⟩
def fitQ (b : Bk) (p : Pa) : Bool := match b.K[p.kind.toNat]? with
  | some k => z8p b.P (setQ p).testBit k
  | none => false
def zjf (b : Bk) (p : Pa) (zone : Nat) : Int := match b.K[p.kind.toNat]? with
  | some k => k.zs.getD zone 0 + z2i b (setQ p).testBit k + z3z b (setQ p).testBit
  | none => 0
theorem zaf {h : Hp} {r nx : Nat} {l : List Value} (hr : r < nx) (hc : rowL h r = some l) : Lst h nx 1 (.slice (some ⟨r, 0, none⟩) l.length l.length) (l.map fun x => [x]) := by
  refine ⟨_, _, by rw [List.length_map], fun i row hi => ?_⟩
  rw [List.getElem?_map] at hi
  cases hx : l[i]? with
  | none => rw [hx] at hi; cases hi
  | some x =>
    rw [hx] at hi
    cases hi
    have hlt := (List.getElem?_eq_some_iff.1 hx).1
    refine ⟨rfl, r, 0, l, rfl, hr, hc, by omega, ?_⟩
    rw [Nat.zero_add, Nat.mul_one, List.drop_eq_getElem_cons hlt]
    rw [List.getElem?_eq_getElem hlt] at hx
    cases hx
    rfl
theorem z27 : z2e true true = 0 := rfl
theorem zbc : z2e true false = 61 := rfl
theorem z20 (x : Bool) : z2e false x = 60 := rfl
theorem c13 {S : Kn} (hS : S.Only [22]) {m : Nat} (hm : 15 ≤ m) {b : Bk} {h : Hp} {nx : Nat} (hb : b.At h nx) {p : Pa} (hp : p.At h nx) : z06 13 [.agg b.cells.toArray, .agg p.cells.toArray] (z07 Tryz.prog vmL S m) h nx = .gen (.tuple #[.bool (b.valid && (isQ b p && fitQ b p)), vi (z2e b.valid (isQ b p))]) h nx [] := by
  refine fun13.ground (hS _ _ _ _ (by decide)) (by omega) rfl (by simp) ?_
  obtain ⟨h3, eh3⟩ : ∃ x, x = hset (hset (hset h nx (.cells b.cells none)) (nx + 1) (.cells p.cells none)) (nx + 1 + 1) (.cells (askL b p) none) := ⟨_, rfl⟩
  obtain ⟨h4, eh4⟩ : ∃ x, x = hset h3 (nx + 1 + 1 + 1) (.cells [.func (.func 53) #[.agg (askL b p).toArray] #[]] none) := ⟨_, rfl⟩
  have hsm : Same nx h h4 := by rw [eh4, eh3]; exact ((((Same.refl nx h).set (Nat.le_refl _) _).set (by omega) _).set (by omega) _).set (by omega) _
  have hb' := hb.same hsm (nx' := nx + 1 + 1 + 1 + 1) (by omega)
  have hp' := hp.same hsm (nx' := nx + 1 + 1 + 1 + 1) (by omega)
  have hrow : rowL h4 (nx + 1 + 1 + 1) = some [.func (.func 53) #[.agg (askL b p).toArray] #[]] := by rw [eh4]; exact z01 _ _
  have k52 := c52 hS (m := m - 1) (by omega) hb' (F := [⟨53, [.agg (askL b p).toArray], [], isQ b p⟩]) (by simp) (zaf (by omega) hrow) (fun hv f hf h' nx' hn hs => by
    have hf' : f = ⟨53, [.agg (askL b p).toArray], [], isQ b p⟩ := by simpa using hf
    subst hf'
    have hF := Bk.fine hv
    exact c53 hS (by omega) (hb'.same hs hn) hF.p7 hF.k4 (hp'.same hs hn))
  rw [show ([⟨53, [.agg (askL b p).toArray], [], isQ b p⟩] : List Fu).all Fu.y = isQ b p from Bool.and_true _] at k52
  rcases Bool.eq_false_or_eq_true b.valid with hv | hv
  · have hF := Bk.fine hv
    rcases Bool.eq_false_or_eq_true (isQ b p) with hq | hq
    · rw [hv, hq, z27] at k52 ⊢
      have k55 := c55 hS (m := m - 1) (by omega) hb' hF.p7 hF.k4 hp'
      unfold zgv at k55
      rw [hq] at k55
      simp only [cond_true] at k55
      have hk := zdm hq
      obtain ⟨k, ek⟩ : ∃ k : Nat, (k : Int) = p.kind := ⟨p.kind.toNat, by omega⟩
      have hkl : k < b.K.length := by omega
      have k54 := c54 hS (m := m - 1) (by omega) hb' hF (setQ p) (zgb hF.p7 hq) hkl
      have hfit : fitQ b p = z8p b.P (setQ p).testBit b.K[k] := by
        unfold fitQ
        rw [← ek, Int.toNat_natCast, List.getElem?_eq_getElem hkl]
      rw [← ek] at k55
      rw [← hfit] at k54
      simp only [eh4, eh3, askL, Bk.cells, Pa.cells, List.cons_append, List.nil_append, ← ek, List.length_cons, List.length_nil, Nat.zero_add] at k52 k54 k55
      simp (maxSteps := 10000000) (implicitDefEqProofs := false) (disch := omega) only [s13, askL, Bk.cells, Pa.cells, ← ek, List.cons_append, List.nil_append, k52, k54, k55, z1k, pA9, z26, storeO, bz, z00, Nat.reduceEqDiff, Nat.reduceLT, Nat.reduceAdd, Nat.reduceMul, Int.reduceToNat]
      exact ⟨_, _, rfl⟩
    · rw [hv, hq, zbc] at k52 ⊢
      simp only [eh4, eh3, askL, Bk.cells, Pa.cells, List.cons_append, List.nil_append, List.length_cons, List.length_nil, Nat.zero_add] at k52
      simp (maxSteps := 10000000) (implicitDefEqProofs := false) (disch := omega) only [s13, askL, Bk.cells, Pa.cells, List.cons_append, List.nil_append, k52, z1k, pA9, z26, storeO, show ((61 : Int) == 0) = false from rfl, bz, z00, Nat.reduceEqDiff, Nat.reduceLT, Nat.reduceAdd, Nat.reduceMul, Int.reduceToNat]
      exact ⟨_, _, rfl⟩
  · rw [hv, z20] at k52 ⊢
    simp only [eh4, eh3, askL, Bk.cells, Pa.cells, List.cons_append, List.nil_append, List.length_cons, List.length_nil, Nat.zero_add] at k52
    simp (maxSteps := 10000000) (implicitDefEqProofs := false) (disch := omega) only [s13, askL, Bk.cells, Pa.cells, List.cons_append, List.nil_append, k52, z1k, pA9, z26, storeO, show ((60 : Int) == 0) = false from rfl, bz, z00, Nat.reduceEqDiff, Nat.reduceLT, Nat.reduceAdd, Nat.reduceMul, Int.reduceToNat]
    exact ⟨_, _, rfl⟩
def z4s (b : Bk) (p : Pa) (zone : Int) : Bool := isQ b p && inB 0 4 zone
def zkx (b : Bk) (p : Pa) (zone : Int) : Int := if b.valid && z4s b p zone then (if fitQ b p then 0 else 4) else z2e b.valid (z4s b p zone)
def zkw (b : Bk) (p : Pa) (zone : Int) : Int := if b.valid && (z4s b p zone && fitQ b p) then zjf b p zone.toNat else 0
theorem c17 {S : Kn} (hS : S.Only [22]) {m : Nat} (hm : 15 ≤ m) {b : Bk} {h : Hp} {nx : Nat} (hb : b.At h nx) {p : Pa} (hp : p.At h nx) (zone : Int) : z06 17 [.agg b.cells.toArray, .agg p.cells.toArray, vi zone] (z07 Tryz.prog vmL S m) h nx = .gen (.tuple #[vi (zkw b p zone), vi (zkx b p zone)]) h nx [] := by
  refine fun17.ground (hS _ _ _ _ (by decide)) (by omega) rfl (by simp) ?_
  obtain ⟨h3, eh3⟩ : ∃ x, x = hset (hset (hset h nx (.cells b.cells none)) (nx + 1) (.cells p.cells none)) (nx + 1 + 1) (.cells (askL b p) none) := ⟨_, rfl⟩
  obtain ⟨h4, eh4⟩ : ∃ x, x = hset h3 (nx + 1 + 1 + 1) (.cells [.func (.func 53) #[.agg (askL b p).toArray] #[], .func (.func 59) #[vi zone] #[]] none) := ⟨_, rfl⟩
  have hsm : Same nx h h4 := by rw [eh4, eh3]; exact ((((Same.refl nx h).set (Nat.le_refl _) _).set (by omega) _).set (by omega) _).set (by omega) _
  have hb' := hb.same hsm (nx' := nx + 1 + 1 + 1 + 1) (by omega)
  have hp' := hp.same hsm (nx' := nx + 1 + 1 + 1 + 1) (by omega)
  have hrow : rowL h4 (nx + 1 + 1 + 1) = some [.func (.func 53) #[.agg (askL b p).toArray] #[], .func (.func 59) #[vi zone] #[]] := by rw [eh4]; exact z01 _ _
  have k52 := c52 hS (m := m - 1) (by omega) hb' (F := [⟨53, [.agg (askL b p).toArray], [], isQ b p⟩, ⟨59, [vi zone], [], inB 0 4 zone⟩]) (by simp) (zaf (by omega) hrow) (fun hv f hf h' nx' hn hs => by
    have hF := Bk.fine hv
    rcases List.mem_cons.1 hf with rfl | hf
    · exact c53 hS (by omega) (hb'.same hs hn) hF.p7 hF.k4 (hp'.same hs hn)
    · have hf' : f = ⟨59, [vi zone], [], inB 0 4 zone⟩ := by simpa using hf
      subst hf'
      exact c59 hS (by omega) (by omega) (hb'.same hs hn).lim zone)
  have ea : ([⟨53, [.agg (askL b p).toArray], [], isQ b p⟩, ⟨59, [vi zone], [], inB 0 4 zone⟩] : List Fu).all Fu.y = z4s b p zone := by
    show (isQ b p && (inB 0 4 zone && true)) = _
    rw [Bool.and_true]; rfl
  rw [ea] at k52
  unfold zkx zkw
  rcases Bool.eq_false_or_eq_true b.valid with hv | hv
  · have hF := Bk.fine hv
    rcases Bool.eq_false_or_eq_true (z4s b p zone) with hq0 | hq0
    · obtain ⟨hq, hzn⟩ := Bool.and_eq_true_iff.1 hq0
      rw [hv, hq0, z27] at k52
      rw [hv, hq0]
      have k55 := c55 hS (m := m - 1) (by omega) hb' hF.p7 hF.k4 hp'
      unfold zgv at k55
      rw [hq] at k55
      simp only [cond_true] at k55
      have hk := zdm hq
      obtain ⟨k, ek⟩ : ∃ k : Nat, (k : Int) = p.kind := ⟨p.kind.toNat, by omega⟩
      have hzz := z0u hzn
      obtain ⟨zn, ez⟩ : ∃ k : Nat, (k : Int) = zone := ⟨zone.toNat, by omega⟩
      have hkl : k < b.K.length := by omega
      have hzl : zn < b.K[k].zs.length := by have := (hF.kind hkl).z; omega
      have k54 := c54 hS (m := m - 1) (by omega) hb' hF (setQ p) (zgb hF.p7 hq) hkl
      have k60 := c60 hS (m := m - 1) (by omega) hb' hF (setQ p) (zgb hF.p7 hq) hkl zn hzl
      have hfit : fitQ b p = z8p b.P (setQ p).testBit b.K[k] := by
        unfold fitQ
        rw [← ek, Int.toNat_natCast, List.getElem?_eq_getElem hkl]
      have hcost : zjf b p zone.toNat = b.K[k].zs[zn] + z2i b (setQ p).testBit b.K[k] + z3z b (setQ p).testBit := by
        unfold zjf
        rw [← ek, Int.toNat_natCast, List.getElem?_eq_getElem hkl, ← ez, Int.toNat_natCast]
        simp only [List.getD_eq_getElem?_getD, List.getElem?_eq_getElem hzl, Option.getD_some]
      rw [← ek] at k55
      rw [← hfit] at k54
      rw [← hcost] at k60
      subst ez
      simp only [eh4, eh3, askL, Bk.cells, Pa.cells, List.cons_append, List.nil_append, ← ek, List.length_cons, List.length_nil, Nat.zero_add, Nat.reduceAdd] at k52 k54 k55 k60
      generalize fitQ b p = ft at k54 ⊢
      generalize zjf b p _ = ct at k60 ⊢
      cases ft <;> simp (maxSteps := 10000000) (implicitDefEqProofs := false) (disch := omega) only [s17, askL, Bk.cells, Pa.cells, ← ek, List.cons_append, List.nil_append, k52, k54, k55, k60, z1k, pA9, z26, storeO, bz, z00, Nat.reduceEqDiff, Nat.reduceLT, Nat.reduceAdd, Nat.reduceMul, Int.reduceToNat] <;> exact ⟨_, _, rfl⟩
    · rw [hv, hq0, zbc] at k52
      rw [hv, hq0, zbc]
      simp only [eh4, eh3, askL, Bk.cells, Pa.cells, List.cons_append, List.nil_append, List.length_cons, List.length_nil, Nat.zero_add, Nat.reduceAdd] at k52
      simp (maxSteps := 10000000) (implicitDefEqProofs := false) (disch := omega) only [s17, askL, Bk.cells, Pa.cells, List.cons_append, List.nil_append, k52, z1k, pA9, z26, storeO, show ((61 : Int) == 0) = false from rfl, bz, z00, Nat.reduceEqDiff, Nat.reduceLT, Nat.reduceAdd, Nat.reduceMul, Int.reduceToNat]
      exact ⟨_, _, rfl⟩
  · rw [hv, z20] at k52
    rw [hv, z20]
    simp only [eh4, eh3, askL, Bk.cells, Pa.cells, List.cons_append, List.nil_append, List.length_cons, List.length_nil, Nat.zero_add, Nat.reduceAdd] at k52
    simp (maxSteps := 10000000) (implicitDefEqProofs := false) (disch := omega) only [s17, askL, Bk.cells, Pa.cells, List.cons_append, List.nil_append, k52, z1k, pA9, z26, storeO, show ((60 : Int) == 0) = false from rfl, bz, z00, Nat.reduceEqDiff, Nat.reduceLT, Nat.reduceAdd, Nat.reduceMul, Int.reduceToNat]
    exact ⟨_, _, rfl⟩
end Go.Proofs.YtcmkngajdckndaaGreatDoor
namespace Go
namespace Lm
variable {P : Program} {nvs : List (Nat × Nat)}
structure OwnL (h : Hp) (n0 nx sz : Nat) (v : Value) (cells : List Value) : Prop where
  is : (cells = [] ∧ v = .slice none 0 0) ∨ (∃ r len, n0 ≤ r ∧ r < nx ∧ v = .slice (some ⟨r, 0, none⟩) len SENT ∧ hget h r = some (.cells cells (some sz)) ∧ cells.length = len * sz ∧ 0 < len)
theorem OwnL.nil {h : Hp} {n0 nx sz : Nat} : OwnL h n0 nx sz (.slice none 0 0) [] := ⟨.inl ⟨rfl, rfl⟩⟩
theorem OwnL.app {h : Hp} {n0 nx sz k : Nat} {v x : Value} {cells new : List Value} (a : OwnL h n0 nx sz v cells) (hn : n0 ≤ nx) (hx : z2h h sz x = some (1, new)) (hl : new.length = sz) (hsz : 0 < sz) (hk : cells.length = k * sz) (hk2 : k + 1 ≤ 65536) :
    ∃ v' h' M, appO h nx (some sz) (some v) (some x) = .gen v' h' (nx + 1) M ∧ (∀ z : Z, z.n0 ≤ n0 → logZ z M = z) ∧ OwnL h' n0 (nx + 1) sz v' (cells ++ new) ∧ (∀ s, s < n0 → hget h' s = hget h s) ∧ (∀ s, (∀ r len, v = .slice (some ⟨r, 0, none⟩) len SENT → s ≠ r) → s ≠ nx → hget h' s = hget h s) := by
  rcases a.is with ⟨rfl, rfl⟩ | ⟨r, len, hr0, hrn, rfl, hg, hlen, hpos⟩
  · refine ⟨_, hset h nx (.cells new (some sz)), [], ?_, fun z _ => rfl, ⟨.inr ⟨nx, 1, hn, by omega, rfl, z1c _ _, by simp [hl], by omega⟩⟩, fun s hs => z0l _ (by omega), fun s _ hs => z0l _ hs⟩
    unfold appO
    simp only [hx, z5r]
    show z9k h nx sz (.slice none 0 0) 1 new = _
    unfold z9k z9g z4f
    rfl
  · have hkl : len = k := by
      rw [hlen] at hk
      exact Nat.eq_of_mul_eq_mul_right hsz hk
    subst hkl
    refine ⟨.slice (some ⟨nx, 0, none⟩) (len + 1) SENT, hset (hset h r .dead) nx (.cells (cells ++ new) (some sz)), [r], ?_, fun z hz => z26 _ _ (by omega), ⟨.inr ⟨nx, len + 1, hn, by omega, rfl, z1c _ _, by rw [List.length_append, hlen, hl, Nat.succ_mul], by omega⟩⟩, fun s hs => ?_, fun s hs hs2 => ?_⟩
    · unfold appO
      simp only [hx, z5r]
      show z9k h nx sz (.slice (some ⟨r, 0, none⟩) len SENT) 1 new = _
      unfold z9k
      simp only [hg, z0h]
      unfold z9g
      have e1 : Nat.ble (Nat.add len 1) 65536 = true := by rw [z1b]; simpa using hk2
      have e2 : Nat.blt SENT HALF = false := rfl
      have e3 : Nat.beq (Nat.mul len sz) cells.length = true := by rw [hlen]; exact z8a _
      have e4 : szOk (some sz) sz = true := z8a _
      have e5 : Nat.beq SENT SENT = true := z8a _
      have e6 : Nat.beq 0 0 = true := rfl
      rw [e1, e2, e3, e4, e5, e6]
      rfl
    · rw [z0l _ (by omega), z0l _ (by omega)]
    · rw [z0l _ hs2, z0l _ (hs r len rfl)]
theorem OwnL.same {h h' : Hp} {n0 nx nx' sz : Nat} {v : Value} {cells : List Value} (a : OwnL h n0 nx sz v cells) (hn : nx ≤ nx') (hs : ∀ r len, v = .slice (some ⟨r, 0, none⟩) len SENT → hget h' r = hget h r) : OwnL h' n0 nx' sz v cells := by
  rcases a.is with ⟨rfl, rfl⟩ | ⟨r, len, h1, h2, rfl, h4, h5, h6⟩
  · exact .nil
  · exact ⟨.inr ⟨r, len, h1, by omega, rfl, by rw [hs r len rfl]; exact h4, h5, h6⟩⟩
theorem OwnL.cut {h : Hp} {n0 nx sz k : Nat} {v : Value} {cells : List Value} (a : OwnL h n0 nx sz v cells) (hk : cells.length = k * sz) (hsz : 0 < sz) (hk2 : k ≤ 65536) :
    (cells = [] ∧ k = 0 ∧ v = .slice none 0 0 ∧ z6z sz (some v) (some (.int .i64 ((k : Nat) : Int))) (some (.int .i64 ((k : Nat) : Int))) = some (.slice none 0 0)) ∨ (∃ r, n0 ≤ r ∧ r < nx ∧ v = .slice (some ⟨r, 0, none⟩) k SENT ∧ hget h r = some (.cells cells (some sz)) ∧ z6z sz (some v) (some (.int .i64 ((k : Nat) : Int))) (some (.int .i64 ((k : Nat) : Int))) = some (.slice (some ⟨r, 0, none⟩) k k)) := by
  rcases a.is with ⟨rfl, rfl⟩ | ⟨r, len, hr0, hrn, rfl, hg, hlen, hpos⟩
  · left
    have : k = 0 := by
      rcases Nat.eq_zero_or_pos k with q | q
      · exact q
      · have := Nat.mul_pos q hsz; simp at hk; omega
    subst this
    exact ⟨rfl, rfl, rfl, rfl⟩
  · right
    have hkl : len = k := by
      rw [hlen] at hk
      exact Nat.eq_of_mul_eq_mul_right hsz hk
    subst hkl
    refine ⟨r, hr0, hrn, rfl, hg, ?_⟩
    unfold z6z z3l
    have e2 : Nat.blt SENT HALF = false := rfl
    have e3 : Nat.blt len HALF = true := by rw [z0c]; have : (65536 : Nat) < HALF := by decide
                                            simp; omega
    simp only [e2]
    have b1 : z1t len (some (.int .i64 ((len : Nat) : Int))) 0 = some len := by
      show (Bool.rec none (some len) (Nat.ble len len) : Option Nat) = _
      rw [z1b]
      simp
    have b0 : z1t len none 0 = some 0 := rfl
    rw [b1]
    simp only
    rw [b1]
    simp only [b0]
    show (Bool.rec none (mkSl sz r 0 0 len len) (Nat.blt len HALF) : Option Value) = _
    rw [e3]
    unfold mkSl
    simp only [z0h]
    have e5 : Nat.add 0 (Nat.mul 0 sz) = 0 := by show 0 + 0 * sz = 0; omega
    rw [e5]
    cases Nat.beq len 0 <;> rfl
structure NewL (h : Hp) (nx : Nat) (h' : Hp) (nx' sz : Nat) (u : Value) (cells : List Value) : Prop where
  is : (cells = [] ∧ u = .slice none 0 0 ∧ h' = h ∧ nx' = nx) ∨ (∃ n c b, u = .slice (some ⟨nx, 0, none⟩) n c ∧ h' = hset h nx (.cells cells b) ∧ nx' = nx + 1 ∧ cells.length = n * sz ∧ 0 < n)
theorem NewL.keep {h h' : Hp} {nx nx' sz : Nat} {u : Value} {cells : List Value} (a : NewL h nx h' nx' sz u cells) : nx ≤ nx' ∧ Same nx h h' := by
  rcases a.is with ⟨_, _, rfl, rfl⟩ | ⟨n, c, b, _, rfl, rfl, _, _⟩
  · exact ⟨Nat.le_refl _, Same.refl _ _⟩
  · exact ⟨by omega, (Same.refl nx h).set (Nat.le_refl _) _⟩
def zhj (n0 : Nat) (h1 : Hp) (sz : Nat) (v : Value) (cells : List Value) : Prop := (cells = [] ∧ v = .slice none 0 0) ∨ (∃ r n c b, n0 ≤ r ∧ v = .slice (some ⟨r, 0, none⟩) n c ∧ hget h1 r = some (.cells cells b) ∧ cells.length = n * sz ∧ 0 < n)
theorem Fun.list {f : FuncId} {n : Nat} {rs : List ResultVar} {s : SC} (F : Fun P nvs f n rs s) {S : Kn} {m : Nat} {us : List Value} {h : Hp} {nx sz : Nat} {cells : List Value} (hn : S f us h nx = none) (hm : 1 ≤ m) (ha : us.length ≤ n) (hf : z0m flat cells = true)
    (hx : ∃ v h1 n1, zhj nx h1 sz v cells ∧ z9i P n rs (sC P n n (z07 P nvs S (m - 1)) s ⟨nx, none, [], []⟩ (enum us 0) h nx) = .val v h1 n1 []) :
    ∃ u h' nx', z06 f us (z07 P nvs S m) h nx = .gen u h' nx' [] ∧ NewL h nx h' nx' sz u cells := by
  obtain ⟨v, h1, n1, ho, hx⟩ := hx
  rcases ho with ⟨rfl, rfl⟩ | ⟨r, k, c, b, hr, rfl, hg, hl, hp⟩
  · exact ⟨_, _, _, F.ground hn hm rfl ha ⟨h1, n1, hx⟩, ⟨.inl ⟨rfl, rfl, rfl, rfl⟩⟩⟩
  · exact ⟨_, _, _, F.fresh hn hm ha hf ⟨h1, n1, r, hr, hg, hx⟩, ⟨.inr ⟨k, c, b, rfl, rfl, rfl, hl, hp⟩⟩⟩
theorem zov {h1 h : Hp} {nx r n c : Nat} {cs : List Value} {b : Option Nat} {y : Value} (hy : flat y = true) (hr : nx ≤ r) (hc : hget h1 r = some (.cells cs b)) (hf : z0m flat cs = true) :
    cmp3 h1 nx (.tuple #[.slice (some ⟨r, 0, none⟩) n c, y]) ⟨h, nx, []⟩ = some (.tuple #[.slice (some ⟨nx, 0, none⟩) n c, y], ⟨hset h nx (.cells cs b), nx + 1, [r]⟩) := by
  have e1 : cmp2 h1 nx (.slice (some ⟨r, 0, none⟩) n c) ⟨h, nx, []⟩ = some (.slice (some ⟨nx, 0, none⟩) n c, ⟨hset h nx (.cells cs b), nx + 1, [r]⟩) := zcx hr hc hf
  have e2 : ∀ s : CS, cmp2 h1 nx y s = some (y, s) := by
    intro s
    cases y with
    | agg _ => cases hy
    | tuple _ => cases hy
    | slice a _ _ => cases a with
      | none => rfl
      | some a => cases hy
    | pointer a => cases a with
      | none => rfl
      | some a => cases hy
    | map a => cases a with
      | none => rfl
      | some a => cases hy
    | _ => first | rfl | cases hy
  show (match cmpL (cmp2 h1 nx) [.slice (some ⟨r, 0, none⟩) n c, y] ⟨h, nx, []⟩ with | some (l, s) => some (Value.tuple l.toArray, s) | none => none) = _
  unfold cmpL
  rw [e1]
  simp only
  unfold cmpL
  rw [e2]
  rfl
theorem Fun.listT {f : FuncId} {n : Nat} {rs : List ResultVar} {s : SC} (F : Fun P nvs f n rs s) {S : Kn} {m : Nat} {us : List Value} {h : Hp} {nx sz : Nat} {cells : List Value} {y : Value} (hy : flat y = true) (hn : S f us h nx = none) (hm : 1 ≤ m) (ha : us.length ≤ n) (hf : z0m flat cells = true)
    (hx : ∃ v h1 n1, zhj nx h1 sz v cells ∧ z9i P n rs (sC P n n (z07 P nvs S (m - 1)) s ⟨nx, none, [], []⟩ (enum us 0) h nx) = .val (.tuple #[v, y]) h1 n1 []) :
    ∃ u h' nx', z06 f us (z07 P nvs S m) h nx = .gen (.tuple #[u, y]) h' nx' [] ∧ NewL h nx h' nx' sz u cells := by
  obtain ⟨v, h1, n1, ho, hx⟩ := hx
  rcases ho with ⟨rfl, rfl⟩ | ⟨r, k, c, b, hr, rfl, hg, hl, hp⟩
  · refine ⟨_, _, _, F.ground hn hm ?_ ha ⟨h1, n1, hx⟩, ⟨.inl ⟨rfl, rfl, rfl, rfl⟩⟩⟩
    show z0m flat [.slice none 0 0, y] = true
    show (Bool.rec false (Bool.rec false true (flat y)) (flat (.slice none 0 0)) : Bool) = true
    rw [hy]; rfl
  · obtain ⟨q, rfl⟩ : ∃ k, m = k + 1 := ⟨m - 1, by omega⟩
    rw [Nat.add_sub_cancel] at hx
    exact ⟨_, _, _, zg4 rfl (zov hy hr hg hf) ((z4x hn).trans ((F.run _ us h nx ha).trans hx)), ⟨.inr ⟨k, c, b, rfl, rfl, rfl, hl, hp⟩⟩⟩
end Lm
end Go
namespace Go.Proofs.YtcmkngajdckndaaGreatDoor
open Go Go.Proofs Go.Lm
set_option maxRecDepth 10000
set_option maxHeartbeats 8000000
theorem zno : appF Tryz.prog 24 24 = some 1 := by kernel_rfl
def oneF (i k : Nat) : Bool := decide (k ∈ [i])
theorem ztb (i : Nat) : (setN [i]).testBit = oneF i := by funext k; exact zda [i] k
def zq1 (P : List Pc) (f : Nat → Bool) (row : List Value) : Bool := match row with
  | [.int _ room, .int _ most, _, _] => decide (sumP Pc.size P f ≤ room) && (decide (sumP Pc.weight P f ≤ most) && z3h P f)
  | _ => false
def tooQ (b : Bk) (i : Nat) : Bool := !b.K.any (z8p b.P (oneF i))
def z6j (b : Bk) (i : Nat) : List Nat := (List.range i).filter (tooQ b)
def bigQ (b : Bk) : List Nat := z6j b b.P.length
theorem zd0 (b : Bk) (i : Nat) : z6j b (i + 1) = z6j b i ++ if tooQ b i then [i] else [] := by
  unfold z6j
  rw [List.range_succ, List.filter_append]
  cases h : tooQ b i <;> simp [h]
theorem z89 (b : Bk) (i : Nat) : (z6j b i).length ≤ i := by
  unfold z6j
  refine Nat.le_trans (List.length_filter_le _ _) ?_
  simp
def nsV (ns : List Nat) : List Value := ns.map fun n : Nat => vi (n : Int)
theorem zud {S : Kn} (hS : S.Only [22]) {m : Nat} (hm : 7 ≤ m) {b : Bk} {z : Z} {vs : Vs} {h : Hp} {nx p1 : Nat} (hF : b.Fine) (hb : b.At h nx) (hr1 : rowL h p1 = some b.cells) (hp1 : p1 < nx) (hz : z.n0 ≤ nx)
    (g1 : vs 1 = some (pt p1)) (g3 : vs 3 = some (.slice none 0 0)) (g8 : vs 8 = some (vi b.P.length)) (g9 : vs 9 = some (vi 0)) {r : R} (hr : z14 (sC Tryz.prog 34 34 (z07 Tryz.prog vmL S m) zj6) z vs h nx = r) :
    ∃ vs' h' nx' v, r = .exi 0 z vs' h' nx' ∧ vs' 3 = some v ∧ OwnL h' nx nx' 1 v (nsV (bigQ b)) := by
  subst hr
  refine z0n (Post := fun r => ∃ vs' h' nx' v, r = .exi 0 z vs' h' nx' ∧ vs' 3 = some v ∧ OwnL h' nx nx' 1 v (nsV (bigQ b)))
    (fun i z' vs' h' nx' => i ≤ b.P.length ∧ z' = z ∧ nx ≤ nx' ∧ Same nx h h' ∧ vs' 1 = some (pt p1) ∧ (∃ v, vs' 3 = some v ∧ OwnL h' nx nx' 1 v (nsV (z6j b i))) ∧ vs' 8 = some (vi b.P.length) ∧ vs' 9 = some (vi (i : Int))) b.P.length (by have := hF.p7; omega)
    ⟨Nat.zero_le _, rfl, Nat.le_refl _, Same.refl _ _, g1, ⟨_, g3, .nil⟩, g8, g9⟩ ?_
  rintro i z' vs' h' nx' ⟨hi, rfl, hn, hs, e1, ⟨v, e3, ev⟩, e8, e9⟩
  have h7 := hF.p7
  by_cases hlt : i < b.P.length
  · left
    have h1 : ((i : Int) < (b.P.length : Int)) := by omega
    obtain ⟨H, eH⟩ : ∃ x, x = hset h' nx' (.cells [vi i] none) := ⟨_, rfl⟩
    have hsH : Same nx h H := by rw [eH]; exact hs.set hn _
    have hb' := hb.same hsH (nx' := nx' + 1) (by omega)
    have hrow : rowL h' p1 = some b.cells := by rw [z0w hs hp1]; exact hr1
    have hrowH : rowL H p1 = some b.cells := by rw [z0w hsH hp1]; exact hr1
    have k90 := c90 hS (m := m) (by omega) (ns := [i]) (h := H) (nx := nx' + 1) (v := .slice (some ⟨nx', 0, none⟩) 1 1) (by simp) (by simp; omega) (zaf (l := [vi i]) (by omega) (by rw [eH]; exact z01 _ _))
    have hlt2 := zgc (ns := [i]) (by simp; omega)
    have k82 := c82 hS (m := m) (by omega) (setN [i]) (by omega) hb' hF.p1 hF.k1 hF.s1
    rw [ztb] at k82
    have k89 := c89 hS (m := m) (by omega) (h := H) (nx := nx' + 1) (v := b.kv) (rows := b.K.map Kd.row) (by rw [List.length_map]; have := hF.k4; omega) hb'.k (fc := 83) (xs := [.agg (z0f b (oneF i)).toArray]) (ys := []) (p := zq1 b.P (oneF i))
      (fun row hrow => by
        obtain ⟨k, hk, rfl⟩ := List.mem_map.1 hrow
        exact c83 hS hb' hF.p7 hF.po (oneF i) (by omega) k)
    have hany : (b.K.map Kd.row).any (zq1 b.P (oneF i)) = b.K.any (z8p b.P (oneF i)) := by rw [List.any_map]; rfl
    rw [hany] at k89
    have hsu := zd0 b i
    have hlen := z89 b i
    have htoo : tooQ b i = !b.K.any (z8p b.P (oneF i)) := rfl
    have hpk : z09 false 1 b.cells 1 = some b.kv := rfl
    have hp7 : z09 true 7 b.cells 0 = some (.agg b.cells.toArray) := rfl
    rw [eH] at k90 k82 k89 hrowH
    rcases Bool.eq_false_or_eq_true (b.K.any (z8p b.P (oneF i))) with hy | hy
    · rw [hy] at k89 htoo
      rw [htoo] at hsu
      rw [show (if (!true) = true then [i] else []) = ([] : List Nat) from rfl, List.append_nil] at hsu
      refine ⟨hlt, z', _, _, _, (by simp (maxSteps := 10000000) (implicitDefEqProofs := false) (disch := omega) only [zj6, e1, e3, e8, e9, h1, hrow, hrowH, hpk, hp7, k90, k82, k89, bz, z00, Nat.reduceEqDiff, Nat.reduceLT, Nat.reduceAdd, Nat.reduceMul, Int.reduceToNat]; exact rfl), by omega, rfl, ?_, ?_, ?_, ?_, ?_, ?_⟩
      rotate_left 1
      · exact hs.set hn _
      · simp only [pq, Nat.reduceEqDiff, e1]
      · refine ⟨v, by simp only [pq, Nat.reduceEqDiff, e3], ?_⟩
        rw [hsu]
        refine ev.same (by omega) fun r len hv => ?_
        rcases ev.is with ⟨_, q⟩ | ⟨r', len', q1, q2, q3, _⟩
        · rw [q] at hv; cases hv
        · rw [q3] at hv; cases hv
          exact z0l _ (by omega)
      · simp only [pq, Nat.reduceEqDiff, e8]
      · simp only [pq, Nat.reduceEqDiff]; rfl
      · omega
    · rw [hy] at k89 htoo
      rw [htoo] at hsu
      rw [show (if (!false) = true then [i] else []) = [i] from rfl] at hsu
      obtain ⟨H2, eH2⟩ : ∃ x, x = hset (hset h' nx' (.cells [vi i] none)) (nx' + 1) (.cells [vi i] none) := ⟨_, rfl⟩
      have evH2 : OwnL H2 nx (nx' + 1 + 1) 1 v (nsV (z6j b i)) := ev.same (by omega) fun r len hv => by
        rcases ev.is with ⟨_, q⟩ | ⟨r', len', q1, q2, q3, _⟩
        · rw [q] at hv; cases hv
        · rw [q3] at hv; cases hv
          rw [eH2, z0l _ (by omega), z0l _ (by omega)]
      obtain ⟨v', h2, M, ap, lg, own, fr, _⟩ := evH2.app (k := (z6j b i).length) (x := .slice (some ⟨nx' + 1, 0, none⟩) 1 1) (new := [vi i]) (by omega) (z6k (by rw [eH2]; exact z01 _ _) rfl) rfl (by omega) (by simp [nsV]) (by omega)
      have lgz := lg z' hz
      rw [eH2] at ap
      refine ⟨hlt, z', _, _, _, (by simp (maxSteps := 10000000) (implicitDefEqProofs := false) (disch := omega) only [zj6, e1, e3, e8, e9, h1, hrow, hrowH, hpk, hp7, k90, k82, k89, ap, lgz, zno, bz, z00, Nat.reduceEqDiff, Nat.reduceLT, Nat.reduceAdd, Nat.reduceMul, Int.reduceToNat]; exact rfl), by omega, rfl, ?_, ?_, ?_, ?_, ?_, ?_⟩
      rotate_left 1
      · intro s hss
        rw [fr s hss, eH2, z0l _ (by omega), z0l _ (by omega)]; exact hs s hss
      · simp only [pq, Nat.reduceEqDiff, e1]
      · refine ⟨v', by simp only [pq, Nat.reduceEqDiff], ?_⟩
        rw [hsu]
        have : nsV (z6j b i ++ [i]) = nsV (z6j b i) ++ [vi i] := by simp [nsV]
        rw [this]
        exact own
      · simp only [pq, Nat.reduceEqDiff, e8]
      · simp only [pq, Nat.reduceEqDiff]; rfl
      · omega
  · right
    have h1 : ¬ ((i : Int) < (b.P.length : Int)) := by omega
    have hie : i = b.P.length := by omega
    have e : ∃ vs2, sC Tryz.prog 34 34 (z07 Tryz.prog vmL S m) zj6 z' vs' h' nx' = .exi 0 z' vs2 h' nx' ∧ vs2 3 = vs' 3 := by
      refine ⟨_, by simp (maxSteps := 10000000) (implicitDefEqProofs := false) (disch := omega) only [zj6, e1, e3, e8, e9, h1, bz, z00, Nat.reduceEqDiff, Nat.reduceLT, Nat.reduceAdd, Nat.reduceMul, Int.reduceToNat]; exact rfl, ?_⟩
      simp only [pg, Nat.reduceEqDiff]
    obtain ⟨vs2, e, q3⟩ := e
    rw [e]
    rw [hie] at ev
    exact ⟨trivial, vs2, _, _, v, rfl, q3.trans e3, ev⟩
theorem zdi (ns : List Nat) : z0m flat (nsV ns) = true := z9a fun v hv => by
  unfold nsV at hv
  obtain ⟨n, _, rfl⟩ := List.mem_map.1 hv
  rfl
theorem zll (ns : List Nat) : (nsV ns).length = ns.length := by simp [nsV]
theorem zoa {h : Hp} {r nx : Nat} {l : List Value} (c : Nat) (hr : r < nx) (hc : rowL h r = some l) : Lst h nx 1 (.slice (some ⟨r, 0, none⟩) l.length c) (l.map fun x => [x]) := by
  obtain ⟨a, c', e, hh⟩ := (zaf hr hc).form
  rw [List.length_map] at e
  cases e
  exact ⟨_, c, by rw [List.length_map], hh⟩
theorem NewL.lst {h h' : Hp} {nx nx' : Nat} {u : Value} {cells : List Value} (a : NewL h nx h' nx' 1 u cells) : Lst h' nx' 1 u (cells.map fun x => [x]) := by
  rcases a.is with ⟨rfl, rfl, rfl, rfl⟩ | ⟨n, c, b, rfl, rfl, rfl, hl, _⟩
  · exact zi4
  · rw [Nat.mul_one] at hl
    subst hl
    exact zoa c (by omega) (z01 _ _)
theorem zo7 (ns : List Nat) : ((nsV ns).map fun x => [x]) = ints (nsI ns) := by
  unfold nsV ints nsI
  rw [List.map_map, List.map_map]; rfl
theorem c62 {S : Kn} (hS : S.Only [22]) {m : Nat} (hm : 8 ≤ m) {b : Bk} {h : Hp} {nx : Nat} (hF : b.Fine) (hb : b.At h nx) : ∃ u h' nx', z06 62 [.agg b.cells.toArray] (z07 Tryz.prog vmL S m) h nx = .gen u h' nx' [] ∧ NewL h nx h' nx' 1 u (nsV (bigQ b)) := by
  refine fun62.list (sz := 1) (hS _ _ _ _ (by decide)) (by omega) (by simp) (zdi _) ?_
  obtain ⟨H, eH⟩ : ∃ x, x = hset h nx (.cells b.cells none) := ⟨_, rfl⟩
  have hsm : Same nx h H := by rw [eH]; exact (Same.refl nx h).set (Nat.le_refl _) _
  have hb' := hb.same hsm (nx' := nx + 1) (by omega)
  obtain ⟨pa, pc, hpv, _⟩ := hb.p.form
  rw [List.length_map] at hpv
  have hpp : z09 false 1 b.cells 0 = some b.pv := rfl
  rw [hpv] at hpp
  have hrow : rowL H nx = some b.cells := by rw [eH]; exact z01 _ _
  rw [eH] at hrow
  simp (maxSteps := 10000000) (implicitDefEqProofs := false) (disch := omega) only [s62, z1j, hrow, hpp, bz, z00, Nat.reduceEqDiff, Nat.reduceLT, Nat.reduceAdd, Nat.reduceMul, Int.reduceToNat]
  generalize hr : z14 _ _ _ _ _ = r
  obtain ⟨vs', h', nx', v, rfl, e3, ev⟩ := zud hS (m := m - 1) (by omega) (b := b) (h := hset h nx (.cells b.cells none)) (nx := nx + 1) (p1 := nx) hF (by rw [← eH]; exact hb') hrow (by omega) (by show nx ≤ _; omega) rfl rfl rfl rfl hr
  have hlen := z89 b b.P.length
  have h7 := hF.p7
  rcases ev.cut (k := (bigQ b).length) (by rw [zll, Nat.mul_one]) (by omega) (by unfold bigQ; omega) with ⟨hc, hk, rfl, hsl⟩ | ⟨r, hr0, hrn, rfl, hg, hsl⟩
  · rw [hk] at hsl
    refine ⟨_, _, _, .inl ⟨hc, rfl⟩, by simp (maxSteps := 10000000) (implicitDefEqProofs := false) (disch := omega) only [e3, hsl, z9l, bz, z00, Nat.reduceEqDiff, Nat.reduceLT, Nat.reduceAdd, Nat.reduceMul, Int.reduceToNat]; rfl⟩
  · rcases Nat.eq_zero_or_pos (bigQ b).length with hk | hk
    · exfalso
      rcases ev.is with ⟨_, q⟩ | ⟨r', len', _, _, q, _, ql, qp⟩
      · cases q
      · cases q; omega
    · refine ⟨_, _, _, .inr ⟨r, _, _, _, by omega, rfl, hg, by rw [zll, Nat.mul_one], hk⟩, by simp (maxSteps := 10000000) (implicitDefEqProofs := false) (disch := omega) only [e3, hsl, z9l, bz, z00, Nat.reduceEqDiff, Nat.reduceLT, Nat.reduceAdd, Nat.reduceMul, Int.reduceToNat]; rfl⟩
theorem c19 {S : Kn} (hS : S.Only [22]) {m : Nat} (hm : 15 ≤ m) {b : Bk} {h : Hp} {nx : Nat} (hb : b.At h nx) : ∃ u h' nx', z06 19 [.agg b.cells.toArray] (z07 Tryz.prog vmL S m) h nx = .gen (.tuple #[u, vi (z2e b.valid true)]) h' nx' [] ∧ NewL h nx h' nx' 1 u (nsV (if b.valid then bigQ b else [])) := by
  refine fun19.listT (sz := 1) rfl (hS _ _ _ _ (by decide)) (by omega) (by simp) (zdi _) ?_
  obtain ⟨H, eH⟩ : ∃ x, x = hset h nx (.cells b.cells none) := ⟨_, rfl⟩
  have hsm : Same nx h H := by rw [eH]; exact (Same.refl nx h).set (Nat.le_refl _) _
  have hb' := hb.same hsm (nx' := nx + 1) (by omega)
  have k15 := c15 hS (m := m - 1) (by omega) hb'
  rcases Bool.eq_false_or_eq_true b.valid with hv | hv
  · rw [hv, z27] at k15
    rw [hv, z27]
    obtain ⟨u, h2, n2, k62, hnew⟩ := c62 hS (m := m - 1) (by omega) (Bk.fine hv) hb'
    simp only [eH, Bk.cells] at k15 k62
    have hne : zhj nx h2 1 u (nsV (bigQ b)) := by
      rcases hnew.is with ⟨q1, q2, _, _⟩ | ⟨n, c, b2, q1, q2, _, q4, q5⟩
      · exact .inl ⟨q1, q2⟩
      · exact   .inr ⟨_, n, c, b2, by omega, q1, by rw [q2]; exact z1c _ _, q4, q5⟩
    refine ⟨u, _, _, hne, by simp (maxSteps := 10000000) (implicitDefEqProofs := false) (disch := omega) only [s19, Bk.cells, k15, k62, show ((0 : Int) == 0) = true from rfl, bz, z00, Nat.reduceEqDiff, Nat.reduceLT, Nat.reduceAdd, Nat.reduceMul, Int.reduceToNat]; rfl⟩
  · rw [hv, z20] at k15
    rw [hv, z20]
    simp only [eH, Bk.cells] at k15
    refine ⟨_, _, _, .inl ⟨rfl, rfl⟩, by simp (maxSteps := 10000000) (implicitDefEqProofs := false) (disch := omega) only [s19, Bk.cells, k15, show ((60 : Int) == 0) = false from rfl, bz, z00, Nat.reduceEqDiff, Nat.reduceLT, Nat.reduceAdd, Nat.reduceMul, Int.reduceToNat]; rfl⟩
end Go.Proofs.YtcmkngajdckndaaGreatDoor
namespace Go.Proofs.YtcmkngajdckndaaGreatDoor
open Go Go.Proofs Go.Lm
set_option maxRecDepth 10000
set_option maxHeartbeats 8000000
variable {S : Kn} (hS : S.Only [22]) {m : Nat} {h : Hp} {nx : Nat}
include hS
theorem c34 (hm : 1 ≤ m) (n k : Int) (hk : 1 ≤ k) (hk2 : k ≤ 1000000000) : z06 34 [vi n, vi k] (z07 Tryz.prog vmL S m) h nx = .gen (vi (n % k)) h nx [] := by
  refine fun34.ground (hS _ _ _ _ (by decide)) hm rfl (by simp) ?_
  have h1 : ¬ k < 1 := by omega
  have h0 : k ≠ 0 := by omega
  have hb := zhe (P := Tryz.prog) 3 (.tmp 8) (.tmp 9) n k h0
  have hr := Int.tmod_lt_of_pos n (show 0 < k by omega)
  have hr2 : -k < n.tmod k := by
    have := Int.tmod_lt_of_pos (-n) (show 0 < k by omega)
    rw [Int.neg_tmod] at this
    omega
  by_cases h2 : n.tmod k < 0
  · have e : n % k = n.tmod k + k := by
      rw [Int.emod_eq_tmod]
      have : ¬ (0 ≤ n ∨ k ∣ n) := by
        rintro (q | q)
        · have := Int.tmod_nonneg k q; omega
        · have := Int.tmod_eq_zero_of_dvd q; omega
      rw [if_neg this]
      have : k.natAbs = k.toNat := by omega
      omega
    rw [e]
    simp (maxSteps := 10000000) (implicitDefEqProofs := false) (disch := omega) only [s34, h1, hb, h2, bz, z00, Nat.reduceEqDiff, Nat.reduceLT, Nat.reduceAdd, Nat.reduceMul, Int.reduceToNat]
    exact ⟨_, _, rfl⟩
  · have e : n % k = n.tmod k := by
      have h3 := Int.tmod_add_mul_tdiv n k
      have h4 : (n.tmod k + k * n.tdiv k) % k = n.tmod k := by
        rw [Int.add_mul_emod_self_left]
        exact Int.emod_eq_of_lt (by omega) hr
      rw [h3] at h4
      exact h4
    rw [e]
    simp (maxSteps := 10000000) (implicitDefEqProofs := false) (disch := omega) only [s34, h1, hb, h2, bz, z00, Nat.reduceEqDiff, Nat.reduceLT, Nat.reduceAdd, Nat.reduceMul, Int.reduceToNat]
    exact ⟨_, _, rfl⟩
omit hS in
theorem zuh {ih : Rec} {zs : List Int} {n : Int} {z : Z} {vs : Vs} {v : Value} (hl : zs.length ≤ 140737488355328) (hv : Lst h nx 1 v (ints zs))
    (g0 : vs 0 = some v) (g1 : vs 1 = some (vi n)) (g5 : vs 5 = some (vi (-1))) (g6 : vs 6 = some (vi 0)) {r : R} (hr : z14 (sC Tryz.prog 31 31 ih zdl) z vs h nx = r) :
    (z13 0 (n - 1) zs = false ∧ ∃ vs', r = .ret z vs' h nx ∧ vs' 4 = some (.bool false)) ∨ (z13 0 (n - 1) zs = true ∧ ∃ vs', r = .exi 0 z vs' h nx) := by
  subst hr
  refine z0n (Post := fun r => (z13 0 (n - 1) zs = false ∧ ∃ vs', r = .ret z vs' h nx ∧ vs' 4 = some (.bool false)) ∨ (z13 0 (n - 1) zs = true ∧ ∃ vs', r = .exi 0 z vs' h nx))
    (fun i z' vs' h' nx' => i ≤ zs.length ∧ z' = z ∧ nx' = nx ∧ h' = h ∧ vs' 0 = some v ∧ vs' 1 = some (vi n) ∧ vs' 6 = some (vi (i : Int)) ∧ ∃ last, vs' 5 = some (vi last) ∧ z13 0 (n - 1) zs = z13 (last + 1) (n - 1) (zs.drop i)) zs.length (by omega)
    ⟨Nat.zero_le _, rfl, rfl, rfl, g0, g1, g6, -1, g5, rfl⟩ ?_
  rintro i z' vs' h' nx' ⟨hi, rfl, rfl, rfl, e0, e1, e6, last, e5, ec⟩
  obtain ⟨a, c, rfl, _⟩ := hv.form
  have hil : (ints zs).length = zs.length := by simp [ints]
  rw [hil] at e0 hv
  by_cases hlt : i < zs.length
  · obtain ⟨_, rr, o, row, cs, rfl, hrn, hrow, hrl, hcs, ho, hseg⟩ := hv.load (i := i) hlt
    have h1 : ((i : Int) < (zs.length : Int)) := by omega
    have hrw : row = [vi zs[i]] := by
      unfold ints at hrow
      rw [List.getElem?_map, List.getElem?_eq_getElem hlt] at hrow
      exact (Option.some.inj hrow).symm
    subst hrw
    have hel : z09 false 1 cs (o + i * 1) = some (vi zs[i]) := z2w (row := []) hseg
    have hd : zs.drop i = zs[i] :: zs.drop (i + 1) := List.drop_eq_getElem_cons hlt
    rw [hd] at ec
    have ec' : z13 0 (n - 1) zs = (inB (last + 1) (n - 1) zs[i] && z13 (zs[i] + 1) (n - 1) (zs.drop (i + 1))) := ec
    by_cases h2 : zs[i] ≤ last
    · right
      have e : ∃ vs2, sC Tryz.prog 31 31 ih zdl z' vs' h' nx' = .ret z' vs2 h' nx' ∧ vs2 4 = some (.bool false) := by
        refine ⟨_, by simp (maxSteps := 10000000) (implicitDefEqProofs := false) (disch := omega) only [zdl, e0, e1, e5, e6, h1, hcs, hel, h2, bz, z00, Nat.reduceEqDiff, Nat.reduceLT, Nat.reduceAdd, Nat.reduceMul, Int.reduceToNat]; exact rfl, ?_⟩
        simp only [pg, Nat.reduceEqDiff]
      obtain ⟨vs2, e, q4⟩ := e
      rw [e]
      refine ⟨trivial, .inl ⟨?_, vs2, rfl, q4⟩⟩
      rw [ec']
      have : inB (last + 1) (n - 1) zs[i] = false := by unfold inB; rw [decide_eq_false (by omega), Bool.false_and]
      rw [this]; rfl
    · by_cases h3 : n ≤ zs[i]
      · right
        have e : ∃ vs2, sC Tryz.prog 31 31 ih zdl z' vs' h' nx' = .ret z' vs2 h' nx' ∧ vs2 4 = some (.bool false) := by
          refine ⟨_, by simp (maxSteps := 10000000) (implicitDefEqProofs := false) (disch := omega) only [zdl, e0, e1, e5, e6, h1, hcs, hel, h2, h3, bz, z00, Nat.reduceEqDiff, Nat.reduceLT, Nat.reduceAdd, Nat.reduceMul, Int.reduceToNat]; exact rfl, ?_⟩
          simp only [pg, Nat.reduceEqDiff]
        obtain ⟨vs2, e, q4⟩ := e
        rw [e]
        refine ⟨trivial, .inl ⟨?_, vs2, rfl, q4⟩⟩
        rw [ec']
        have : inB (last + 1) (n - 1) zs[i] = false := by unfold inB; rw [Bool.and_eq_false_iff]; exact .inr (decide_eq_false (by omega))
        rw [this]; rfl
      · left
        have hin : inB (last + 1) (n - 1) zs[i] = true := by unfold inB; rw [decide_eq_true (by omega), decide_eq_true (by omega)]; rfl
        rw [hin, Bool.true_and] at ec'
        refine ⟨hlt, z', _, _, _, (by simp (maxSteps := 10000000) (implicitDefEqProofs := false) (disch := omega) only [zdl, e0, e1, e5, e6, h1, hcs, hel, h2, h3, bz, z00, Nat.reduceEqDiff, Nat.reduceLT, Nat.reduceAdd, Nat.reduceMul, Int.reduceToNat]; exact rfl), by omega, rfl, rfl, rfl, ?_, ?_, ?_, zs[i], ?_, ec'⟩
        · simp only [pg, Nat.reduceEqDiff, e0, hil]
        · simp only [pg, Nat.reduceEqDiff, e1]
        · simp only [pg, Nat.reduceEqDiff]; rfl
        · simp only [pg, Nat.reduceEqDiff]
  · right
    have h1 : ¬ ((i : Int) < (zs.length : Int)) := by omega
    have e : ∃ vs2, sC Tryz.prog 31 31 ih zdl z' vs' h' nx' = .exi 0 z' vs2 h' nx' := ⟨_, by simp (maxSteps := 10000000) (implicitDefEqProofs := false) (disch := omega) only [zdl, e0, e1, e5, e6, h1, bz, z00, Nat.reduceEqDiff, Nat.reduceLT, Nat.reduceAdd, Nat.reduceMul, Int.reduceToNat]; exact rfl⟩
    obtain ⟨vs2, e⟩ := e
    rw [e]
    refine ⟨trivial, .inr ⟨?_, vs2, rfl⟩⟩
    rw [ec, List.drop_of_length_le (by omega)]; rfl
theorem c36 (hm : 1 ≤ m) {zs : List Int} (n : Int) {v : Value} (hl : zs.length ≤ 140737488355328) (hv : Lst h nx 1 v (ints zs)) : z06 36 [v, vi n] (z07 Tryz.prog vmL S m) h nx = .gen (.bool (z13 0 (n - 1) zs)) h nx [] := by
  refine fun36.ground (hS _ _ _ _ (by decide)) (by omega) rfl (by simp) ?_
  simp (maxSteps := 10000000) (implicitDefEqProofs := false) (disch := omega) only [s36, z1j, bz, z00, Nat.reduceEqDiff, Nat.reduceLT, Nat.reduceAdd, Nat.reduceMul, Int.reduceToNat]
  generalize hr : z14 _ _ _ _ _ = r
  rcases zuh hl hv rfl rfl rfl rfl hr with ⟨hc, vs', rfl, q4⟩ | ⟨hc, vs', rfl⟩
  · rw [hc]
    exact ⟨_, _, by simp (maxSteps := 10000000) (implicitDefEqProofs := false) (disch := omega) only [q4, bz, z00, Nat.reduceEqDiff, Nat.reduceLT, Nat.reduceAdd, Nat.reduceMul, Int.reduceToNat]; rfl⟩
  · rw [hc]
    exact ⟨_, _, by simp (maxSteps := 10000000) (implicitDefEqProofs := false) (disch := omega) only [bz, z00, Nat.reduceEqDiff, Nat.reduceLT, Nat.reduceAdd, Nat.reduceMul, Int.reduceToNat]; rfl⟩
end Go.Proofs.YtcmkngajdckndaaGreatDoor
namespace Go.Proofs.YtcmkngajdckndaaGreatDoor
open Go Go.Proofs Go.Lm
set_option maxRecDepth 10000
set_option maxHeartbeats 8000000
def pcAt (b : Bk) (n : Nat) : Pc := b.P.getD n ⟨0, 0, 0, false⟩
theorem za4 {b : Bk} {n : Nat} (h : n < b.P.length) : pcAt b n = b.P[n] := by
  unfold pcAt
  rw [List.getD_eq_getElem?_getD, List.getElem?_eq_getElem h]; rfl
def sumN (g : Pc → Int) (b : Bk) (ns : List Nat) : Int := (ns.map fun n => g (pcAt b n)).sum
theorem z7j (g : Pc → Int) (b : Bk) {ns : List Nat} {i : Nat} (hi : i < ns.length) : sumN g b (ns.take (i + 1)) = sumN g b (ns.take i) + g (pcAt b ns[i]) := by
  unfold sumN
  rw [List.take_add_one, List.getElem?_eq_getElem hi, Option.toList_some, List.map_append, List.sum_append]
  simp
theorem z8g {b : Bk} {g : Pc → Int} {B : Int} (hB : 0 ≤ B) (hg : ∀ x, x ∈ b.P → 0 ≤ g x ∧ g x ≤ B) {ns : List Nat} (hn : ∀ n, n ∈ ns → n < b.P.length) : 0 ≤ sumN g b ns ∧ sumN g b ns ≤ B * ns.length := by
  unfold sumN
  have := zec (l := ns.map fun n => g (pcAt b n)) hB (fun y hy => by
    obtain ⟨n, hn', rfl⟩ := List.mem_map.1 hy
    rw [za4 (hn n hn')]
    exact hg _ (List.getElem_mem _))
  rwa [List.length_map] at this
theorem Bk.Fine.pc {b : Bk} (hF : b.Fine) {x : Pc} (hx : x ∈ b.P) : (1 ≤ x.size ∧ x.size ≤ 500) ∧ (1 ≤ x.weight ∧ x.weight ≤ 5000) ∧ (0 ≤ x.worth ∧ x.worth ≤ 10000) := by
  have h := List.all_eq_true.1 hF.po x hx
  unfold Pc.ok at h
  simp only [Bool.and_eq_true] at h
  exact ⟨z0u h.1, z0u h.2.1, z0u h.2.2⟩
theorem zki {b : Bk} (hF : b.Fine) {ns : List Nat} (hn : ∀ n, n ∈ ns → n < b.P.length) : 0 ≤ sumN Pc.size b ns ∧ sumN Pc.size b ns ≤ 500 * ns.length := z8g (by omega) (fun x hx => by have := hF.pc hx; omega) hn
theorem z6y {b : Bk} (hF : b.Fine) {ns : List Nat} (hn : ∀ n, n ∈ ns → n < b.P.length) : 0 ≤ sumN Pc.weight b ns ∧ sumN Pc.weight b ns ≤ 5000 * ns.length := z8g (by omega) (fun x hx => by have := hF.pc hx; omega) hn
theorem zc1 {b : Bk} (hF : b.Fine) {ns : List Nat} (hn : ∀ n, n ∈ ns → n < b.P.length) : 0 ≤ sumN Pc.worth b ns ∧ sumN Pc.worth b ns ≤ 10000 * ns.length := z8g (by omega) (fun x hx => by have := hF.pc hx; omega) hn
def zag (b : Bk) (ns : List Nat) : Bool := ns.any fun n => (pcAt b n).alone
theorem zly (b : Bk) {ns : List Nat} {i : Nat} (hi : i < ns.length) : zag b (ns.take (i + 1)) = (zag b (ns.take i) || (pcAt b ns[i]).alone) := by
  unfold zag
  rw [List.take_add_one, List.getElem?_eq_getElem hi, Option.toList_some, List.any_append]
  simp
theorem Bk.At.piece {b : Bk} {h : Hp} {nx : Nat} (hb : b.At h nx) {i : Nat} (hi : i < b.P.length) : ∃ r o cs c, b.pv = .slice (some ⟨r, o, none⟩) b.P.length c ∧ rowL h r = some cs ∧ r < nx ∧ z09 true 4 cs (o + i * 4) = some (.agg b.P[i].row.toArray) ∧ o + i * 4 + 4 ≤ cs.length ∧ (cs.drop (o + i * 4)).take 4 = b.P[i].row := by
  have hk := hb.p
  obtain ⟨a, c, hve, _⟩ := hk.form
  rw [List.length_map] at hve
  rw [hve] at hk
  obtain ⟨_, r, o, row, cs, rfl, hrn, hrow, hrl, hcs, ho, hseg⟩ := hk.load (i := i) (by simpa using hi)
  rw [List.getElem?_map, List.getElem?_eq_getElem hi] at hrow
  cases hrow
  exact ⟨r, o, cs, c, hve, hcs, hrn, z3j (by omega) hseg, ho, hseg⟩
theorem zlm {ns : List Nat} {i : Nat} (hi : i < ns.length) : (nsI ns)[i]'(by simpa [nsI] using hi) = (ns[i] : Int) := by simp [nsI]
theorem z46 (ns : List Nat) : (nsI ns).length = ns.length := by simp [nsI]
theorem zc3 {cs row : List Value} {a n j : Nat} {x : Value} (hseg : (cs.drop a).take n = row) (hx : row[j]? = some x) (hj : j < n) : z09 false 1 cs (a + j) = some x := by
  rw [z3k, ← hx, ← hseg, List.getElem?_take_of_lt hj, List.getElem?_drop]
theorem Bk.At.kind {b : Bk} {h : Hp} {nx : Nat} (hb : b.At h nx) {i : Nat} (hi : i < b.K.length) : ∃ r o cs c, b.kv = .slice (some ⟨r, o, none⟩) b.K.length c ∧ rowL h r = some cs ∧ r < nx ∧ z09 false 1 cs (o + i * 4) = some (vi b.K[i].room) ∧ z09 false 1 cs (o + i * 4 + 1) = some (vi b.K[i].most) ∧ z09 false 1 cs (o + i * 4 + 2) = some b.K[i].zv ∧ z09 false 1 cs (o + i * 4 + 3) = some (vi b.K[i].step) := by
  have hk := hb.k
  obtain ⟨a, c, hve, _⟩ := hk.form
  rw [List.length_map] at hve
  rw [hve] at hk
  obtain ⟨_, r, o, row, cs, rfl, hrn, hrow, hrl, hcs, ho, hseg⟩ := hk.load (i := i) (by simpa using hi)
  rw [List.getElem?_map, List.getElem?_eq_getElem hi] at hrow
  cases hrow
  exact ⟨r, o, cs, c, hve, hcs, hrn, zc3 (j := 0) hseg rfl (by omega), zc3 (j := 1) hseg rfl (by omega), zc3 (j := 2) hseg rfl (by omega), zc3 (j := 3) hseg rfl (by omega)⟩
def z5n (b : Bk) (k : Kd) (ns : List Nat) : Bool := !(decide (1 < ns.length) && zag b ns) && (decide (sumN Pc.size b ns ≤ k.room) && decide (sumN Pc.weight b ns ≤ k.most))
def zg0 (b : Bk) (k : Kd) (ns : List Nat) (zone : Nat) : Int := k.zs.getD zone 0 + k.step * ((sumN Pc.weight b ns + b.grams - 1) / b.grams - 1) + b.fee * ((max 0 (sumN Pc.worth b ns - b.free) + b.unit - 1) / b.unit)
def nsF (f : Nat → Bool) (n : Nat) : List Nat := (List.range n).filter f
theorem zo8 (f : Nat → Bool) (i : Nat) : nsF f (i + 1) = nsF f i ++ if f i then [i] else [] := by
  unfold nsF
  rw [List.range_succ, List.filter_append]
  cases h : f i <;> simp [h]
theorem zcy {b : Bk} (f : Nat → Bool) : ∀ {n : Nat}, n ≤ b.P.length → z0b b.P f n = (nsF f n).map (pcAt b) := by
  intro n
  induction n with
  | zero => intro _; rfl
  | succ n ih =>
    intro hn
    rw [z7d f (by omega), zo8, List.map_append, ih (by omega), ← za4 (b := b) (n := n) (by omega)]
    cases f n <;> rfl
theorem zd5 (g : Pc → Int) (b : Bk) (f : Nat → Bool) : sumP g b.P f = sumN g b (nsF f b.P.length) := by
  unfold sumP sumN
  rw [zcy f (Nat.le_refl _), List.map_map]; rfl
theorem zms (b : Bk) (f : Nat → Bool) (k : Kd) (hne : nsF f b.P.length ≠ []) : z8p b.P f k = z5n b k (nsF f b.P.length) := by
  unfold z8p z5n z3h
  rw [zd5, zd5, zcy f (Nat.le_refl _), List.length_map, List.any_map]
  have hl : 0 < (nsF f b.P.length).length := List.length_pos_iff.2 hne
  have e : (nsF f b.P.length).any (Pc.alone ∘ pcAt b) = zag b (nsF f b.P.length) := rfl
  rw [e]
  have h1 : ((nsF f b.P.length).length == 1) = !decide (1 < (nsF f b.P.length).length) := by
    by_cases h : (nsF f b.P.length).length = 1
    · rw [h]; rfl
    · rw [beq_false_of_ne h, decide_eq_true (by omega)]; rfl
  rw [h1]
  cases decide (1 < (nsF f b.P.length).length) <;> cases zag b (nsF f b.P.length) <;> cases decide (sumN Pc.size b (nsF f b.P.length) ≤ k.room) <;> cases decide (sumN Pc.weight b (nsF f b.P.length) ≤ k.most) <;> rfl
theorem zt5 (b : Bk) (f : Nat → Bool) (k : Kd) (zone : Nat) : k.zs.getD zone 0 + z2i b f k + z3z b f = zg0 b k (nsF f b.P.length) zone := by
  unfold z2i z3z zg0
  rw [zd5, zd5]
theorem zwj (x y : Operand) (a c : Bool) : binV Tryz.prog .neq 4 x y (.bool a) (.bool c) = some (.bool (a != c)) := by
  cases a <;> cases c <;> kernel_rfl
section
variable {P : Program} {nv : Nat} {ih : Rec} {z : Z} {vs : Vs} {h : Hp} {nx : Nat}
theorem g_un (d : Option Nat) (op : Op) (b : Bool) : zap P nv ih d op b z vs h nx (some undef) = .st z (put d undef vs) h nx := by cases b <;> rfl
theorem z3u (b : List Nat) (k : Nat) (l : List SOp) (d : Option Nat) (op : Op) (y : Bool) : zao P nv ih b k l d op y z vs h nx (some undef) = qOps P nv ih b (k + 1) l z (put d undef vs) h nx := by cases y <;> rfl
end
def zhi (S : Kn) : Prop := ∀ h nx, 1 ≤ nx → rowL h 0 = some limL → S 22 [] h nx = some (.bool true)
theorem c22 {S : Kn} (hK : zhi S) {m : Nat} {h : Hp} {nx : Nat} (h1 : 1 ≤ nx) (hl : rowL h 0 = some limL) : z06 22 [] (z07 Tryz.prog vmL S m) h nx = .gen (.bool true) h nx [] := zfd (hK h nx h1 hl) rfl
theorem zlp {h h' : Hp} {nx nx' : Nat} {u : Value} {ns : List Nat} (a : NewL h nx h' nx' 1 u (nsV ns)) : Lst h' nx' 1 u (ints (nsI ns)) := by
  have := NewL.lst a
  rwa [zo7] at this
open Go Go.Proofs Go.Lm
set_option maxRecDepth 10000
set_option maxHeartbeats 16000000
end Go.Proofs.YtcmkngajdckndaaGreatDoor
namespace Go
namespace Lm
open Go.RowKit
variable {P : Program}
theorem zoc {l : List Nat} {x : Nat} (h : x ∈ l) : x ≤ l.foldr Nat.max 0 := by
  induction l with
  | nil => cases h
  | cons y l ih =>
    rw [List.foldr_cons]
    rcases List.mem_cons.1 h with rfl | h
    · exact Nat.le_max_left _ _
    · exact Nat.le_trans (ih h) (Nat.le_max_right _ _)
def zdc (o : Obj) : Nat := match o with | .cells cs _ _ => cs.size | _ => 0
def z9q (w : World) : Nat := (w.heap.toList.map zdc).foldr Nat.max 0 + 1
theorem zhm {w : World} {b : Nat} {cs : Array Value} {e fz} (h : w.heap[b]? = some (.cells cs e fz)) : cs.size < z9q w := by
  have hm : (.cells cs e fz : Obj) ∈ w.heap.toList := by
    rw [← Array.getElem?_toList] at h
    exact List.mem_of_getElem? h
  have := zoc (List.mem_map.2 ⟨_, hm, rfl⟩ : zdc (.cells cs e fz) ∈ w.heap.toList.map zdc)
  unfold z9q
  have e1 : zdc (.cells cs e fz) = cs.size := rfl
  omega
def nnOf (w : World) : Nat := w.heap.size + 2
def z3o (w : World) : Nat := nnOf w * z9q w
theorem nn_le (w : World) : nnOf w ≤ z3o w := by
  unfold z3o
  exact Nat.le_mul_of_pos_right _ (by unfold z9q; omega)
abbrev worldLo (w : World) (hs : NG ≤ w.heap.size) : Lo where
  lo := fun r => if r < z3o w then r / nnOf w else 0
  arg := z3o w
  new := fun r h => if_neg (Nat.not_lt.2 h)
  gl := fun g hg => by
    have : g / nnOf w = 0 := Nat.div_eq_of_lt (by unfold nnOf; omega)
    simp [this]
  odd := w.heap.size + 1
  oddlt := Nat.lt_of_lt_of_le (by unfold nnOf; omega) (nn_le w)
def renOf (w : World) : Ren := ⟨fun r => if r < z3o w ∧ r % nnOf w < w.heap.size then some (r % nnOf w) else none, fun _ => 0⟩
def z33 (w : World) (b o : Nat) : Nat := o * nnOf w + b
theorem zls {w : World} {b o : Nat} (hb : b < w.heap.size) (ho : o < z9q w) : z33 w b o < z3o w ∧ z33 w b o % nnOf w = b ∧ z33 w b o / nnOf w = o := by
  have hn : b < nnOf w := by unfold nnOf; omega
  refine ⟨?_, ?_, ?_⟩
  · have h1 : (o + 1) * nnOf w ≤ z9q w * nnOf w := Nat.mul_le_mul_right _ ho
    rw [Nat.succ_mul] at h1
    unfold z33 z3o
    rw [Nat.mul_comm (nnOf w)]
    omega
  · unfold z33
    rw [Nat.add_comm, Nat.add_mul_mod_self_right]
    exact Nat.mod_eq_of_lt hn
  · unfold z33
    rw [Nat.add_comm, Nat.add_mul_div_right _ _ (by omega), Nat.div_eq_of_lt hn, Nat.zero_add]
def encV (w : World) (v : Value) : Option Value :=
  match v with
  | .bool b => some (.bool b)
  | .int k n => some (.int k n)
  | .slice none n c => some (.slice none n c)
  | .slice (some a) n c => if n = 0 ∧ c = 0 then some (.slice (some ⟨w.heap.size + 1, 0, none⟩) 0 0)
      else if a.spot = none ∧ a.block < w.heap.size ∧ a.off < z9q w ∧ c < HALF ∧ n ≤ c then some (.slice (some ⟨z33 w a.block a.off, a.off, none⟩) n c) else none
  | _ => none
theorem enc_one {w : World} {v x : Value} (h : encV w v = some x) : x.oneCell' = true := by
  unfold encV at h
  split at h
  · cases h; rfl
  · cases h; rfl
  · cases h; rfl
  · split at h
    · cases h; rfl
    · split at h
      · cases h; rfl
      · cases h
  · cases h
theorem enc_vr {w : World} (hs : NG ≤ w.heap.size) {v x : Value} (h : encV w v = some x) : @VR (worldLo w hs) (renOf w) x v := by
  letI := worldLo w hs
  unfold encV at h
  split at h
  · cases h; exact .bool _
  · cases h; exact .int _ _
  · cases h; exact .slice0 _ _
  · rename_i a n c
    split at h
    · rename_i q
      obtain ⟨rfl, rfl⟩ := q
      cases h
      exact VR.sliceW a
    · split at h
      · rename_i q
        obtain ⟨q1, q2, q3, q4, q5⟩ := q
        cases h
        obtain ⟨m1, m2, m3⟩ := zls q2 q3
        obtain ⟨b, o, s⟩ := a
        simp only at q1 q2 q3 m1 m2 m3
        subst q1
        refine VR.slice o n ?_ ?_ (.inl ⟨q4, rfl⟩) q5
        · show (if z33 w b o < z3o w ∧ z33 w b o % nnOf w < w.heap.size then some (z33 w b o % nnOf w) else none) = some b
          rw [if_pos ⟨m1, by rw [m2]; exact q2⟩, m2]
        · show (if z33 w b o < z3o w then z33 w b o / nnOf w else 0) ≤ o
          rw [if_pos m1, m3]
          exact Nat.le_refl _
      · cases h
  · cases h
def zof : Value := .bool false
def z3p (w : World) (o : Nat) (cs : Array Value) : List Value := List.replicate (min o cs.size) zof ++ ((cs.toList.drop o).takeWhile fun v => (encV w v).isSome).map fun v => (encV w v).getD zof
def rowW (w : World) (r : Nat) : Row := if r < z3o w ∧ r % nnOf w < w.heap.size then (match w.heap[r % nnOf w]? with | some (.cells cs _ _) => .ro (z3p w (r / nnOf w) cs) | _ => .dead) else .dead
def hpW (w : World) : Hp := fun r => some (rowW w r)
theorem tw_len {α : Type} (p : α → Bool) (l : List α) : (l.takeWhile p).length ≤ l.length := (List.takeWhile_prefix p).length_le
theorem zpw {α : Type} (p : α → Bool) : ∀ (l : List α) (i : Nat) (x : α), (l.takeWhile p)[i]? = some x → l[i]? = some x ∧ p x = true := by
  intro l
  induction l with
  | nil => intro i x h; simp at h
  | cons y l ih =>
    intro i x h
    rw [List.takeWhile_cons] at h
    split at h
    · rename_i hy
      cases i with
      | zero => simp at h; subst h; exact ⟨rfl, hy⟩
      | succ i => exact ih i x (by simpa using h)
    · simp at h
theorem ztk {α : Type} (p : α → Bool) : ∀ (l : List α) (k : Nat), (∀ i, i < k → ∃ x, l[i]? = some x ∧ p x = true) → ∀ i, i < k → (l.takeWhile p)[i]? = l[i]? := by
  intro l
  induction l with
  | nil => intro k h i hi; obtain ⟨x, hx, _⟩ := h i hi; simp at hx
  | cons y l ih =>
    intro k h i hi
    obtain ⟨x, hx, hp⟩ := h 0 (by omega)
    simp at hx
    subst hx
    rw [List.takeWhile_cons, if_pos hp]
    cases i with
    | zero => rfl
    | succ i =>
      simp only [List.getElem?_cons_succ]
      exact ih (k - 1) (fun j hj => by
        obtain ⟨x, h1, h2⟩ := h (j + 1) (by omega)
        exact ⟨x, by simpa using h1, h2⟩) i (by omega)
theorem zji {w : World} (hs : NG ≤ w.heap.size) {o : Nat} {cs : Array Value} (ho : o ≤ cs.size ∨ cs.size ≤ o) : @CelX (worldLo w hs) (renOf w) o (z3p w o cs) cs := by
  letI := worldLo w hs
  refine ⟨?_, fun i x hx => ?_, fun i x hi hx => ?_⟩
  · unfold z3p
    rw [List.length_append, List.length_replicate, List.length_map]
    have := tw_len (fun v => (encV w v).isSome) (cs.toList.drop o)
    rw [List.length_drop] at this
    simp at this ⊢
    omega
  · unfold z3p at hx
    rw [List.getElem?_append] at hx
    split at hx
    · have := List.mem_of_getElem? hx
      rw [List.mem_replicate] at this
      rw [this.2]; rfl
    · rw [List.getElem?_map] at hx
      cases hq : ((cs.toList.drop o).takeWhile fun v => (encV w v).isSome)[i - (List.replicate (min o cs.size) zof).length]? with
      | none => rw [hq] at hx; cases hx
      | some v =>
        rw [hq] at hx
        obtain ⟨_, h2⟩ := zpw _ _ _ _ hq
        obtain ⟨y, hy⟩ := Option.isSome_iff_exists.1 h2
        simp only [Option.map_some, hy, Option.getD_some, Option.some.injEq] at hx
        subst hx
        exact enc_one hy
  · unfold z3p at hx
    rw [List.getElem?_append, List.length_replicate] at hx
    have hlt : ¬ i < min o cs.size := by omega
    rw [if_neg hlt, List.getElem?_map] at hx
    cases hq : ((cs.toList.drop o).takeWhile fun v => (encV w v).isSome)[i - min o cs.size]? with
    | none => rw [hq] at hx; cases hx
    | some v =>
      rw [hq] at hx
      obtain ⟨h1, h2⟩ := zpw _ _ _ _ hq
      obtain ⟨y, hy⟩ := Option.isSome_iff_exists.1 h2
      simp only [Option.map_some, hy, Option.getD_some, Option.some.injEq] at hx
      subst hx
      rw [List.getElem?_drop] at h1
      have hol : o < cs.size := by
        have := (List.getElem?_eq_some_iff.1 h1).1
        simp at this; omega
      rw [Nat.min_eq_left (by omega)] at h1
      refine ⟨v, ?_, enc_vr hs hy⟩
      rw [show o + (i - o) = i by omega] at h1
      rw [← Array.getElem?_toList]; exact h1
theorem zoi {w : World} (hs : NG ≤ w.heap.size) : @HR (worldLo w hs) (renOf w) (hpW w) w := by
  letI := worldLo w hs
  have valid : ∀ {r b : Nat}, (renOf w).blk r = some b → (r < z3o w ∧ r % nnOf w < w.heap.size) ∧ b = r % nnOf w := fun {r b} h => by
    unfold renOf at h
    simp only at h
    split at h
    · rename_i q; cases h; exact ⟨q, rfl⟩
    · cases h
  refine ⟨fun r b x hb hx hn => ?_, fun r s b hr hs' lr ls => ?_, fun r b hb => ?_, fun x hx => ?_⟩
  · obtain ⟨q, rfl⟩ := valid hb
    have hx' : x = rowW w r := (Option.some.inj hx).symm
    unfold rowW at hx'
    rw [if_pos q] at hx'
    split at hx'
    · rename_i cs e fz heq
      subst hx'
      refine ⟨_, heq, cs, e, fz, rfl, ?_⟩
      have : Lo.lo r = r / nnOf w := by show (if r < z3o w then r / nnOf w else 0) = _; rw [if_pos q.1]
      rw [this]
      exact zji hs (Nat.le_total _ _)
    · exact (hn hx').elim
  · exfalso
    obtain ⟨x, h1, h2, h3⟩ := ls
    have hx' : x = rowW w s := (Option.some.inj h1).symm
    unfold rowW at hx'
    split at hx'
    · split at hx'
      · exact h3 _ hx'
      · exact h2 hx'
    · exact h2 hx'
  · obtain ⟨q, rfl⟩ := valid hb
    exact q.2
  · have hx' : x = rowW w (w.heap.size + 1) := (Option.some.inj hx).symm
    rw [hx']
    unfold rowW
    rw [if_neg]
    intro q
    have : (w.heap.size + 1) % nnOf w = w.heap.size + 1 := Nat.mod_eq_of_lt (by unfold nnOf; omega)
    omega
theorem run_world (hm : P.follows .mixedOrders = true) {nvs : List (Nat × Nat)} {w : World} (hs : NG ≤ w.heap.size) {S : Kn} (hS : @Kn.Ok (worldLo w hs) P S) {m : Nat} {f : FuncId} {us : List Value} {v : Value} {args' : Array Value}
    (hrun : z06 f us (z07 P nvs S m) (hpW w) (z3o w) = .gen v (hpW w) (z3o w) []) (hgr : ground v = true) (hv : @VL (worldLo w hs) (renOf w) us args'.toList) :
    Calls P f args' w fun e w' => e = .returned v ∧ Below w.heap.size w w' := by
  letI := worldLo w hs
  have hd : Dom (renOf w) (z3o w) := ⟨Nat.le_refl _, fun r b hb => by
    unfold renOf at hb
    simp only at hb
    split at hb
    · rename_i q; exact q.1
    · cases hb⟩
  have hgl : ∀ g, g < NG → (renOf w).blk g = some g := fun g hg => by
    unfold renOf
    have h1 : g % nnOf w = g := Nat.mod_eq_of_lt (by unfold nnOf; omega)
    have h2 : g < z3o w := Nat.lt_of_lt_of_le (by unfold nnOf; omega) (nn_le w)
    simp only
    rw [if_pos ⟨h2, by rw [h1]; omega⟩, h1]
  have hc := z4j (zom (nvs := nvs) (z4c hm) hS m) (zoi hs) hd hgl zrh hv (f := f)
  rw [hrun] at hc
  refine (callsIn_wide.1 hc).mono fun e w' q => ?_
  obtain ⟨v', R', h1, h2, h3⟩ := q
  have := z0q hgr h2
  subst this
  exact ⟨h1, h3.os, h3.tape, h3.output, h3.size, fun k hk => h3.kept k hk fun m hm => by simp at hm⟩
end Lm
end Go
namespace Go
namespace Lm
theorem z8z {w : World} {b p : Nat} {u : Value} (h : w.cell? ⟨b, p, none⟩ = some u) : ∃ cs e fz, w.heap[b]? = some (.cells cs e fz) ∧ cs[p]? = some u := by
  unfold World.cell? at h
  split at h
  · rename_i cs e fz heq
    exact ⟨cs, e, fz, heq, by simpa using h⟩
  · cases h
def enc1 (w : World) (u : Value) : Value := (encV w u).getD zof
theorem zjh {w : World} {o k : Nat} {cs : Array Value} (hk : ∀ i, i < k → ∃ u, cs[o + i]? = some u ∧ (encV w u).isSome = true) : o + k ≤ (z3p w o cs).length ∨ k = 0 := by
  rcases Nat.eq_zero_or_pos k with h0 | h0
  · exact .inr h0
  left
  obtain ⟨u, hu, _⟩ := hk (k - 1) (by omega)
  have hlt := (Array.getElem?_eq_some_iff.1 hu).1
  have h1 := ztk (fun v => (encV w v).isSome) (cs.toList.drop o) k (fun i hi => by
    obtain ⟨u, a, b⟩ := hk i hi
    exact ⟨u, by rw [List.getElem?_drop, Array.getElem?_toList]; exact a, b⟩) (k - 1) (by omega)
  rw [List.getElem?_drop, show cs.toList[o + (k - 1)]? = cs[o + (k - 1)]? from Array.getElem?_toList, hu] at h1
  have := (List.getElem?_eq_some_iff.1 h1).1
  unfold z3p
  rw [List.length_append, List.length_replicate, List.length_map, Nat.min_eq_left (by omega)]
  omega
theorem zbd {w : World} {o k i : Nat} {cs : Array Value} {u : Value} (hk : ∀ i, i < k → ∃ u, cs[o + i]? = some u ∧ (encV w u).isSome = true) (hi : i < k) (hu : cs[o + i]? = some u) : (z3p w o cs)[o + i]? = some (enc1 w u) := by
  have hlt := (Array.getElem?_eq_some_iff.1 hu).1
  have h1 := ztk (fun v => (encV w v).isSome) (cs.toList.drop o) k (fun i hi => by
    obtain ⟨u, a, b⟩ := hk i hi
    exact ⟨u, by rw [List.getElem?_drop, Array.getElem?_toList]; exact a, b⟩) i hi
  rw [List.getElem?_drop, show cs.toList[o + i]? = cs[o + i]? from Array.getElem?_toList, hu] at h1
  unfold z3p
  rw [Nat.min_eq_left (by omega), List.getElem?_append, List.length_replicate, if_neg (by omega), List.getElem?_map]
  rw [show o + i - o = i by omega, h1]
  rfl
theorem zlw {w : World} {b off sz c : Nat} {rows : List (List Value)} (hb : b < w.heap.size) (hsz : 0 < sz) (hlen : ∀ r, r ∈ rows → r.length = sz)
    (hc : ∀ i r j u, rows[i]? = some r → r[j]? = some u → w.cell? ⟨b, off + (i * sz + j), none⟩ = some u) (hok : ∀ r, r ∈ rows → ∀ u, u ∈ r → (encV w u).isSome = true) (hpos : 0 < rows.length) :
    Lst (hpW w) (z3o w) sz (.slice (some ⟨z33 w b off, off, none⟩) rows.length c) (rows.map fun r => r.map (enc1 w)) ∧ off < z9q w := by
  have h00 : ∃ u, w.cell? ⟨b, off, none⟩ = some u := by
    have hr := List.getElem?_eq_getElem hpos
    have hl := hlen _ (List.getElem_mem hpos)
    have hu := List.getElem?_eq_getElem (l := rows[0]) (i := 0) (by omega)
    exact ⟨_, by simpa using hc 0 _ 0 _ hr hu⟩
  obtain ⟨u0, hu0⟩ := h00
  obtain ⟨cs, e, fz, hcs, hcu⟩ := z8z hu0
  have htop : off < z9q w := by
    have := zhm hcs
    have := (Array.getElem?_eq_some_iff.1 hcu).1
    omega
  obtain ⟨m1, m2, m3⟩ := zls hb htop
  have hrow : rowL (hpW w) (z33 w b off) = some (z3p w off cs) := by
    unfold rowL
    have : hget (hpW w) (z33 w b off) = some (rowW w (z33 w b off)) := rfl
    rw [this]
    unfold rowW
    rw [if_pos ⟨m1, by rw [m2]; exact hb⟩, m2, m3, hcs]
  have cell : ∀ {p u}, w.cell? ⟨b, p, none⟩ = some u → cs[p]? = some u := fun {p u} h => by
    obtain ⟨cs', e', fz', h1, h2⟩ := z8z h
    rw [hcs] at h1
    cases h1
    exact h2
  have hk : ∀ i, i < rows.length * sz → ∃ u, cs[off + i]? = some u ∧ (encV w u).isSome = true := fun i hi => by
    have hd : i / sz < rows.length := (Nat.div_lt_iff_lt_mul hsz).2 hi
    have hr := List.getElem?_eq_getElem hd
    have hm := List.getElem_mem hd
    have hl := hlen _ hm
    have hj : i % sz < (rows[i / sz]).length := by rw [hl]; exact Nat.mod_lt _ hsz
    have hu := List.getElem?_eq_getElem hj
    refine ⟨_, ?_, hok _ hm _ (List.getElem_mem hj)⟩
    have := cell (hc _ _ _ _ hr hu)
    rwa [Nat.mul_comm, Nat.div_add_mod] at this
  refine ⟨⟨_, c, by rw [List.length_map], fun i row hi => ?_⟩, htop⟩
  rw [List.getElem?_map] at hi
  cases hr : rows[i]? with
  | none => rw [hr] at hi; cases hi
  | some r =>
    rw [hr] at hi
    simp only [Option.map_some, Option.some.injEq] at hi
    subst hi
    have hil := (List.getElem?_eq_some_iff.1 hr).1
    have hm := List.mem_of_getElem? hr
    have hl := hlen r hm
    have hmul : (i + 1) * sz ≤ rows.length * sz := Nat.mul_le_mul_right _ hil
    rw [Nat.succ_mul] at hmul
    refine ⟨by rw [List.length_map, hl], z33 w b off, off, z3p w off cs, rfl, m1, hrow, ?_, ?_⟩
    · rcases zjh hk with q | q
      · rw [Nat.succ_mul]; omega
      · have := Nat.mul_pos hpos hsz; omega
    · refine List.ext_getElem? fun j => ?_
      by_cases hj : j < sz
      · rw [List.getElem?_take_of_lt hj, List.getElem?_drop, List.getElem?_map]
        have hu := List.getElem?_eq_getElem (l := r) (i := j) (by omega)
        have hcj := cell (hc i r j _ hr hu)
        rw [Nat.add_assoc, zbd hk (i := i * sz + j) (by omega) hcj, hu]
        rfl
      · rw [List.getElem?_eq_none (by rw [List.length_take]; omega), List.getElem?_eq_none (by rw [List.length_map, hl]; omega)]
theorem z40 {w : World} {sz cap : Nat} {A : Option Addr} {rows : List (List Value)} (hsz : 0 < sz) (hlen : ∀ r, r ∈ rows → r.length = sz) (hcap : rows.length ≤ cap) (hh : cap < HALF)
    (hA : 0 < cap → ∃ b off, A = some ⟨b, off, none⟩ ∧ b < w.heap.size ∧ (∃ u, w.cell? ⟨b, off, none⟩ = some u) ∧ ∀ i r j u, rows[i]? = some r → r[j]? = some u → w.cell? ⟨b, off + (i * sz + j), none⟩ = some u)
    (hok : ∀ r, r ∈ rows → ∀ u, u ∈ r → (encV w u).isSome = true) :
    (encV w (.slice A rows.length cap)).isSome = true ∧ Lst (hpW w) (z3o w) sz (enc1 w (.slice A rows.length cap)) (rows.map fun r => r.map (enc1 w)) := by
  unfold enc1
  rcases Nat.eq_zero_or_pos cap with h0 | h0
  · have hr : rows = [] := List.eq_nil_of_length_eq_zero (by omega)
    subst hr
    subst h0
    cases A with
    | none => exact ⟨rfl, none, 0, rfl, fun i row hi => by simp at hi⟩
    | some a => exact ⟨rfl, some ⟨w.heap.size + 1, 0, none⟩, 0, rfl, fun i row hi => by simp at hi⟩
  · obtain ⟨b, off, rfl, hb, ⟨u, hu⟩, hc⟩ := hA h0
    obtain ⟨cs, e, fz, hcs, hcu⟩ := z8z hu
    have htop : off < z9q w := by
      have := zhm hcs
      have := (Array.getElem?_eq_some_iff.1 hcu).1
      omega
    have he : encV w (.slice (some ⟨b, off, none⟩) rows.length cap) = some (.slice (some ⟨z33 w b off, off, none⟩) rows.length cap) := by
      unfold encV
      have h1 : ¬ (rows.length = 0 ∧ cap = 0) := by omega
      simp only
      rw [if_neg h1, if_pos ⟨trivial, hb, htop, hh, hcap⟩]
    rw [he]
    refine ⟨rfl, ?_⟩
    rcases Nat.eq_zero_or_pos rows.length with hr0 | hr0
    · have hr : rows = [] := List.eq_nil_of_length_eq_zero hr0
      subst hr
      exact ⟨_, cap, rfl, fun i row hi => by simp at hi⟩
    · exact (zlw hb hsz hlen hc hok hr0).1
end Lm
end Go
namespace Go.Proofs.YtcmkngajdckndaaGreatDoor
open Go Go.Proofs Go.RowKit Go.Deep Go.ChangeShapes Go.WideShapes
open Go.Lm (vi hpW z3o encV enc1 Lst z40 HALF)
set_option maxHeartbeats 1000000
set_option maxRecDepth 10000
theorem zbr {H : Type} {P : Program} {e : TypeId} {l : List (DataW H)} {d : DataW H} (h : d ∈ l) : ∀ n ∈ d.weights P e, n ∈ DataW.weightsAll P e l := by
  induction l with
  | nil => cases h
  | cons x r ih =>
    intro n hn
    simp only [DataW.weightsAll, List.mem_append]
    rcases List.mem_cons.1 h with rfl | h1
    · exact .inl hn
    · exact .inr (ih h1 n hn)
abbrev Fair {H : Type} (P : Program) (t : TypeId) (d : DataW H) : Prop := ∀ n ∈ d.weights P t, n ≤ reachBytes
theorem zg2 {w : World} {a : Addr} {v : Value} (h : w.cell? a = some v) : a.spot = none ∧ a.block < w.heap.size := by
  unfold World.cell? at h
  split at h
  · rename_i ho
    refine ⟨?_, (Array.getElem?_eq_some_iff.1 ho).1⟩
    split at h
    · cases h
    · rename_i hs; simpa using hs
  · cases h
structure SlW (w : World) (sz : Nat) (A : Option Addr) (cap : Nat) (rows : List (List Value)) : Prop where
  len : rows.length ≤ cap
  few : cap ≤ 140737488351232
  lies : 0 < cap → ∃ b off, A = some ⟨b, off, none⟩ ∧ b < w.heap.size ∧ (∃ u, w.cell? ⟨b, off, none⟩ = some u) ∧ ∀ i r j u, rows[i]? = some r → r[j]? = some u → w.cell? ⟨b, off + (i * sz + j), none⟩ = some u
section
variable {H : Type} {enc : TypeId × Value → H} {P : Program} {w : World}
theorem za6 {α : Type} [Inhabited α] {t e : TypeId} (code : α → List Value) (Q : α → Prop) {sz : Nat} (ht : P.underlying t = some (.slice e)) (hsz : P.cellsOf e = sz) (h0 : 0 < sz) (hb1 : 1 ≤ P.bytesOf e)
    (dec : ∀ (n : Nat) (cs : List Value) (y : DataW H × List MemPlace), DataW.trod enc P w 0 (fun _ => true) true n e cs = some y → Fair P e y.1 → ∃ x : α, cs = code x ∧ (code x).length = sz ∧ Q x)
    {fuel : Nat} {cs : List Value} {x : DataW H × List MemPlace} (h : DataW.trod enc P w 0 (fun _ => true) true fuel t cs = some x) (hw : Fair P t x.1) :
    ∃ (A : Option Addr) (cap : Nat) (l : List α), cs = [.slice A l.length cap] ∧ SlW w sz A cap (l.map code) ∧ (∀ x ∈ l, (code x).length = sz) ∧ ∀ x ∈ l, Q x := by
  rcases open_slice ht h with ⟨rfl, rfl⟩ | ⟨a, len, cap, m, n, D, Pl, rfl, _, hl, hm, hmm, rfl, hxx⟩
  · exact ⟨none, 0, [], rfl, ⟨by simp, by omega, fun h => by omega⟩, fun x hx => (by cases hx), fun x hx => by cases hx⟩
  · simp only [if_true] at hmm
    subst hmm
    have hwt : (len + (m - len)) * P.bytesOf e ≤ reachBytes := by
      refine hw _ ?_
      simp [DataW.weights, ht]
    have hcap : m ≤ 140737488351232 := by
      have h1 : m * 1 ≤ m * P.bytesOf e := Nat.mul_le_mul_left _ hb1
      rw [show len + (m - len) = m by omega] at hwt
      unfold reachBytes at hwt
      omega
    have hfair : ∀ i, i < len → Fair P e (D i) := by
      intro i hi k hk
      refine hw k ?_
      simp only [DataW.weights, ht, List.mem_cons, List.mem_append]
      exact .inr (.inl (zbr (List.mem_map.2 ⟨i, List.mem_range.2 hi, rfl⟩) k hk))
    obtain ⟨f, hf⟩ := choose_lt (n := len) (p := fun i (x : α) => w.cells? 0 (a.add (i * P.cellsOf e)) (P.cellsOf e) = some (code x) ∧ (code x).length = sz ∧ Q x) (fun i hi => by
      obtain ⟨cs', h1, h2⟩ := hxx i (by omega)
      obtain ⟨x, rfl, hq0, hq⟩ := dec n cs' _ h2 (hfair i hi)
      exact ⟨x, h1, hq0, hq⟩)
    have key : 0 < m → ∃ b off, some a = some ⟨b, off, none⟩ ∧ b < w.heap.size ∧ (∃ u, w.cell? ⟨b, off, none⟩ = some u) ∧ ∀ i r j u, (((List.range len).map f).map code)[i]? = some r → r[j]? = some u → w.cell? ⟨b, off + (i * sz + j), none⟩ = some u := fun hpos => by
      obtain ⟨cs0, hc0, _⟩ := hxx 0 hpos
      obtain ⟨_, hcl, hcc⟩ := World.cells?_some hc0
      have hz := hcc 0 (by omega)
      rw [Nat.zero_mul] at hz
      have hz' : w.cell? a = cs0[0]? := by simpa [Addr.add] using hz
      rw [List.getElem?_eq_getElem (by omega)] at hz'
      obtain ⟨hs, hb⟩ := zg2 hz'
      obtain ⟨b, off, spot⟩ := a
      simp only at hs hb
      subst hs
      refine ⟨b, off, rfl, hb, ⟨_, hz'⟩, fun i r j u hr hu => ?_⟩
      rw [List.getElem?_map, List.getElem?_map] at hr
      by_cases hi : i < len
      · simp only [List.getElem?_range hi, Option.map_some, Option.some.injEq] at hr
        subst hr
        obtain ⟨_, _, hcj⟩ := World.cells?_some (hf i hi).1
        have hj : j < sz := by
          have := (List.getElem?_eq_some_iff.1 hu).1
          rw [(hf i hi).2.1] at this; exact this
        have := hcj j (by omega)
        rw [add_add, hu, hsz] at this
        rw [← this]
        congr 1
        unfold Addr.add
        split
        · simp_all
        · simp
      · rw [List.getElem?_eq_none (by simpa using hi)] at hr
        cases hr
    refine ⟨some a, m, (List.range len).map f, by simp, ⟨by simpa using hl, hcap, key⟩, fun x hx => ?_, fun x hx => ?_⟩
    · obtain ⟨i, hi, rfl⟩ := List.mem_map.1 hx
      exact (hf i (List.mem_range.1 hi)).2.1
    · obtain ⟨i, hi, rfl⟩ := List.mem_map.1 hx
      exact (hf i (List.mem_range.1 hi)).2.2
end
section
variable {H : Type} {enc : TypeId × Value → H} {w : World}
abbrev Rd (P : Program) (enc : TypeId × Value → H) (w : World) (n : Nat) (t : TypeId) (cs : List Value) : Option (DataW H × List MemPlace) := DataW.trod enc P w 0 (fun _ => true) true n t cs
theorem z58 {t : TypeId} {L : List (TypeId × Nat)} (hu : Tryz.prog.underlying t = some (.struct (Tryz.prog.fieldsOf t))) (hL : ((Tryz.prog.fieldsOf t).toList.map fun f => (f.type, f.offset)) = L)
    {n : Nat} {cs : List Value} {y : DataW H × List MemPlace} (h : Rd Tryz.prog enc w n t cs = some y) (hy : Fair Tryz.prog t y.1) :
    cs.length = Tryz.prog.cellsOf t ∧ ∃ m, ∀ (i : Nat) (ty : TypeId) (off : Nat), L[i]? = some (ty, off) → ∃ z, Rd Tryz.prog enc w m ty ((cs.drop off).take (Tryz.prog.cellsOf ty)) = some z ∧ Fair Tryz.prog ty z.1 := by
  obtain ⟨xs, m, _, rfl, hl, hlen, hf⟩ := DataW.trod_struct hu h
  refine ⟨hl, m, fun i ty off hi => ?_⟩
  rw [← hL, List.getElem?_map] at hi
  cases hfi : (Tryz.prog.fieldsOf t).toList[i]? with
  | none => rw [hfi] at hi; cases hi
  | some f =>
    rw [hfi] at hi
    simp only [Option.map_some, Option.some.injEq, Prod.mk.injEq] at hi
    obtain ⟨rfl, rfl⟩ := hi
    have h1 := hf i f (by simpa using hfi)
    have hilt : i < xs.length := by
      have := (List.getElem?_eq_some_iff.1 hfi).1
      rw [hlen]; simpa using this
    rw [List.getElem?_eq_getElem hilt] at h1
    refine ⟨_, h1, fun k hk => hy k ?_⟩
    simp only [DataW.weights, hu]
    exact DataW.weights_mem_each (j := i) (by rw [List.getElem?_map, hfi]; rfl) (by rw [List.getElem?_map, List.getElem?_eq_getElem hilt]; rfl) k hk
theorem z2f {n : Nat} {cs : List Value} {y : DataW H × List MemPlace} (h : Rd Tryz.prog enc w n 3 cs = some y) : ∃ k, cs = [vi k] := by
  obtain ⟨k, h1, _⟩ := DataW.trod_int Tryz.underlying3 h
  exact ⟨k, h1⟩
theorem zsj {α : Type} {l : List α} (h : l.length = 2) : ∃ a b, l = [a, b] := by
  match l, h with
  | [a, b], _ => exact ⟨a, b, rfl⟩
theorem zuw {α : Type} {l : List α} (h : l.length = 4) : ∃ a b c d, l = [a, b, c, d] := by
  match l, h with
  | [a, b, c, d], _ => exact ⟨a, b, c, d, rfl⟩
theorem zwc {α : Type} {l : List α} (h : l.length = 7) : ∃ a b c d e f g, l = [a, b, c, d, e, f, g] := by
  match l, h with
  | [a, b, c, d, e, f, g], _ => exact ⟨a, b, c, d, e, f, g, rfl⟩
theorem up : Tryz.prog.underlying 89 = some (.struct (Tryz.prog.fieldsOf 89)) := by kernel_rfl
theorem lp : ((Tryz.prog.fieldsOf 89).toList.map fun f => (f.type, f.offset)) = [(3, 0), (3, 1), (3, 2), (4, 3)] := by kernel_rfl
theorem uk : Tryz.prog.underlying 71 = some (.struct (Tryz.prog.fieldsOf 71)) := by kernel_rfl
theorem lk : ((Tryz.prog.fieldsOf 71).toList.map fun f => (f.type, f.offset)) = [(3, 0), (3, 1), (24, 2), (3, 3)] := by kernel_rfl
theorem ub : Tryz.prog.underlying 26 = some (.struct (Tryz.prog.fieldsOf 26)) := by kernel_rfl
theorem lb : ((Tryz.prog.fieldsOf 26).toList.map fun f => (f.type, f.offset)) = [(22, 0), (23, 1), (3, 2), (3, 3), (3, 4), (3, 5), (24, 6)] := by kernel_rfl
theorem k3 : Tryz.prog.cellsOf 3 = 1 := by kernel_rfl
theorem k4c : Tryz.prog.cellsOf 4 = 1 := by kernel_rfl
theorem k22c : Tryz.prog.cellsOf 22 = 1 := by kernel_rfl
theorem k23c : Tryz.prog.cellsOf 23 = 1 := by kernel_rfl
theorem k24c : Tryz.prog.cellsOf 24 = 1 := by kernel_rfl
theorem k26c : Tryz.prog.cellsOf 26 = 7 := by kernel_rfl
theorem k71c : Tryz.prog.cellsOf 71 = 4 := by kernel_rfl
theorem k89c : Tryz.prog.cellsOf 89 = 4 := by kernel_rfl
theorem b3 : 1 ≤ Tryz.prog.bytesOf 3 := by decide +kernel
theorem b71 : 1 ≤ Tryz.prog.bytesOf 71 := by decide +kernel
theorem b89 : 1 ≤ Tryz.prog.bytesOf 89 := by decide +kernel
instance : Inhabited Pc := ⟨⟨0, 0, 0, false⟩⟩
structure KdW where
  room : Int
  most : Int
  A : Option Addr
  cap : Nat
  zs : List Int
  step : Int
instance : Inhabited KdW := ⟨⟨0, 0, none, 0, [], 0⟩⟩
def intC (n : Int) : List Value := [vi n]
def KdW.code (x : KdW) : List Value := [vi x.room, vi x.most, .slice x.A x.zs.length x.cap, vi x.step]
def KdW.Lies (w : World) (x : KdW) : Prop := SlW w 1 x.A x.cap (x.zs.map intC)
theorem zj1 (n : Nat) (cs : List Value) (y : DataW H × List MemPlace) (h : Rd Tryz.prog enc w n 89 cs = some y) (hy : Fair Tryz.prog 89 y.1) : ∃ x : Pc, cs = x.row ∧ x.row.length = 4 ∧ True := by
  obtain ⟨hl, m, hm⟩ := z58 up lp h hy
  obtain ⟨c0, c1, c2, c3, rfl⟩ := zuw (hl.trans k89c)
  obtain ⟨z0, h0, _⟩ := hm 0 _ _ rfl
  obtain ⟨z1, h1, _⟩ := hm 1 _ _ rfl
  obtain ⟨z2, h2, _⟩ := hm 2 _ _ rfl
  obtain ⟨z3, h3, _⟩ := hm 3 _ _ rfl
  rw [k3] at h0 h1 h2
  rw [k4c] at h3
  obtain ⟨a, e0⟩ := z2f h0
  obtain ⟨b, e1⟩ := z2f h1
  obtain ⟨c, e2⟩ := z2f h2
  obtain ⟨d, e3, _⟩ := DataW.trod_bool Tryz.underlying4 h3
  simp at e0 e1 e2 e3
  exact ⟨⟨a, b, c, d⟩, by rw [e0, e1, e2, e3]; rfl, rfl, trivial⟩
theorem z9w {n : Nat} {cs : List Value} {y : DataW H × List MemPlace} (h : Rd Tryz.prog enc w n 24 cs = some y) (hy : Fair Tryz.prog 24 y.1) : ∃ (A : Option Addr) (cap : Nat) (l : List Int), cs = [.slice A l.length cap] ∧ SlW w 1 A cap (l.map intC) := by
  obtain ⟨A, cap, l, h1, h2, _⟩ := za6 (α := Int) intC (fun _ => True) Tryz.underlying24 k3 (by omega) b3 (fun n cs y hn _ => by
    obtain ⟨k, e⟩ := z2f hn
    exact ⟨k, e, rfl, trivial⟩) h hy
  exact ⟨A, cap, l, h1, h2⟩
theorem zkl (n : Nat) (cs : List Value) (y : DataW H × List MemPlace) (h : Rd Tryz.prog enc w n 71 cs = some y) (hy : Fair Tryz.prog 71 y.1) : ∃ x : KdW, cs = x.code ∧ x.code.length = 4 ∧ x.Lies w := by
  obtain ⟨hl, m, hm⟩ := z58 uk lk h hy
  obtain ⟨c0, c1, c2, c3, rfl⟩ := zuw (hl.trans k71c)
  obtain ⟨z0, h0, _⟩ := hm 0 _ _ rfl
  obtain ⟨z1, h1, _⟩ := hm 1 _ _ rfl
  obtain ⟨z2, h2, y2⟩ := hm 2 _ _ rfl
  obtain ⟨z3, h3, _⟩ := hm 3 _ _ rfl
  rw [k3] at h0 h1 h3
  rw [k24c] at h2
  obtain ⟨a, e0⟩ := z2f h0
  obtain ⟨b, e1⟩ := z2f h1
  obtain ⟨A, cap, l, e2, q⟩ := z9w h2 y2
  obtain ⟨d, e3⟩ := z2f h3
  simp at e0 e1 e2 e3
  exact ⟨⟨a, b, A, cap, l, d⟩, by rw [e0, e1, e2, e3]; rfl, rfl, q⟩
theorem zkm {v : Value} {d : DataW H} {ps : List MemPlace} {base : Nat} (hv : Value.okWide Tryz.prog w .any base 26 v) (h : DataW.Trod enc Tryz.prog w 0 (fun _ => true) true 26 v d ps) (hd : Fair Tryz.prog 26 d) :
    ∃ (A : Option Addr) (ca : Nat) (P : List Pc) (B : Option Addr) (cb : Nat) (K : List KdW) (C : Option Addr) (cc : Nat) (S : List Int) (g f u e : Int),
      v = .agg #[.slice A P.length ca, .slice B K.length cb, vi g, vi f, vi u, vi e, .slice C S.length cc] ∧ SlW w 4 A ca (P.map Pc.row) ∧ SlW w 4 B cb (K.map KdW.code) ∧ (∀ x ∈ K, x.Lies w) ∧ SlW w 1 C cc (S.map intC) := by
  unfold Value.okWide at hv
  rw [ub] at hv
  obtain ⟨cs, rfl, hsz, _⟩ := hv
  obtain ⟨n, h⟩ := h
  obtain ⟨hl, m, hm⟩ := z58 ub lb h hd
  obtain ⟨c0, c1, c2, c3, c4, c5, c6, hcs⟩ := zwc (hl.trans k26c)
  have hcs' : cs.toList = [c0, c1, c2, c3, c4, c5, c6] := hcs
  have ea : cs = #[c0, c1, c2, c3, c4, c5, c6] := by rw [← Array.toArray_toList (xs := cs), hcs']
  subst ea
  obtain ⟨z0, h0, y0⟩ := hm 0 _ _ rfl
  obtain ⟨z1, h1, y1⟩ := hm 1 _ _ rfl
  obtain ⟨z2, h2, _⟩ := hm 2 _ _ rfl
  obtain ⟨z3, h3, _⟩ := hm 3 _ _ rfl
  obtain ⟨z4, h4, _⟩ := hm 4 _ _ rfl
  obtain ⟨z5, h5, _⟩ := hm 5 _ _ rfl
  obtain ⟨z6, h6, y6⟩ := hm 6 _ _ rfl
  rw [k3] at h2 h3 h4 h5
  rw [k22c] at h0
  rw [k23c] at h1
  rw [k24c] at h6
  obtain ⟨A, ca, P, e0, q0, _⟩ := za6 (α := Pc) Pc.row (fun _ => True) Tryz.underlying22 k89c (by omega) b89 zj1 h0 y0
  obtain ⟨B, cb, K, e1, q1, _, q1'⟩ := za6 (α := KdW) KdW.code (KdW.Lies w) Tryz.underlying23 k71c (by omega) b71 zkl h1 y1
  obtain ⟨g, e2⟩ := z2f h2
  obtain ⟨f, e3⟩ := z2f h3
  obtain ⟨u, e4⟩ := z2f h4
  obtain ⟨e, e5⟩ := z2f h5
  obtain ⟨C, cc, S, e6, q6⟩ := z9w h6 y6
  simp [Value.cells] at e0 e1 e2 e3 e4 e5 e6
  exact ⟨A, ca, P, B, cb, K, C, cc, S, g, f, u, e, by rw [e0, e1, e2, e3, e4, e5, e6], q0, q1, q1', q6⟩
end
open Go Go.RowKit Go.Deep Go.ChangeShapes Go.WideShapes Go.ChangeAt
open Go.Lm (vi)
set_option maxHeartbeats 1000000
theorem zo6 : ownKnob Tryz.prog.godebug = none := by kernel_rfl
theorem kids : Kids Tryz.prog (· < Tryz.prog.types.size) := kids_rows (by kernel_rfl) (by kernel_rfl)
theorem full : ∀ t e, t < Tryz.prog.types.size → Tryz.prog.underlying t = some (.slice e) → 0 < Tryz.prog.cellsOf e := slices_full_of Tryz.prog (by kernel_rfl)
section
variable {H : Type} {enc : TypeId × Value → H}
theorem zg3 {P : Program} {w w' : World} {b : Nat} {sp : Nat → Bool} {hd : Bool} : ∀ {ts : List TypeId} {vs : List Value} {ds : List (DataW H)} {ps : List MemPlace}, DataW.TrodAll enc P w b sp hd ts vs ds ps → (∀ p ∈ ps, w.sameAt w' p) → DataW.TrodAll enc P w' b sp hd ts vs ds ps
  | [], [], [], _, h, _ => h
  | _ :: _, _ :: _, _ :: _, _, ⟨p, q, ⟨n, h1⟩, h2, e⟩, hs =>
    ⟨p, q, ⟨n, DataW.trod_carry n _ _ _ h1 fun x hx => hs x (by rw [e]; exact List.mem_append_left _ hx)⟩, zg3 h2 fun x hx => hs x (by rw [e]; exact List.mem_append_right _ hx), e⟩
theorem zkv {s : ChangeSpec} {fn : Func} {W W' : World} {args : Array Value} {ds gs : List (DataW H)} {before : List MemPlace}
    (hW : DataW.Whole enc Tryz.prog fn.params.toList s.vars false W args.toList ds gs before) (hv : s.vars = []) (hs : s.fn H ds = { results := [.lit (.bool true)], args := ds })
    (ht : fn.resultTypes = #[4]) (hp : ∀ t ∈ fn.params.toList, t < Tryz.prog.types.size) (hb : Below W.heap.size W W') :
    s.post enc Tryz.prog fn false true false false W args (.bool true) W' := by
  have hW0 := hW
  obtain ⟨p, q, hA, hV, rfl, hfz, hnd⟩ := hW
  rw [hv] at hV
  obtain ⟨rfl, rfl⟩ := trodVars_none hV
  have hlt : ∀ x ∈ p, x.block < W.heap.size := fun x hx => hW0.lt x (by simpa using hx)
  refine ⟨ds, [], p ++ [], [], p, [], hW0, ?_, ?_, ?_, ?_, fun h => by cases h⟩
  · rw [ht, List.append_nil, hs]
    exact trodAll_cons_mk (shut_bool Tryz.underlying4 true) trodAll_mk0
  · rw [List.append_nil, hs]
    exact DataW.TrodAll.respare kids full hp (zg3 hA fun x hx => hb.same (hlt x hx)) fun x hx => by simpa using hlt x hx
  · rw [hv, List.append_nil, hs]
    rfl
  · exact World.keptBut_mono (fun _ h => h.elim) (hb.frame fun _ => False)
end
section
variable {H : Type} {enc : TypeId × Value → H} {w : World} {sp : Nat → Bool} {hd : Bool} {base : Nat}
theorem ks : Tryz.prog.cellsOf 104 = 2 := by kernel_rfl
theorem us : Tryz.prog.underlying 104 = some (.struct (Tryz.prog.fieldsOf 104)) := by kernel_rfl
theorem ls : ((Tryz.prog.fieldsOf 104).toList.map fun f => (f.type, f.offset)) = [(3, 0), (3, 1)] := by kernel_rfl
theorem zhn {n : Nat} {cs : List Value} {y : DataW H × List MemPlace} (h : DataW.trod enc Tryz.prog w base sp hd n 3 cs = some y) : ∃ k, cs = [vi k] ∧ y.1 = .lit (.int .i64 k) := by
  obtain ⟨k, h1, h2, _⟩ := DataW.trod_int Tryz.underlying3 h
  exact ⟨k, h1, by rw [h2]⟩
theorem zkh {n : Nat} {cs : List Value} {y : DataW H × List MemPlace} (h : DataW.trod enc Tryz.prog w base sp hd n 104 cs = some y) : ∃ a b, cs = [vi a, vi b] ∧ y.1 = .agg [.lit (.int .i64 a), .lit (.int .i64 b)] := by
  obtain ⟨xs, m, _, rfl, hl, hlen, hf⟩ := DataW.trod_struct us h
  obtain ⟨c0, c1, rfl⟩ := zsj (hl.trans ks)
  have hsz : (Tryz.prog.fieldsOf 104).size = 2 := by kernel_rfl
  rw [hsz] at hlen
  obtain ⟨x0, x1, rfl⟩ := zsj hlen
  have key : ∀ (i ty off : Nat), ((Tryz.prog.fieldsOf 104).toList.map fun f => (f.type, f.offset))[i]? = some (ty, off) → DataW.trod enc Tryz.prog w base sp hd m ty (([c0, c1].drop off).take (Tryz.prog.cellsOf ty)) = [x0, x1][i]? := by
    intro i ty off hi
    rw [List.getElem?_map] at hi
    cases hfi : (Tryz.prog.fieldsOf 104).toList[i]? with
    | none => rw [hfi] at hi; cases hi
    | some f =>
      rw [hfi] at hi
      simp only [Option.map_some, Option.some.injEq, Prod.mk.injEq] at hi
      obtain ⟨rfl, rfl⟩ := hi
      exact hf i f (by simpa using hfi)
  have h0 := key 0 3 0 (by rw [ls]; rfl)
  have h1 := key 1 3 1 (by rw [ls]; rfl)
  rw [k3] at h0 h1
  obtain ⟨a, e0, d0⟩ := zhn h0
  obtain ⟨b, e1, d1⟩ := zhn h1
  simp at e0 e1
  exact ⟨a, b, by rw [e0, e1], by simp [d0, d1]⟩
end
def lo0 (k : Nat) : Int := ([1, 1, 1, 0, 1, 0, 1, 0, 1, 1, 0] : List Int).getD k 0
def hi0 (k : Nat) : Int := ([7, 500, 5000, 10000, 4, 4, 1000, 1000, 10000, 5, 20000] : List Int).getD k 0
theorem g0N : Tryz.prog.globalNamed "wishbook/parcel.limits" = some 0 := by kernel_rfl
theorem g0T : (Tryz.prog.globals[0]?).map (·.type) = some 105 := by kernel_rfl
theorem g0U : Tryz.prog.underlying 105 = some (.array 11 104) := by kernel_rfl
theorem lim0 {W : World} {ps : List MemPlace} {cs : Array Value} {fuel : Nat} (hvar : W.var? Tryz.prog "wishbook/parcel.limits" = some cs) (hd : DataW.trod (fun _ => ()) Tryz.prog W 0 (fun _ => true) false fuel 105 cs.toList = some (Rows.laid_wishbook_parcel_limits, ps)) :
    ∀ k : Nat, k < 11 → W.cell? ⟨0, k * 2, none⟩ = some (vi (lo0 k)) ∧ W.cell? ⟨0, k * 2 + 1, none⟩ = some (vi (hi0 k)) := by
  obtain ⟨xs, m, _, hx, hl, hlen, hf⟩ := DataW.trod_array g0U hd
  have hcell := World.var?_cell g0N hvar
  have hxs : xs.map (·.1) = [.agg [.lit (.int .i64 1), .lit (.int .i64 7)], .agg [.lit (.int .i64 1), .lit (.int .i64 500)], .agg [.lit (.int .i64 1), .lit (.int .i64 5000)], .agg [.lit (.int .i64 0), .lit (.int .i64 10000)], .agg [.lit (.int .i64 1), .lit (.int .i64 4)], .agg [.lit (.int .i64 0), .lit (.int .i64 4)], .agg [.lit (.int .i64 1), .lit (.int .i64 1000)], .agg [.lit (.int .i64 0), .lit (.int .i64 1000)], .agg [.lit (.int .i64 1), .lit (.int .i64 10000)], .agg [.lit (.int .i64 1), .lit (.int .i64 5)], .agg [.lit (.int .i64 0), .lit (.int .i64 20000)]] := by
    have := congrArg Prod.fst hx
    simpa [Rows.laid_wishbook_parcel_limits] using this.symm
  have key : ∀ (k : Nat) (a b : Int), k < 11 → (xs.map (·.1))[k]? = some (.agg [.lit (.int .i64 a), .lit (.int .i64 b)]) → W.cell? ⟨0, k * 2, none⟩ = some (vi a) ∧ W.cell? ⟨0, k * 2 + 1, none⟩ = some (vi b) := by
    intro k a b hk hkx
    have h1 := hf k hk
    rw [ks] at h1
    rw [List.getElem?_map] at hkx
    cases hxk : xs[k]? with
    | none => rw [hxk] at hkx; cases hkx
    | some z =>
      rw [hxk] at h1 hkx
      obtain ⟨a', b', e, hz⟩ := zkh h1
      simp only [Option.map_some, Option.some.injEq] at hkx
      rw [hz] at hkx
      simp only [DataW.agg.injEq, List.cons.injEq, DataW.lit.injEq, Lit.int.injEq, true_and, and_true] at hkx
      obtain ⟨rfl, rfl⟩ := hkx
      have e0 := congrArg (fun l : List Value => l[0]?) e
      have e1 := congrArg (fun l : List Value => l[1]?) e
      simp only [List.getElem?_take, List.getElem?_drop, List.getElem?_cons_zero, List.getElem?_cons_succ] at e0 e1
      refine ⟨(hcell _).trans ?_, (hcell _).trans ?_⟩
      · simpa using e0
      · simpa using e1
  intro k hk
  have : k = 0 ∨ k = 1 ∨ k = 2 ∨ k = 3 ∨ k = 4 ∨ k = 5 ∨ k = 6 ∨ k = 7 ∨ k = 8 ∨ k = 9 ∨ k = 10 := by omega
  rcases this with rfl | rfl | rfl | rfl | rfl | rfl | rfl | rfl | rfl | rfl | rfl
  all_goals exact key _ _ _ (by omega) (by rw [hxs]; rfl)
theorem zp1 {w : World} {a : Addr} {v : Value} (h : w.cell? a = some v) : ∃ cs e fz, w.heap[a.block]? = some (.cells cs e fz) := by
  unfold World.cell? at h
  split at h
  · rename_i cs e fz hq; exact ⟨cs, e, fz, hq⟩
  · cases h
structure Lim (w : World) : Prop where
  pos : 1 ≤ w.heap.size
  stop : w.cell? ⟨0, 22, none⟩ = none
  l0 : ∀ k : Nat, k < 11 → w.cell? ⟨0, k * 2, none⟩ = some (vi (lo0 k)) ∧ w.cell? ⟨0, k * 2 + 1, none⟩ = some (vi (hi0 k))
theorem zux {W : World} (h : laidMet Tryz.prog [("wishbook/parcel.limits", Rows.laid_wishbook_parcel_limits)] W) : Lim W := by
  obtain ⟨ps, ⟨g0, t0, cs0, fuel0, p0, q0, hg0, ht0, hvar0, hd0, hr0, _⟩, _⟩ := h
  obtain rfl := Option.some.inj (g0N.symm.trans hg0)
  obtain rfl := Option.some.inj (g0T.symm.trans ht0)
  have L0 := lim0 hvar0 hd0
  have := (zg2 (L0 0 (by omega)).1).2
  simp only at this
  have hstop : W.cell? ⟨0, 22, none⟩ = none := by
    obtain ⟨xs, m, _, hx, hl, hlen, hf⟩ := DataW.trod_array g0U hd0
    have hcell := World.var?_cell g0N hvar0 22
    have hk : Tryz.prog.cellsOf 105 = 22 := by kernel_rfl
    rw [hcell]
    have hsz : cs0.size = 22 := by simpa [hk] using hl
    exact Array.getElem?_eq_none (by omega)
  exact ⟨by omega, hstop, L0⟩
noncomputable def zaj (os : Os) : World :=
  { World.holding Tryz.prog os ⟨#[], #[], []⟩ with heap := ((World.holding Tryz.prog os ⟨#[], #[], []⟩).heap.modify 0 (fun
      | .cells _ t frozen => .cells #[vi 1, vi 7, vi 1, vi 500, vi 1, vi 5000, vi 0, vi 10000, vi 1, vi 4, vi 0, vi 4, vi 1, vi 1000, vi 0, vi 1000, vi 1, vi 10000, vi 1, vi 5, vi 0, vi 20000] t frozen
      | o => o)) }
end Go.Proofs.YtcmkngajdckndaaGreatDoor
