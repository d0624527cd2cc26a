/- What the functions of package parcel answer, for any book, and why the law's comparison holds; how a book of a world reads; A machine that takes letters for numbers and lists: what it answers, the program answers (its operations, steps, calls, loops, lists of a world); Rules by which a run of that machine is computed. Conditions: none. -/
import Derived.Test.YtcmkngajdckndaaGreatDoorZ07
import Derived.Test.YtcmkngajdckndaaGreatDoorZ04
import Derived.Test.YtcmkngajdckndaaGreatDoorChecked
import Derived.Deep.Slices
import Derived.Lib.SmallJoins
import Derived.SizedLaws
import Derived.ChangeArms
import Derived.OpenShut
import Derived.Test.YtcmkngajdckndaaGreatDoorCards
import Derived.Test.YtcmkngajdckndaaGreatDoorTie
import Derived.WalkKit
import Derived.ProofKit
import Derived.ReadAgain
import Derived.Deep.DeepHandedRow
import Derived.Lib.LaidTab
set_option linter.unusedVariables false
set_option linter.unusedSimpArgs false
namespace Go.Proofs.YtcmkngajdckndaaGreatDoor
open Go Go.Proofs Go.Lm
set_option maxRecDepth 10000
set_option maxHeartbeats 8000000
theorem gone35_0 {ih : Rec} {z : Z} {vs : Vs} {h : Hp} {nx : Nat} {r : R} (g3 : vs 3 = some (.bool false)) (hr : z0w (sC Tryz.prog 154 154 ih l35_0) z vs h nx = r) : ∃ vs', r = .exi 0 z vs' h nx ∧ vs' 3 = some (.bool false) := by
  obtain ⟨v, e, _, q⟩ := exit35_0 (ih := ih) (z := z) (h := h) (nx := nx) g3
  rw [e] at hr
  exact ⟨v, hr.symm, q⟩
theorem gone35_2 {ih : Rec} {z : Z} {vs : Vs} {h : Hp} {nx : Nat} {r : R} (g3 : vs 3 = some (.bool false)) (hr : z0w (sC Tryz.prog 154 154 ih l35_2) z vs h nx = r) : ∃ vs', r = .exi 2 z vs' h nx ∧ vs' 3 = some (.bool false) := by
  obtain ⟨v, e, _, q⟩ := exit35_2 (ih := ih) (z := z) (h := h) (nx := nx) g3
  rw [e] at hr
  exact ⟨v, hr.symm, q⟩
theorem gone35_3 {ih : Rec} {z : Z} {vs : Vs} {h : Hp} {nx : Nat} {r : R} (g3 : vs 3 = some (.bool false)) (hr : z0w (sC Tryz.prog 154 154 ih l35_3) z vs h nx = r) : ∃ vs', r = .exi 6 z vs' h nx ∧ vs' 3 = some (.bool false) := by
  obtain ⟨v, e, _, q⟩ := exit35_3 (ih := ih) (z := z) (h := h) (nx := nx) g3
  rw [e] at hr
  exact ⟨v, hr.symm, q⟩
theorem loop35_3 {S : Kn} (hS : S.Only [22]) {m : Nat} (hm : 1 ≤ m) {b : Bk} {z : Z} {vs : Vs} {h : Hp} {nx p1 : Nat} (hF : b.Fine) (hb : b.At h nx) (hr1 : rowL h p1 = some b.cells)
    (g1 : vs 1 = some (pt p1)) (g3 : vs 3 = some (.bool true)) (g9 : vs 9 = some (vi 1)) (g10 : vs 10 = some (vi 0)) {r : R} (hr : z0w (sC Tryz.prog 154 154 (z08 Tryz.prog vmL S m) l35_3) z vs h nx = r) :
    ∃ vs', r = .exi 6 z vs' h nx ∧ vs' 3 = some (.bool true) := by
  subst hr
  refine z0o (Post := fun r => ∃ vs', r = .exi 6 z vs' h nx ∧ vs' 3 = some (.bool true))
    (fun i z' vs' h' nx' => i ≤ b.S.length ∧ z' = z ∧ nx' = nx ∧ h' = h ∧ vs' 1 = some (pt p1) ∧ vs' 3 = some (.bool true) ∧ vs' 10 = some (vi (i : Int)) ∧ ∃ least : Int, vs' 9 = some (vi least) ∧ (∀ hi : i < b.S.length, least ≤ b.S[i])) b.S.length (by have := hF.s5; omega)
    ⟨Nat.zero_le _, rfl, rfl, rfl, g1, g3, g10, 1, g9, fun hi => (z15 (List.all_eq_true.1 hF.so _ (List.getElem_mem hi))).1⟩ ?_
  rintro i z' vs' h' nx' ⟨hi, rfl, rfl, rfl, e1, e3, e10, least, e9, el⟩
  have h5 := hF.s5
  have hs' := hb.s
  obtain ⟨a, c, hsv, _⟩ := hs'.form
  have hil : (ints b.S).length = b.S.length := by simp [ints]
  rw [hil] at hsv
  have hps : z0c false 1 b.cells 6 = some b.sv := rfl
  rw [hsv] at hps hs'
  by_cases hlt : i < b.S.length
  · left
    have h1 : ((i : Int) < (b.S.length : Int)) := by omega
    obtain ⟨rr, o, cs, rfl, hrn, hcs, hel⟩ := ints_el hs' hlt
    have hsr := z15 (List.all_eq_true.1 hF.so _ (List.getElem_mem hlt))
    have b1 := z1i (el hlt) hsr.2
    have k40 := fun (h : Hp) (nx : Nat) (x lo hi : Int) => c40 hS (m := m) (h := h) (nx := nx) hm x lo hi
    refine ⟨hlt, z', _, _, _, (by simp (maxSteps := 10000000) (implicitDefEqProofs := false) (disch := omega) only [l35_3, e1, e3, e9, e10, h1, hr1, hps, hcs, hel, k40, b1, bz, z02, Nat.reduceEqDiff, Nat.reduceLT, Nat.reduceAdd, Nat.reduceMul, Int.reduceToNat]; exact rfl), by omega, rfl, rfl, rfl, ?_, ?_, ?_, b.S[i] + 1, ?_, fun h2 => ?_⟩
    · simp only [z01, z00, Nat.reduceEqDiff, decide_true, decide_false, cond_true, cond_false, e1]
    · simp only [z01, z00, Nat.reduceEqDiff, decide_true, decide_false, cond_true, cond_false]
    · simp only [z01, z00, Nat.reduceEqDiff, decide_true, decide_false, cond_true, cond_false]; rfl
    · simp only [z01, z00, Nat.reduceEqDiff, decide_true, decide_false, cond_true, cond_false]
    · have := (incB_iff b.S).1 hF.si i _ _ (List.getElem?_eq_getElem hlt) (List.getElem?_eq_getElem h2)
      omega
  · right
    have h1 : ¬ ((i : Int) < (b.S.length : Int)) := by omega
    have e : ∃ vs2, sC Tryz.prog 154 154 (z08 Tryz.prog vmL S m) l35_3 z' vs' h' nx' = .exi 6 z' vs2 h' nx' ∧ vs2 3 = vs' 3 := by
      refine ⟨_, by simp (maxSteps := 10000000) (implicitDefEqProofs := false) (disch := omega) only [l35_3, e1, e3, e9, e10, h1, hr1, hps, bz, z02, Nat.reduceEqDiff, Nat.reduceLT, Nat.reduceAdd, Nat.reduceMul, Int.reduceToNat]; exact rfl, ?_⟩
      simp only [z01, Nat.reduceEqDiff, decide_true, decide_false, cond_true, cond_false]
    obtain ⟨vs2, e, q3⟩ := e
    rw [e]
    exact ⟨trivial, vs2, rfl, q3.trans e3⟩
theorem c35 {S : Kn} (hS : S.Only [22]) {m : Nat} (hm : 15 ≤ m) {b : Bk} {h : Hp} {nx : Nat} (hb : b.At h nx) : z07 35 [.agg b.cells.toArray] (z08 Tryz.prog vmL S m) h nx = .gen (.bool b.valid) h nx [] := by
  refine fun35.ground (hS _ _ _ _ (by decide)) (by omega) rfl (by simp) ?_
  obtain ⟨H, eH⟩ : ∃ x, x = hset h nx (.cells b.cells none) := ⟨_, rfl⟩
  have hsm : Same nx h H := by rw [eH]; exact (Same.refl nx h).set (Nat.le_refl _) _
  have hb' := hb.same hsm (nx' := nx + 1) (by omega)
  have k15 := c15 hS (m := m - 1) (by omega) hb'
  have hrow : rowL H nx = some b.cells := by rw [eH]; exact z03 _ _
  have hp7 : z0c true 7 b.cells 0 = some (.agg b.cells.toArray) := rfl
  have k40 := fun (h : Hp) (nx : Nat) (x lo hi : Int) => c40 hS (m := m - 1) (h := h) (nx := nx) (by omega) x lo hi
  rcases Bool.eq_false_or_eq_true b.valid with hv | hv
  · have hF := Bk.fine hv
    rw [hv, z4b] at k15
    rw [hv]
    obtain ⟨pa, pc, hpv, _⟩ := hb.p.form
    rw [List.length_map] at hpv
    obtain ⟨ka, kc, hkv, _⟩ := hb.k.form
    rw [List.length_map] at hkv
    obtain ⟨sa, sc, hsv, _⟩ := hb.s.form
    have hsl : (ints b.S).length = b.S.length := by simp [ints]
    rw [hsl] at hsv
    have x0 : z0c false 1 b.cells 0 = some b.pv := rfl
    have x1 : z0c false 1 b.cells 1 = some b.kv := rfl
    have x2 : z0c false 1 b.cells 2 = some (vi b.grams) := rfl
    have x3 : z0c false 1 b.cells 3 = some (vi b.free) := rfl
    have x4 : z0c false 1 b.cells 4 = some (vi b.unit) := rfl
    have x5 : z0c false 1 b.cells 5 = some (vi b.fee) := rfl
    have x6 : z0c false 1 b.cells 6 = some b.sv := rfl
    rw [hpv] at x0
    rw [hkv] at x1
    rw [hsv] at x6
    have y0 := z1i (lo := 1) (hi := 7) (x := (b.P.length : Int)) (by have := hF.p1; omega) (by have := hF.p7; omega)
    have y1 := z1i (lo := 1) (hi := 4) (x := (b.K.length : Int)) (by have := hF.k1; omega) (by have := hF.k4; omega)
    have y2 := z1i hF.g1 hF.g2
    have y3 := z1i hF.f1 hF.f2
    have y4 := z1i hF.u1 hF.u2
    have y5 := z1i hF.e1 hF.e2
    have y6 := z1i (lo := 1) (hi := 5) (x := (b.S.length : Int)) (by have := hF.s1; omega) (by have := hF.s5; omega)
    simp (maxSteps := 10000000) (implicitDefEqProofs := false) (disch := omega) only [s35, z1x, ← eH, hrow, hp7, k15, show ((0 : Int) == 0) = true from rfl, x0, x1, x2, x3, x4, x5, x6, k40, y0, y1, y2, y3, y4, y5, y6, bz, z02, Nat.reduceEqDiff, Nat.reduceLT, Nat.reduceAdd, Nat.reduceMul, Int.reduceToNat]
    generalize hr : z0w _ _ _ _ _ = r
    obtain ⟨v1, h1, n1, rfl, hn1, hs1, q1, q3⟩ := loop35_0 hS (m := m - 1) (by omega) (b := b) (p1 := nx) (h := H) (nx := nx + 1) hF hb' hrow (by omega) (by show nx ≤ _; omega) rfl rfl rfl hr
    simp (maxSteps := 10000000) (implicitDefEqProofs := false) (disch := omega) only [z1x, bz, z02, Nat.reduceEqDiff, Nat.reduceLT, Nat.reduceAdd, Nat.reduceMul, Int.reduceToNat]
    generalize hr2 : z0w _ _ _ _ _ = r2
    obtain ⟨v2, h2, n2, rfl, hn2, hs2, t1, t3⟩ := loop35_2 hS (m := m - 1) (by omega) (b := b) (p1 := nx) (h := h1) (nx := n1) hF (hb'.same hs1 hn1) (by rw [z0n hs1 (by omega)]; exact hrow) (by omega) (by show nx ≤ _; omega) (by simp only [z01, z00, Nat.reduceEqDiff, decide_true, decide_false, cond_true, cond_false, q1]) (by simp only [z01, z00, Nat.reduceEqDiff, decide_true, decide_false, cond_true, cond_false, q3]) (by simp only [z01, z00, Nat.reduceEqDiff, decide_true, decide_false, cond_true, cond_false]) hr2
    simp (maxSteps := 10000000) (implicitDefEqProofs := false) (disch := omega) only [z1x, bz, z02, Nat.reduceEqDiff, Nat.reduceLT, Nat.reduceAdd, Nat.reduceMul, Int.reduceToNat]
    generalize hr3 : z0w _ _ _ _ _ = r3
    have hb2 := (hb'.same hs1 hn1).same hs2 hn2
    obtain ⟨v3, rfl, w3⟩ := loop35_3 hS (m := m - 1) (by omega) (b := b) (p1 := nx) (h := h2) (nx := n2) hF hb2 (by rw [z0n hs2 (by omega), z0n hs1 (by omega)]; exact hrow) (by simp only [z01, z00, Nat.reduceEqDiff, decide_true, decide_false, cond_true, cond_false, t1]) (by simp only [z01, z00, Nat.reduceEqDiff, decide_true, decide_false, cond_true, cond_false, t3]) (by simp only [z01, z00, Nat.reduceEqDiff, decide_true, decide_false, cond_true, cond_false]) (by simp only [z01, z00, Nat.reduceEqDiff, decide_true, decide_false, cond_true, cond_false]) hr3
    exact ⟨_, _, by simp (maxSteps := 10000000) (implicitDefEqProofs := false) (disch := omega) only [w3, bz, z02, Nat.reduceEqDiff, Nat.reduceLT, Nat.reduceAdd, Nat.reduceMul, Int.reduceToNat]; rfl⟩
  · rw [hv, z5d] at k15
    rw [hv]
    simp (maxSteps := 10000000) (implicitDefEqProofs := false) (disch := omega) only [s35, z1x, ← eH, hrow, hp7, k15, show ((60 : Int) == 0) = false from rfl, bz, z02, Nat.reduceEqDiff, Nat.reduceLT, Nat.reduceAdd, Nat.reduceMul, Int.reduceToNat]
    generalize hr : z0w _ _ _ _ _ = r
    obtain ⟨v1, rfl, q3⟩ := gone35_0 (by rfl) hr
    simp (maxSteps := 10000000) (implicitDefEqProofs := false) (disch := omega) only [z1x, bz, z02, Nat.reduceEqDiff, Nat.reduceLT, Nat.reduceAdd, Nat.reduceMul, Int.reduceToNat]
    generalize hr2 : z0w _ _ _ _ _ = r2
    obtain ⟨v2, rfl, t3⟩ := gone35_2 (by simp only [z01, z00, Nat.reduceEqDiff, decide_true, decide_false, cond_true, cond_false, q3]) hr2
    simp (maxSteps := 10000000) (implicitDefEqProofs := false) (disch := omega) only [z1x, bz, z02, Nat.reduceEqDiff, Nat.reduceLT, Nat.reduceAdd, Nat.reduceMul, Int.reduceToNat]
    generalize hr3 : z0w _ _ _ _ _ = r3
    obtain ⟨v3, rfl, w3⟩ := gone35_3 (by simp only [z01, z00, Nat.reduceEqDiff, decide_true, decide_false, cond_true, cond_false, t3]) hr3
    exact ⟨_, _, by simp (maxSteps := 10000000) (implicitDefEqProofs := false) (disch := omega) only [w3, bz, z02, Nat.reduceEqDiff, Nat.reduceLT, Nat.reduceAdd, Nat.reduceMul, Int.reduceToNat]; rfl⟩
def nsF (f : Nat → Bool) (n : Nat) : List Nat := (List.range n).filter f
theorem nsF_succ (f : Nat → Bool) (i : Nat) : nsF f (i + 1) = nsF f i ++ if f i then [i] else [] := by
  unfold nsF
  rw [List.range_succ, List.filter_append]
  cases h : f i <;> simp [h]
theorem chosen_map {b : Bk} (f : Nat → Bool) : ∀ {n : Nat}, n ≤ b.P.length → z0a b.P f n = (nsF f n).map (pcAt b) := by
  intro n
  induction n with
  | zero => intro _; rfl
  | succ n ih =>
    intro hn
    rw [z75 f (by omega), nsF_succ, List.map_append, ih (by omega), ← pcAt_is (b := b) (n := n) (by omega)]
    cases f n <;> rfl
theorem sumP_is (g : Pc → Int) (b : Bk) (f : Nat → Bool) : sumP g b.P f = sumN g b (nsF f b.P.length) := by
  unfold sumP sumN
  rw [chosen_map f (Nat.le_refl _), List.map_map]; rfl
theorem fits_is (b : Bk) (f : Nat → Bool) (k : Kd) (hne : nsF f b.P.length ≠ []) : z8k b.P f k = z20 b k (nsF f b.P.length) := by
  unfold z8k z20 z3g
  rw [sumP_is, sumP_is, chosen_map f (Nat.le_refl _), List.length_map, List.any_map]
  have hl : 0 < (nsF f b.P.length).length := List.length_pos_iff.2 hne
  have e : (nsF f b.P.length).any (Pc.alone ∘ pcAt b) = z8f b (nsF f b.P.length) := rfl
  rw [e]
  have h1 : ((nsF f b.P.length).length == 1) = !decide (1 < (nsF f b.P.length).length) := by
    by_cases h : (nsF f b.P.length).length = 1
    · rw [h]; rfl
    · rw [beq_false_of_ne h, decide_eq_true (by omega)]; rfl
  rw [h1]
  cases decide (1 < (nsF f b.P.length).length) <;> cases z8f b (nsF f b.P.length) <;> cases decide (sumN Pc.size b (nsF f b.P.length) ≤ k.room) <;> cases decide (sumN Pc.weight b (nsF f b.P.length) ≤ k.most) <;> rfl
theorem cost_is (b : Bk) (f : Nat → Bool) (k : Kd) (zone : Nat) : k.zs.getD zone 0 + z2e b f k + z3x b f = z6o b k (nsF f b.P.length) zone := by
  unfold z2e z3x z6o
  rw [sumP_is, sumP_is]
theorem ofQ_mem {s n k : Nat} : k ∈ ofQ s n ↔ k < n ∧ s.testBit k = true := by unfold ofQ; rw [List.mem_filter, List.mem_range]
theorem natsQ_nsI (ns : List Nat) : natsQ (nsI ns) = ns := by
  unfold natsQ nsI
  rw [List.map_map]
  conv => rhs; rw [← List.map_id ns]
  exact List.map_congr_left fun x _ => Int.toNat_natCast x
theorem set_of (s n : Nat) : nsF (setN (ofQ s n)).testBit n = ofQ s n := by
  unfold nsF
  conv => rhs; unfold ofQ
  refine List.filter_congr fun k hk => ?_
  rw [setN_bit]
  have := List.mem_range.1 hk
  rw [Bool.eq_iff_iff, decide_eq_true_iff, ofQ_mem]
  exact ⟨fun q => q.2, fun q => ⟨this, q⟩⟩
theorem climb_pair {l : Int} : ∀ {ns : List Nat} {a : Int}, ns.Pairwise (· < ·) → (∀ n, n ∈ ns → a ≤ n ∧ (n : Int) ≤ l) → z2j a l (nsI ns) = true := by
  intro ns
  induction ns with
  | nil => intro a _ _; rfl
  | cons x ns ih =>
    intro a hp hb
    show (inB a l (x : Int) && z2j ((x : Int) + 1) l (nsI ns)) = true
    rw [z1i (hb x List.mem_cons_self).1 (hb x List.mem_cons_self).2, Bool.true_and]
    cases hp with
    | cons h1 h2 => exact ih h2 fun n hn => ⟨by have := h1 n hn; omega, (hb n (List.mem_cons_of_mem _ hn)).2⟩
theorem climb_of (s n : Nat) : z2j 0 ((n : Int) - 1) (nsI (ofQ s n)) = true := by
  refine climb_pair ?_ fun k hk => ?_
  · unfold ofQ
    exact List.Pairwise.filter _ List.pairwise_lt_range
  · have := ofQ_mem.1 hk
    omega
theorem b_neq (x y : Operand) (a c : Bool) : binV Tryz.prog .neq 4 x y (.bool a) (.bool c) = some (.bool (a != c)) := by
  cases a <;> cases c <;> kernel_rfl
theorem b_eql (x y : Operand) (a c : Bool) : binV Tryz.prog .eql 4 x y (.bool a) (.bool c) = some (.bool (a == c)) := by
  cases a <;> cases c <;> kernel_rfl
section
variable {P : Program} {nv : Nat} {ih : Rec} {z : Z} {vs : Vs} {h : Hp} {nx : Nat}
theorem g_un (d : Option Nat) (op : Op) (b : Bool) : guardO P nv ih d op b z vs h nx (some undef) = .st z (put d undef vs) h nx := by cases b <;> rfl
theorem gq_un (b : List Nat) (k : Nat) (l : List SOp) (d : Option Nat) (op : Op) (y : Bool) : guardQ P nv ih b k l d op y z vs h nx (some undef) = qOps P nv ih b (k + 1) l z (put d undef vs) h nx := by cases y <;> rfl
end
def Stamped (S : Kn) : Prop := ∀ h nx, 1 ≤ nx → rowL h 0 = some limL → S 22 [] h nx = some (.bool true)
theorem c22 {S : Kn} (hK : Stamped S) {m : Nat} {h : Hp} {nx : Nat} (h1 : 1 ≤ nx) (hl : rowL h 0 = some limL) : z07 22 [] (z08 Tryz.prog vmL S m) h nx = .gen (.bool true) h nx [] := known_ground (hK h nx h1 hl) rfl
theorem fits_pa {b : Bk} {kind : Nat} (hk : kind < b.K.length) {s : Nat} (hne : ofQ s b.P.length ≠ []) (v : Value) : isQ b ⟨kind, nsI (ofQ s b.P.length), v⟩ = true ∧ fitQ b ⟨kind, nsI (ofQ s b.P.length), v⟩ = z20 b b.K[kind] (ofQ s b.P.length) ∧ ∀ zone, costQ b ⟨kind, nsI (ofQ s b.P.length), v⟩ zone = z6o b b.K[kind] (ofQ s b.P.length) zone := by
  have hset : setQ ⟨kind, nsI (ofQ s b.P.length), v⟩ = setN (ofQ s b.P.length) := by unfold setQ; rw [natsQ_nsI]
  refine ⟨?_, ?_, fun zone => ?_⟩
  · unfold isQ
    simp only
    rw [climb_of, z1i (by omega) (by omega)]
    cases h : ofQ s b.P.length with
    | nil => exact (hne h).elim
    | cons x l => rfl
  · unfold fitQ
    rw [hset]
    simp only [Int.toNat_natCast, List.getElem?_eq_getElem hk]
    rw [fits_is b _ _ (by rw [set_of]; exact hne), set_of]
  · unfold costQ
    rw [hset]
    simp only [Int.toNat_natCast, List.getElem?_eq_getElem hk]
    rw [cost_is, set_of]
theorem c13t {S : Kn} (hS : S.Only [22]) {m : Nat} (hm : 15 ≤ m) {b : Bk} {h : Hp} {nx : Nat} (hb : b.At h nx) (hv : b.valid = true) {kind : Nat} (hk : kind < b.K.length) {s : Nat} (hne : ofQ s b.P.length ≠ []) {v : Value} (hl : Lst h nx 1 v (ints (nsI (ofQ s b.P.length)))) :
    z07 13 [.agg b.cells.toArray, .agg #[vi kind, v]] (z08 Tryz.prog vmL S m) h nx = .gen (.tuple #[.bool (z20 b b.K[kind] (ofQ s b.P.length)), vi 0]) h nx [] := by
  obtain ⟨q1, q2, _⟩ := fits_pa hk hne v
  have := c13 hS hm hb (p := ⟨kind, nsI (ofQ s b.P.length), v⟩) ⟨hl, by rw [nsI_len]; have := ofQ_len s b.P.length; have := hb.pl; omega⟩
  rw [hv, q1, q2, Bool.true_and, Bool.true_and, z4b] at this
  exact this
theorem c17t {S : Kn} (hS : S.Only [22]) {m : Nat} (hm : 15 ≤ m) {b : Bk} {h : Hp} {nx : Nat} (hb : b.At h nx) (hv : b.valid = true) {kind : Nat} (hk : kind < b.K.length) {s : Nat} (hne : ofQ s b.P.length ≠ []) {v : Value} (hl : Lst h nx 1 v (ints (nsI (ofQ s b.P.length)))) {zone : Nat} (hz : zone < 5) {t : Bool} (ht : z20 b b.K[kind] (ofQ s b.P.length) = t) :
    z07 17 [.agg b.cells.toArray, .agg #[vi kind, v], vi zone] (z08 Tryz.prog vmL S m) h nx = .gen (.tuple #[vi (bif t then z6o b b.K[kind] (ofQ s b.P.length) zone else 0), vi (bif t then 0 else 4)]) h nx [] := by
  obtain ⟨q1, q2, q3⟩ := fits_pa hk hne v
  have := c17 hS hm hb (p := ⟨kind, nsI (ofQ s b.P.length), v⟩) ⟨hl, by rw [nsI_len]; have := ofQ_len s b.P.length; have := hb.pl; omega⟩ (zone : Int)
  unfold postN postE postOk at this
  rw [hv, q1, q2, q3, ht, z1i (by omega) (by omega), Int.toNat_natCast] at this
  rw [show Pa.cells ⟨kind, nsI (ofQ s b.P.length), v⟩ = [vi kind, v] from rfl] at this
  cases t <;> exact this
theorem new_lst {h h' : Hp} {nx nx' : Nat} {u : Value} {ns : List Nat} (a : NewL h nx h' nx' 1 u (nsV ns)) : Lst h' nx' 1 u (ints (nsI ns)) := by
  have := NewL.lst a
  rwa [nsV_rows] at this
open Go Go.Proofs Go.Lm
set_option maxRecDepth 10000
set_option maxHeartbeats 16000000
theorem emod_nat (n : Int) (k : Nat) (hk : 0 < k) : ∃ x : Nat, n % (k : Int) = (x : Int) ∧ x < k := ⟨(n % (k : Int)).toNat, by have := Int.emod_nonneg n (show (k : Int) ≠ 0 by omega); omega, by have := Int.emod_nonneg n (show (k : Int) ≠ 0 by omega); have := Int.emod_lt_of_pos n (show (0 : Int) < k by omega); omega⟩
end Go.Proofs.YtcmkngajdckndaaGreatDoor
namespace Go
namespace Lm
open Go.RowKit
variable {P : Program}
theorem le_foldr {l : List Nat} {x : Nat} (h : x ∈ l) : x ≤ l.foldr Nat.max 0 := by
  induction l with
  | nil => cases h
  | cons y l ih =>
    rw [List.foldr_cons]
    rcases List.mem_cons.1 h with rfl | h
    · exact Nat.le_max_left _ _
    · exact Nat.le_trans (ih h) (Nat.le_max_right _ _)
def rowSize (o : Obj) : Nat := match o with | .cells cs _ _ => cs.size | _ => 0
def topOf (w : World) : Nat := (w.heap.toList.map rowSize).foldr Nat.max 0 + 1
theorem topOf_lt {w : World} {b : Nat} {cs : Array Value} {e fz} (h : w.heap[b]? = some (.cells cs e fz)) : cs.size < topOf w := by
  have hm : (.cells cs e fz : Obj) ∈ w.heap.toList := by
    rw [← Array.getElem?_toList] at h
    exact List.mem_of_getElem? h
  have := le_foldr (List.mem_map.2 ⟨_, hm, rfl⟩ : rowSize (.cells cs e fz) ∈ w.heap.toList.map rowSize)
  unfold topOf
  have e1 : rowSize (.cells cs e fz) = cs.size := rfl
  omega
def nnOf (w : World) : Nat := w.heap.size + 2
def z3u (w : World) : Nat := nnOf w * topOf w
theorem nn_le (w : World) : nnOf w ≤ z3u w := by
  unfold z3u
  exact Nat.le_mul_of_pos_right _ (by unfold topOf; omega)
abbrev worldLo (w : World) (hs : NG ≤ w.heap.size) : Lo where
  lo := fun r => if r < z3u w then r / nnOf w else 0
  arg := z3u w
  new := fun r h => if_neg (Nat.not_lt.2 h)
  gl := fun g hg => by
    have : g / nnOf w = 0 := Nat.div_eq_of_lt (by unfold nnOf; omega)
    simp [this]
  odd := w.heap.size + 1
  oddlt := Nat.lt_of_lt_of_le (by unfold nnOf; omega) (nn_le w)
def renOf (w : World) : Ren := ⟨fun r => if r < z3u w ∧ r % nnOf w < w.heap.size then some (r % nnOf w) else none, fun _ => 0⟩
def z31 (w : World) (b o : Nat) : Nat := o * nnOf w + b
theorem mark_ok {w : World} {b o : Nat} (hb : b < w.heap.size) (ho : o < topOf w) : z31 w b o < z3u w ∧ z31 w b o % nnOf w = b ∧ z31 w b o / nnOf w = o := by
  have hn : b < nnOf w := by unfold nnOf; omega
  refine ⟨?_, ?_, ?_⟩
  · have h1 : (o + 1) * nnOf w ≤ topOf w * nnOf w := Nat.mul_le_mul_right _ ho
    rw [Nat.succ_mul] at h1
    unfold z31 z3u
    rw [Nat.mul_comm (nnOf w)]
    omega
  · unfold z31
    rw [Nat.add_comm, Nat.add_mul_mod_self_right]
    exact Nat.mod_eq_of_lt hn
  · unfold z31
    rw [Nat.add_comm, Nat.add_mul_div_right _ _ (by omega), Nat.div_eq_of_lt hn, Nat.zero_add]
def encV (w : World) (v : Value) : Option Value :=
  match v with
  | .bool b => some (.bool b)
  | .int k n => some (.int k n)
  | .slice none n c => some (.slice none n c)
  | .slice (some a) n c => if n = 0 ∧ c = 0 then some (.slice (some ⟨w.heap.size + 1, 0, none⟩) 0 0)
      else if a.spot = none ∧ a.block < w.heap.size ∧ a.off < topOf w ∧ c < HALF ∧ n ≤ c then some (.slice (some ⟨z31 w a.block a.off, a.off, none⟩) n c) else none
  | _ => none
theorem enc_one {w : World} {v x : Value} (h : encV w v = some x) : x.oneCell' = true := by
  unfold encV at h
  split at h
  · cases h; rfl
  · cases h; rfl
  · cases h; rfl
  · split at h
    · cases h; rfl
    · split at h
      · cases h; rfl
      · cases h
  · cases h
theorem enc_vr {w : World} (hs : NG ≤ w.heap.size) {v x : Value} (h : encV w v = some x) : @VR (worldLo w hs) (renOf w) x v := by
  letI := worldLo w hs
  unfold encV at h
  split at h
  · cases h; exact .bool _
  · cases h; exact .int _ _
  · cases h; exact .slice0 _ _
  · rename_i a n c
    split at h
    · rename_i q
      obtain ⟨rfl, rfl⟩ := q
      cases h
      exact VR.sliceW a
    · split at h
      · rename_i q
        obtain ⟨q1, q2, q3, q4, q5⟩ := q
        cases h
        obtain ⟨m1, m2, m3⟩ := mark_ok q2 q3
        obtain ⟨b, o, s⟩ := a
        simp only at q1 q2 q3 m1 m2 m3
        subst q1
        refine VR.slice o n ?_ ?_ (.inl ⟨q4, rfl⟩) q5
        · show (if z31 w b o < z3u w ∧ z31 w b o % nnOf w < w.heap.size then some (z31 w b o % nnOf w) else none) = some b
          rw [if_pos ⟨m1, by rw [m2]; exact q2⟩, m2]
        · show (if z31 w b o < z3u w then z31 w b o / nnOf w else 0) ≤ o
          rw [if_pos m1, m3]
          exact Nat.le_refl _
      · cases h
  · cases h
def junkV : Value := .bool false
def z3n (w : World) (o : Nat) (cs : Array Value) : List Value := List.replicate (min o cs.size) junkV ++ ((cs.toList.drop o).takeWhile fun v => (encV w v).isSome).map fun v => (encV w v).getD junkV
def rowW (w : World) (r : Nat) : Row := if r < z3u w ∧ r % nnOf w < w.heap.size then (match w.heap[r % nnOf w]? with | some (.cells cs _ _) => .ro (z3n w (r / nnOf w) cs) | _ => .dead) else .dead
def hpW (w : World) : Hp := fun r => some (rowW w r)
theorem tw_len {α : Type} (p : α → Bool) (l : List α) : (l.takeWhile p).length ≤ l.length := (List.takeWhile_prefix p).length_le
theorem tw_get {α : Type} (p : α → Bool) : ∀ (l : List α) (i : Nat) (x : α), (l.takeWhile p)[i]? = some x → l[i]? = some x ∧ p x = true := by
  intro l
  induction l with
  | nil => intro i x h; simp at h
  | cons y l ih =>
    intro i x h
    rw [List.takeWhile_cons] at h
    split at h
    · rename_i hy
      cases i with
      | zero => simp at h; subst h; exact ⟨rfl, hy⟩
      | succ i => exact ih i x (by simpa using h)
    · simp at h
theorem tw_up {α : Type} (p : α → Bool) : ∀ (l : List α) (k : Nat), (∀ i, i < k → ∃ x, l[i]? = some x ∧ p x = true) → ∀ i, i < k → (l.takeWhile p)[i]? = l[i]? := by
  intro l
  induction l with
  | nil => intro k h i hi; obtain ⟨x, hx, _⟩ := h i hi; simp at hx
  | cons y l ih =>
    intro k h i hi
    obtain ⟨x, hx, hp⟩ := h 0 (by omega)
    simp at hx
    subst hx
    rw [List.takeWhile_cons, if_pos hp]
    cases i with
    | zero => rfl
    | succ i =>
      simp only [List.getElem?_cons_succ]
      exact ih (k - 1) (fun j hj => by
        obtain ⟨x, h1, h2⟩ := h (j + 1) (by omega)
        exact ⟨x, by simpa using h1, h2⟩) i (by omega)
theorem celX_world {w : World} (hs : NG ≤ w.heap.size) {o : Nat} {cs : Array Value} (ho : o ≤ cs.size ∨ cs.size ≤ o) : @CelX (worldLo w hs) (renOf w) o (z3n w o cs) cs := by
  letI := worldLo w hs
  refine ⟨?_, fun i x hx => ?_, fun i x hi hx => ?_⟩
  · unfold z3n
    rw [List.length_append, List.length_replicate, List.length_map]
    have := tw_len (fun v => (encV w v).isSome) (cs.toList.drop o)
    rw [List.length_drop] at this
    simp at this ⊢
    omega
  · unfold z3n at hx
    rw [List.getElem?_append] at hx
    split at hx
    · have := List.mem_of_getElem? hx
      rw [List.mem_replicate] at this
      rw [this.2]; rfl
    · rw [List.getElem?_map] at hx
      cases hq : ((cs.toList.drop o).takeWhile fun v => (encV w v).isSome)[i - (List.replicate (min o cs.size) junkV).length]? with
      | none => rw [hq] at hx; cases hx
      | some v =>
        rw [hq] at hx
        obtain ⟨_, h2⟩ := tw_get _ _ _ _ hq
        obtain ⟨y, hy⟩ := Option.isSome_iff_exists.1 h2
        simp only [Option.map_some, hy, Option.getD_some, Option.some.injEq] at hx
        subst hx
        exact enc_one hy
  · unfold z3n at hx
    rw [List.getElem?_append, List.length_replicate] at hx
    have hlt : ¬ i < min o cs.size := by omega
    rw [if_neg hlt, List.getElem?_map] at hx
    cases hq : ((cs.toList.drop o).takeWhile fun v => (encV w v).isSome)[i - min o cs.size]? with
    | none => rw [hq] at hx; cases hx
    | some v =>
      rw [hq] at hx
      obtain ⟨h1, h2⟩ := tw_get _ _ _ _ hq
      obtain ⟨y, hy⟩ := Option.isSome_iff_exists.1 h2
      simp only [Option.map_some, hy, Option.getD_some, Option.some.injEq] at hx
      subst hx
      rw [List.getElem?_drop] at h1
      have hol : o < cs.size := by
        have := (List.getElem?_eq_some_iff.1 h1).1
        simp at this; omega
      rw [Nat.min_eq_left (by omega)] at h1
      refine ⟨v, ?_, enc_vr hs hy⟩
      rw [show o + (i - o) = i by omega] at h1
      rw [← Array.getElem?_toList]; exact h1
theorem hr_world {w : World} (hs : NG ≤ w.heap.size) : @HR (worldLo w hs) (renOf w) (hpW w) w := by
  letI := worldLo w hs
  have valid : ∀ {r b : Nat}, (renOf w).blk r = some b → (r < z3u w ∧ r % nnOf w < w.heap.size) ∧ b = r % nnOf w := fun {r b} h => by
    unfold renOf at h
    simp only at h
    split at h
    · rename_i q; cases h; exact ⟨q, rfl⟩
    · cases h
  refine ⟨fun r b x hb hx hn => ?_, fun r s b hr hs' lr ls => ?_, fun r b hb => ?_, fun x hx => ?_⟩
  · obtain ⟨q, rfl⟩ := valid hb
    have hx' : x = rowW w r := (Option.some.inj hx).symm
    unfold rowW at hx'
    rw [if_pos q] at hx'
    split at hx'
    · rename_i cs e fz heq
      subst hx'
      refine ⟨_, heq, cs, e, fz, rfl, ?_⟩
      have : Lo.lo r = r / nnOf w := by show (if r < z3u w then r / nnOf w else 0) = _; rw [if_pos q.1]
      rw [this]
      exact celX_world hs (Nat.le_total _ _)
    · exact (hn hx').elim
  · exfalso
    obtain ⟨x, h1, h2, h3⟩ := ls
    have hx' : x = rowW w s := (Option.some.inj h1).symm
    unfold rowW at hx'
    split at hx'
    · split at hx'
      · exact h3 _ hx'
      · exact h2 hx'
    · exact h2 hx'
  · obtain ⟨q, rfl⟩ := valid hb
    exact q.2
  · have hx' : x = rowW w (w.heap.size + 1) := (Option.some.inj hx).symm
    rw [hx']
    unfold rowW
    rw [if_neg]
    intro q
    have : (w.heap.size + 1) % nnOf w = w.heap.size + 1 := Nat.mod_eq_of_lt (by unfold nnOf; omega)
    omega
theorem run_world (hm : P.follows .mixedOrders = true) {nvs : List (Nat × Nat)} {w : World} (hs : NG ≤ w.heap.size) {S : Kn} (hS : @Kn.Ok (worldLo w hs) P S) {m : Nat} {f : FuncId} {us : List Value} {v : Value} {args' : Array Value}
    (hrun : z07 f us (z08 P nvs S m) (hpW w) (z3u w) = .gen v (hpW w) (z3u w) []) (hgr : ground v = true) (hv : @VL (worldLo w hs) (renOf w) us args'.toList) :
    Calls P f args' w fun e w' => e = .returned v ∧ Below w.heap.size w w' := by
  letI := worldLo w hs
  have hd : Dom (renOf w) (z3u w) := ⟨Nat.le_refl _, fun r b hb => by
    unfold renOf at hb
    simp only at hb
    split at hb
    · rename_i q; exact q.1
    · cases hb⟩
  have hgl : ∀ g, g < NG → (renOf w).blk g = some g := fun g hg => by
    unfold renOf
    have h1 : g % nnOf w = g := Nat.mod_eq_of_lt (by unfold nnOf; omega)
    have h2 : g < z3u w := Nat.lt_of_lt_of_le (by unfold nnOf; omega) (nn_le w)
    simp only
    rw [if_pos ⟨h2, by rw [h1]; omega⟩, h1]
  have hc := z4g (execL_ok (nvs := nvs) (z49 hm) hS m) (hr_world hs) hd hgl wd_wide hv (f := f)
  rw [hrun] at hc
  refine (callsIn_wide.1 hc).mono fun e w' q => ?_
  obtain ⟨v', R', h1, h2, h3⟩ := q
  have := z0s hgr h2
  subst this
  exact ⟨h1, h3.os, h3.tape, h3.output, h3.size, fun k hk => h3.kept k hk fun m hm => by simp at hm⟩
end Lm
end Go
namespace Go
namespace Lm
theorem z8u {w : World} {b p : Nat} {u : Value} (h : w.cell? ⟨b, p, none⟩ = some u) : ∃ cs e fz, w.heap[b]? = some (.cells cs e fz) ∧ cs[p]? = some u := by
  unfold World.cell? at h
  split at h
  · rename_i cs e fz heq
    exact ⟨cs, e, fz, heq, by simpa using h⟩
  · cases h
def enc1 (w : World) (u : Value) : Value := (encV w u).getD junkV
theorem cellsW_get {w : World} {o k : Nat} {cs : Array Value} (hk : ∀ i, i < k → ∃ u, cs[o + i]? = some u ∧ (encV w u).isSome = true) : o + k ≤ (z3n w o cs).length ∨ k = 0 := by
  rcases Nat.eq_zero_or_pos k with h0 | h0
  · exact .inr h0
  left
  obtain ⟨u, hu, _⟩ := hk (k - 1) (by omega)
  have hlt := (Array.getElem?_eq_some_iff.1 hu).1
  have h1 := tw_up (fun v => (encV w v).isSome) (cs.toList.drop o) k (fun i hi => by
    obtain ⟨u, a, b⟩ := hk i hi
    exact ⟨u, by rw [List.getElem?_drop, Array.getElem?_toList]; exact a, b⟩) (k - 1) (by omega)
  rw [List.getElem?_drop, show cs.toList[o + (k - 1)]? = cs[o + (k - 1)]? from Array.getElem?_toList, hu] at h1
  have := (List.getElem?_eq_some_iff.1 h1).1
  unfold z3n
  rw [List.length_append, List.length_replicate, List.length_map, Nat.min_eq_left (by omega)]
  omega
theorem cellsW_at {w : World} {o k i : Nat} {cs : Array Value} {u : Value} (hk : ∀ i, i < k → ∃ u, cs[o + i]? = some u ∧ (encV w u).isSome = true) (hi : i < k) (hu : cs[o + i]? = some u) : (z3n w o cs)[o + i]? = some (enc1 w u) := by
  have hlt := (Array.getElem?_eq_some_iff.1 hu).1
  have h1 := tw_up (fun v => (encV w v).isSome) (cs.toList.drop o) k (fun i hi => by
    obtain ⟨u, a, b⟩ := hk i hi
    exact ⟨u, by rw [List.getElem?_drop, Array.getElem?_toList]; exact a, b⟩) i hi
  rw [List.getElem?_drop, show cs.toList[o + i]? = cs[o + i]? from Array.getElem?_toList, hu] at h1
  unfold z3n
  rw [Nat.min_eq_left (by omega), List.getElem?_append, List.length_replicate, if_neg (by omega), List.getElem?_map]
  rw [show o + i - o = i by omega, h1]
  rfl
theorem lst_world {w : World} {b off sz c : Nat} {rows : List (List Value)} (hb : b < w.heap.size) (hsz : 0 < sz) (hlen : ∀ r, r ∈ rows → r.length = sz)
    (hc : ∀ i r j u, rows[i]? = some r → r[j]? = some u → w.cell? ⟨b, off + (i * sz + j), none⟩ = some u) (hok : ∀ r, r ∈ rows → ∀ u, u ∈ r → (encV w u).isSome = true) (hpos : 0 < rows.length) :
    Lst (hpW w) (z3u w) sz (.slice (some ⟨z31 w b off, off, none⟩) rows.length c) (rows.map fun r => r.map (enc1 w)) ∧ off < topOf w := by
  have h00 : ∃ u, w.cell? ⟨b, off, none⟩ = some u := by
    have hr := List.getElem?_eq_getElem hpos
    have hl := hlen _ (List.getElem_mem hpos)
    have hu := List.getElem?_eq_getElem (l := rows[0]) (i := 0) (by omega)
    exact ⟨_, by simpa using hc 0 _ 0 _ hr hu⟩
  obtain ⟨u0, hu0⟩ := h00
  obtain ⟨cs, e, fz, hcs, hcu⟩ := z8u hu0
  have htop : off < topOf w := by
    have := topOf_lt hcs
    have := (Array.getElem?_eq_some_iff.1 hcu).1
    omega
  obtain ⟨m1, m2, m3⟩ := mark_ok hb htop
  have hrow : rowL (hpW w) (z31 w b off) = some (z3n w off cs) := by
    unfold rowL
    have : hget (hpW w) (z31 w b off) = some (rowW w (z31 w b off)) := rfl
    rw [this]
    unfold rowW
    rw [if_pos ⟨m1, by rw [m2]; exact hb⟩, m2, m3, hcs]
  have cell : ∀ {p u}, w.cell? ⟨b, p, none⟩ = some u → cs[p]? = some u := fun {p u} h => by
    obtain ⟨cs', e', fz', h1, h2⟩ := z8u h
    rw [hcs] at h1
    cases h1
    exact h2
  have hk : ∀ i, i < rows.length * sz → ∃ u, cs[off + i]? = some u ∧ (encV w u).isSome = true := fun i hi => by
    have hd : i / sz < rows.length := (Nat.div_lt_iff_lt_mul hsz).2 hi
    have hr := List.getElem?_eq_getElem hd
    have hm := List.getElem_mem hd
    have hl := hlen _ hm
    have hj : i % sz < (rows[i / sz]).length := by rw [hl]; exact Nat.mod_lt _ hsz
    have hu := List.getElem?_eq_getElem hj
    refine ⟨_, ?_, hok _ hm _ (List.getElem_mem hj)⟩
    have := cell (hc _ _ _ _ hr hu)
    rwa [Nat.mul_comm, Nat.div_add_mod] at this
  refine ⟨⟨_, c, by rw [List.length_map], fun i row hi => ?_⟩, htop⟩
  rw [List.getElem?_map] at hi
  cases hr : rows[i]? with
  | none => rw [hr] at hi; cases hi
  | some r =>
    rw [hr] at hi
    simp only [Option.map_some, Option.some.injEq] at hi
    subst hi
    have hil := (List.getElem?_eq_some_iff.1 hr).1
    have hm := List.mem_of_getElem? hr
    have hl := hlen r hm
    have hmul : (i + 1) * sz ≤ rows.length * sz := Nat.mul_le_mul_right _ hil
    rw [Nat.succ_mul] at hmul
    refine ⟨by rw [List.length_map, hl], z31 w b off, off, z3n w off cs, rfl, m1, hrow, ?_, ?_⟩
    · rcases cellsW_get hk with q | q
      · rw [Nat.succ_mul]; omega
      · have := Nat.mul_pos hpos hsz; omega
    · refine List.ext_getElem? fun j => ?_
      by_cases hj : j < sz
      · rw [List.getElem?_take_of_lt hj, List.getElem?_drop, List.getElem?_map]
        have hu := List.getElem?_eq_getElem (l := r) (i := j) (by omega)
        have hcj := cell (hc i r j _ hr hu)
        rw [Nat.add_assoc, cellsW_at hk (i := i * sz + j) (by omega) hcj, hu]
        rfl
      · rw [List.getElem?_eq_none (by rw [List.length_take]; omega), List.getElem?_eq_none (by rw [List.length_map, hl]; omega)]
theorem z3y {w : World} {sz cap : Nat} {A : Option Addr} {rows : List (List Value)} (hsz : 0 < sz) (hlen : ∀ r, r ∈ rows → r.length = sz) (hcap : rows.length ≤ cap) (hh : cap < HALF)
    (hA : 0 < cap → ∃ b off, A = some ⟨b, off, none⟩ ∧ b < w.heap.size ∧ (∃ u, w.cell? ⟨b, off, none⟩ = some u) ∧ ∀ i r j u, rows[i]? = some r → r[j]? = some u → w.cell? ⟨b, off + (i * sz + j), none⟩ = some u)
    (hok : ∀ r, r ∈ rows → ∀ u, u ∈ r → (encV w u).isSome = true) :
    (encV w (.slice A rows.length cap)).isSome = true ∧ Lst (hpW w) (z3u w) sz (enc1 w (.slice A rows.length cap)) (rows.map fun r => r.map (enc1 w)) := by
  unfold enc1
  rcases Nat.eq_zero_or_pos cap with h0 | h0
  · have hr : rows = [] := List.eq_nil_of_length_eq_zero (by omega)
    subst hr
    subst h0
    cases A with
    | none => exact ⟨rfl, none, 0, rfl, fun i row hi => by simp at hi⟩
    | some a => exact ⟨rfl, some ⟨w.heap.size + 1, 0, none⟩, 0, rfl, fun i row hi => by simp at hi⟩
  · obtain ⟨b, off, rfl, hb, ⟨u, hu⟩, hc⟩ := hA h0
    obtain ⟨cs, e, fz, hcs, hcu⟩ := z8u hu
    have htop : off < topOf w := by
      have := topOf_lt hcs
      have := (Array.getElem?_eq_some_iff.1 hcu).1
      omega
    have he : encV w (.slice (some ⟨b, off, none⟩) rows.length cap) = some (.slice (some ⟨z31 w b off, off, none⟩) rows.length cap) := by
      unfold encV
      have h1 : ¬ (rows.length = 0 ∧ cap = 0) := by omega
      simp only
      rw [if_neg h1, if_pos ⟨trivial, hb, htop, hh, hcap⟩]
    rw [he]
    refine ⟨rfl, ?_⟩
    rcases Nat.eq_zero_or_pos rows.length with hr0 | hr0
    · have hr : rows = [] := List.eq_nil_of_length_eq_zero hr0
      subst hr
      exact ⟨_, cap, rfl, fun i row hi => by simp at hi⟩
    · exact (lst_world hb hsz hlen hc hok hr0).1
end Lm
end Go
namespace Go.Proofs.YtcmkngajdckndaaGreatDoor
open Go Go.Proofs Go.RowKit Go.Deep Go.ChangeShapes Go.WideShapes
open Go.Lm (vi hpW z3u encV enc1 Lst z3y HALF)
set_option maxHeartbeats 1000000
set_option maxRecDepth 10000
theorem weightsAll_mem {H : Type} {P : Program} {e : TypeId} {l : List (DataW H)} {d : DataW H} (h : d ∈ l) : ∀ n ∈ d.weights P e, n ∈ DataW.weightsAll P e l := by
  induction l with
  | nil => cases h
  | cons x r ih =>
    intro n hn
    simp only [DataW.weightsAll, List.mem_append]
    rcases List.mem_cons.1 h with rfl | h1
    · exact .inl hn
    · exact .inr (ih h1 n hn)
abbrev Fair {H : Type} (P : Program) (t : TypeId) (d : DataW H) : Prop := ∀ n ∈ d.weights P t, n ≤ reachBytes
theorem cell_none {w : World} {a : Addr} {v : Value} (h : w.cell? a = some v) : a.spot = none ∧ a.block < w.heap.size := by
  unfold World.cell? at h
  split at h
  · rename_i ho
    refine ⟨?_, (Array.getElem?_eq_some_iff.1 ho).1⟩
    split at h
    · cases h
    · rename_i hs; simpa using hs
  · cases h
structure SlW (w : World) (sz : Nat) (A : Option Addr) (cap : Nat) (rows : List (List Value)) : Prop where
  len : rows.length ≤ cap
  few : cap ≤ 140737488351232
  lies : 0 < cap → ∃ b off, A = some ⟨b, off, none⟩ ∧ b < w.heap.size ∧ (∃ u, w.cell? ⟨b, off, none⟩ = some u) ∧ ∀ i r j u, rows[i]? = some r → r[j]? = some u → w.cell? ⟨b, off + (i * sz + j), none⟩ = some u
section
variable {H : Type} {enc : TypeId × Value → H} {P : Program} {w : World}
theorem open_rows {α : Type} [Inhabited α] {t e : TypeId} (code : α → List Value) (Q : α → Prop) {sz : Nat} (ht : P.underlying t = some (.slice e)) (hsz : P.cellsOf e = sz) (h0 : 0 < sz) (hb1 : 1 ≤ P.bytesOf e)
    (dec : ∀ (n : Nat) (cs : List Value) (y : DataW H × List MemPlace), DataW.trod enc P w 0 (fun _ => true) true n e cs = some y → Fair P e y.1 → ∃ x : α, cs = code x ∧ (code x).length = sz ∧ Q x)
    {fuel : Nat} {cs : List Value} {x : DataW H × List MemPlace} (h : DataW.trod enc P w 0 (fun _ => true) true fuel t cs = some x) (hw : Fair P t x.1) :
    ∃ (A : Option Addr) (cap : Nat) (l : List α), cs = [.slice A l.length cap] ∧ SlW w sz A cap (l.map code) ∧ (∀ x ∈ l, (code x).length = sz) ∧ ∀ x ∈ l, Q x := by
  rcases open_slice ht h with ⟨rfl, rfl⟩ | ⟨a, len, cap, m, n, D, Pl, rfl, _, hl, hm, hmm, rfl, hxx⟩
  · exact ⟨none, 0, [], rfl, ⟨by simp, by omega, fun h => by omega⟩, fun x hx => (by cases hx), fun x hx => by cases hx⟩
  · simp only [if_true] at hmm
    subst hmm
    have hwt : (len + (m - len)) * P.bytesOf e ≤ reachBytes := by
      refine hw _ ?_
      simp [DataW.weights, ht]
    have hcap : m ≤ 140737488351232 := by
      have h1 : m * 1 ≤ m * P.bytesOf e := Nat.mul_le_mul_left _ hb1
      rw [show len + (m - len) = m by omega] at hwt
      unfold reachBytes at hwt
      omega
    have hfair : ∀ i, i < len → Fair P e (D i) := by
      intro i hi k hk
      refine hw k ?_
      simp only [DataW.weights, ht, List.mem_cons, List.mem_append]
      exact .inr (.inl (weightsAll_mem (List.mem_map.2 ⟨i, List.mem_range.2 hi, rfl⟩) k hk))
    obtain ⟨f, hf⟩ := choose_lt (n := len) (p := fun i (x : α) => w.cells? 0 (a.add (i * P.cellsOf e)) (P.cellsOf e) = some (code x) ∧ (code x).length = sz ∧ Q x) (fun i hi => by
      obtain ⟨cs', h1, h2⟩ := hxx i (by omega)
      obtain ⟨x, rfl, hq0, hq⟩ := dec n cs' _ h2 (hfair i hi)
      exact ⟨x, h1, hq0, hq⟩)
    have key : 0 < m → ∃ b off, some a = some ⟨b, off, none⟩ ∧ b < w.heap.size ∧ (∃ u, w.cell? ⟨b, off, none⟩ = some u) ∧ ∀ i r j u, (((List.range len).map f).map code)[i]? = some r → r[j]? = some u → w.cell? ⟨b, off + (i * sz + j), none⟩ = some u := fun hpos => by
      obtain ⟨cs0, hc0, _⟩ := hxx 0 hpos
      obtain ⟨_, hcl, hcc⟩ := World.cells?_some hc0
      have hz := hcc 0 (by omega)
      rw [Nat.zero_mul] at hz
      have hz' : w.cell? a = cs0[0]? := by simpa [Addr.add] using hz
      rw [List.getElem?_eq_getElem (by omega)] at hz'
      obtain ⟨hs, hb⟩ := cell_none hz'
      obtain ⟨b, off, spot⟩ := a
      simp only at hs hb
      subst hs
      refine ⟨b, off, rfl, hb, ⟨_, hz'⟩, fun i r j u hr hu => ?_⟩
      rw [List.getElem?_map, List.getElem?_map] at hr
      by_cases hi : i < len
      · simp only [List.getElem?_range hi, Option.map_some, Option.some.injEq] at hr
        subst hr
        obtain ⟨_, _, hcj⟩ := World.cells?_some (hf i hi).1
        have hj : j < sz := by
          have := (List.getElem?_eq_some_iff.1 hu).1
          rw [(hf i hi).2.1] at this; exact this
        have := hcj j (by omega)
        rw [add_add, hu, hsz] at this
        rw [← this]
        congr 1
        unfold Addr.add
        split
        · simp_all
        · simp
      · rw [List.getElem?_eq_none (by simpa using hi)] at hr
        cases hr
    refine ⟨some a, m, (List.range len).map f, by simp, ⟨by simpa using hl, hcap, key⟩, fun x hx => ?_, fun x hx => ?_⟩
    · obtain ⟨i, hi, rfl⟩ := List.mem_map.1 hx
      exact (hf i (List.mem_range.1 hi)).2.1
    · obtain ⟨i, hi, rfl⟩ := List.mem_map.1 hx
      exact (hf i (List.mem_range.1 hi)).2.2
end
section
variable {H : Type} {enc : TypeId × Value → H} {w : World}
abbrev Rd (P : Program) (enc : TypeId × Value → H) (w : World) (n : Nat) (t : TypeId) (cs : List Value) : Option (DataW H × List MemPlace) := DataW.trod enc P w 0 (fun _ => true) true n t cs
theorem z6w {t : TypeId} {L : List (TypeId × Nat)} (hu : Tryz.prog.underlying t = some (.struct (Tryz.prog.fieldsOf t))) (hL : ((Tryz.prog.fieldsOf t).toList.map fun f => (f.type, f.offset)) = L)
    {n : Nat} {cs : List Value} {y : DataW H × List MemPlace} (h : Rd Tryz.prog enc w n t cs = some y) (hy : Fair Tryz.prog t y.1) :
    cs.length = Tryz.prog.cellsOf t ∧ ∃ m, ∀ (i : Nat) (ty : TypeId) (off : Nat), L[i]? = some (ty, off) → ∃ z, Rd Tryz.prog enc w m ty ((cs.drop off).take (Tryz.prog.cellsOf ty)) = some z ∧ Fair Tryz.prog ty z.1 := by
  obtain ⟨xs, m, _, rfl, hl, hlen, hf⟩ := DataW.trod_struct hu h
  refine ⟨hl, m, fun i ty off hi => ?_⟩
  rw [← hL, List.getElem?_map] at hi
  cases hfi : (Tryz.prog.fieldsOf t).toList[i]? with
  | none => rw [hfi] at hi; cases hi
  | some f =>
    rw [hfi] at hi
    simp only [Option.map_some, Option.some.injEq, Prod.mk.injEq] at hi
    obtain ⟨rfl, rfl⟩ := hi
    have h1 := hf i f (by simpa using hfi)
    have hilt : i < xs.length := by
      have := (List.getElem?_eq_some_iff.1 hfi).1
      rw [hlen]; simpa using this
    rw [List.getElem?_eq_getElem hilt] at h1
    refine ⟨_, h1, fun k hk => hy k ?_⟩
    simp only [DataW.weights, hu]
    exact DataW.weights_mem_each (j := i) (by rw [List.getElem?_map, hfi]; rfl) (by rw [List.getElem?_map, List.getElem?_eq_getElem hilt]; rfl) k hk
theorem z2s {n : Nat} {cs : List Value} {y : DataW H × List MemPlace} (h : Rd Tryz.prog enc w n 3 cs = some y) : ∃ k, cs = [vi k] := by
  obtain ⟨k, h1, _⟩ := DataW.trod_int Tryz.underlying3 h
  exact ⟨k, h1⟩
theorem list2 {α : Type} {l : List α} (h : l.length = 2) : ∃ a b, l = [a, b] := by
  match l, h with
  | [a, b], _ => exact ⟨a, b, rfl⟩
theorem list4 {α : Type} {l : List α} (h : l.length = 4) : ∃ a b c d, l = [a, b, c, d] := by
  match l, h with
  | [a, b, c, d], _ => exact ⟨a, b, c, d, rfl⟩
theorem list7 {α : Type} {l : List α} (h : l.length = 7) : ∃ a b c d e f g, l = [a, b, c, d, e, f, g] := by
  match l, h with
  | [a, b, c, d, e, f, g], _ => exact ⟨a, b, c, d, e, f, g, rfl⟩
theorem up : Tryz.prog.underlying 89 = some (.struct (Tryz.prog.fieldsOf 89)) := by kernel_rfl
theorem lp : ((Tryz.prog.fieldsOf 89).toList.map fun f => (f.type, f.offset)) = [(3, 0), (3, 1), (3, 2), (4, 3)] := by kernel_rfl
theorem uk : Tryz.prog.underlying 71 = some (.struct (Tryz.prog.fieldsOf 71)) := by kernel_rfl
theorem lk : ((Tryz.prog.fieldsOf 71).toList.map fun f => (f.type, f.offset)) = [(3, 0), (3, 1), (24, 2), (3, 3)] := by kernel_rfl
theorem ub : Tryz.prog.underlying 26 = some (.struct (Tryz.prog.fieldsOf 26)) := by kernel_rfl
theorem lb : ((Tryz.prog.fieldsOf 26).toList.map fun f => (f.type, f.offset)) = [(22, 0), (23, 1), (3, 2), (3, 3), (3, 4), (3, 5), (24, 6)] := by kernel_rfl
theorem k3 : Tryz.prog.cellsOf 3 = 1 := by kernel_rfl
theorem k4c : Tryz.prog.cellsOf 4 = 1 := by kernel_rfl
theorem k22c : Tryz.prog.cellsOf 22 = 1 := by kernel_rfl
theorem k23c : Tryz.prog.cellsOf 23 = 1 := by kernel_rfl
theorem k24c : Tryz.prog.cellsOf 24 = 1 := by kernel_rfl
theorem k26c : Tryz.prog.cellsOf 26 = 7 := by kernel_rfl
theorem k71c : Tryz.prog.cellsOf 71 = 4 := by kernel_rfl
theorem k89c : Tryz.prog.cellsOf 89 = 4 := by kernel_rfl
theorem b3 : 1 ≤ Tryz.prog.bytesOf 3 := by decide +kernel
theorem b71 : 1 ≤ Tryz.prog.bytesOf 71 := by decide +kernel
theorem b89 : 1 ≤ Tryz.prog.bytesOf 89 := by decide +kernel
instance : Inhabited Pc := ⟨⟨0, 0, 0, false⟩⟩
structure KdW where
  room : Int
  most : Int
  A : Option Addr
  cap : Nat
  zs : List Int
  step : Int
instance : Inhabited KdW := ⟨⟨0, 0, none, 0, [], 0⟩⟩
def intC (n : Int) : List Value := [vi n]
def KdW.code (x : KdW) : List Value := [vi x.room, vi x.most, .slice x.A x.zs.length x.cap, vi x.step]
def KdW.Lies (w : World) (x : KdW) : Prop := SlW w 1 x.A x.cap (x.zs.map intC)
theorem read_piece (n : Nat) (cs : List Value) (y : DataW H × List MemPlace) (h : Rd Tryz.prog enc w n 89 cs = some y) (hy : Fair Tryz.prog 89 y.1) : ∃ x : Pc, cs = x.row ∧ x.row.length = 4 ∧ True := by
  obtain ⟨hl, m, hm⟩ := z6w up lp h hy
  obtain ⟨c0, c1, c2, c3, rfl⟩ := list4 (hl.trans k89c)
  obtain ⟨z0, h0, _⟩ := hm 0 _ _ rfl
  obtain ⟨z1, h1, _⟩ := hm 1 _ _ rfl
  obtain ⟨z2, h2, _⟩ := hm 2 _ _ rfl
  obtain ⟨z3, h3, _⟩ := hm 3 _ _ rfl
  rw [k3] at h0 h1 h2
  rw [k4c] at h3
  obtain ⟨a, e0⟩ := z2s h0
  obtain ⟨b, e1⟩ := z2s h1
  obtain ⟨c, e2⟩ := z2s h2
  obtain ⟨d, e3, _⟩ := DataW.trod_bool Tryz.underlying4 h3
  simp at e0 e1 e2 e3
  exact ⟨⟨a, b, c, d⟩, by rw [e0, e1, e2, e3]; rfl, rfl, trivial⟩
theorem read_ints {n : Nat} {cs : List Value} {y : DataW H × List MemPlace} (h : Rd Tryz.prog enc w n 24 cs = some y) (hy : Fair Tryz.prog 24 y.1) : ∃ (A : Option Addr) (cap : Nat) (l : List Int), cs = [.slice A l.length cap] ∧ SlW w 1 A cap (l.map intC) := by
  obtain ⟨A, cap, l, h1, h2, _⟩ := open_rows (α := Int) intC (fun _ => True) Tryz.underlying24 k3 (by omega) b3 (fun n cs y hn _ => by
    obtain ⟨k, e⟩ := z2s hn
    exact ⟨k, e, rfl, trivial⟩) h hy
  exact ⟨A, cap, l, h1, h2⟩
theorem read_kind (n : Nat) (cs : List Value) (y : DataW H × List MemPlace) (h : Rd Tryz.prog enc w n 71 cs = some y) (hy : Fair Tryz.prog 71 y.1) : ∃ x : KdW, cs = x.code ∧ x.code.length = 4 ∧ x.Lies w := by
  obtain ⟨hl, m, hm⟩ := z6w uk lk h hy
  obtain ⟨c0, c1, c2, c3, rfl⟩ := list4 (hl.trans k71c)
  obtain ⟨z0, h0, _⟩ := hm 0 _ _ rfl
  obtain ⟨z1, h1, _⟩ := hm 1 _ _ rfl
  obtain ⟨z2, h2, y2⟩ := hm 2 _ _ rfl
  obtain ⟨z3, h3, _⟩ := hm 3 _ _ rfl
  rw [k3] at h0 h1 h3
  rw [k24c] at h2
  obtain ⟨a, e0⟩ := z2s h0
  obtain ⟨b, e1⟩ := z2s h1
  obtain ⟨A, cap, l, e2, q⟩ := read_ints h2 y2
  obtain ⟨d, e3⟩ := z2s h3
  simp at e0 e1 e2 e3
  exact ⟨⟨a, b, A, cap, l, d⟩, by rw [e0, e1, e2, e3]; rfl, rfl, q⟩
theorem read_book {v : Value} {d : DataW H} {ps : List MemPlace} {base : Nat} (hv : Value.okWide Tryz.prog w .any base 26 v) (h : DataW.Trod enc Tryz.prog w 0 (fun _ => true) true 26 v d ps) (hd : Fair Tryz.prog 26 d) :
    ∃ (A : Option Addr) (ca : Nat) (P : List Pc) (B : Option Addr) (cb : Nat) (K : List KdW) (C : Option Addr) (cc : Nat) (S : List Int) (g f u e : Int),
      v = .agg #[.slice A P.length ca, .slice B K.length cb, vi g, vi f, vi u, vi e, .slice C S.length cc] ∧ SlW w 4 A ca (P.map Pc.row) ∧ SlW w 4 B cb (K.map KdW.code) ∧ (∀ x ∈ K, x.Lies w) ∧ SlW w 1 C cc (S.map intC) := by
  unfold Value.okWide at hv
  rw [ub] at hv
  obtain ⟨cs, rfl, hsz, _⟩ := hv
  obtain ⟨n, h⟩ := h
  obtain ⟨hl, m, hm⟩ := z6w ub lb h hd
  obtain ⟨c0, c1, c2, c3, c4, c5, c6, hcs⟩ := list7 (hl.trans k26c)
  have hcs' : cs.toList = [c0, c1, c2, c3, c4, c5, c6] := hcs
  have ea : cs = #[c0, c1, c2, c3, c4, c5, c6] := by rw [← Array.toArray_toList (xs := cs), hcs']
  subst ea
  obtain ⟨z0, h0, y0⟩ := hm 0 _ _ rfl
  obtain ⟨z1, h1, y1⟩ := hm 1 _ _ rfl
  obtain ⟨z2, h2, _⟩ := hm 2 _ _ rfl
  obtain ⟨z3, h3, _⟩ := hm 3 _ _ rfl
  obtain ⟨z4, h4, _⟩ := hm 4 _ _ rfl
  obtain ⟨z5, h5, _⟩ := hm 5 _ _ rfl
  obtain ⟨z6, h6, y6⟩ := hm 6 _ _ rfl
  rw [k3] at h2 h3 h4 h5
  rw [k22c] at h0
  rw [k23c] at h1
  rw [k24c] at h6
  obtain ⟨A, ca, P, e0, q0, _⟩ := open_rows (α := Pc) Pc.row (fun _ => True) Tryz.underlying22 k89c (by omega) b89 read_piece h0 y0
  obtain ⟨B, cb, K, e1, q1, _, q1'⟩ := open_rows (α := KdW) KdW.code (KdW.Lies w) Tryz.underlying23 k71c (by omega) b71 read_kind h1 y1
  obtain ⟨g, e2⟩ := z2s h2
  obtain ⟨f, e3⟩ := z2s h3
  obtain ⟨u, e4⟩ := z2s h4
  obtain ⟨e, e5⟩ := z2s h5
  obtain ⟨C, cc, S, e6, q6⟩ := read_ints h6 y6
  simp [Value.cells] at e0 e1 e2 e3 e4 e5 e6
  exact ⟨A, ca, P, B, cb, K, C, cc, S, g, f, u, e, by rw [e0, e1, e2, e3, e4, e5, e6], q0, q1, q1', q6⟩
end
open Go Go.RowKit Go.Deep Go.ChangeShapes Go.WideShapes Go.ChangeAt
open Go.Lm (vi)
set_option maxHeartbeats 1000000
theorem own_knob : ownKnob Tryz.prog.godebug = none := by kernel_rfl
theorem kids : Kids Tryz.prog (· < Tryz.prog.types.size) := kids_rows (by kernel_rfl) (by kernel_rfl)
theorem full : ∀ t e, t < Tryz.prog.types.size → Tryz.prog.underlying t = some (.slice e) → 0 < Tryz.prog.cellsOf e := slices_full_of Tryz.prog (by kernel_rfl)
section
variable {H : Type} {enc : TypeId × Value → H}
theorem carry_all {P : Program} {w w' : World} {b : Nat} {sp : Nat → Bool} {hd : Bool} : ∀ {ts : List TypeId} {vs : List Value} {ds : List (DataW H)} {ps : List MemPlace}, DataW.TrodAll enc P w b sp hd ts vs ds ps → (∀ p ∈ ps, w.sameAt w' p) → DataW.TrodAll enc P w' b sp hd ts vs ds ps
  | [], [], [], _, h, _ => h
  | _ :: _, _ :: _, _ :: _, _, ⟨p, q, ⟨n, h1⟩, h2, e⟩, hs =>
    ⟨p, q, ⟨n, DataW.trod_carry n _ _ _ h1 fun x hx => hs x (by rw [e]; exact List.mem_append_left _ hx)⟩, carry_all h2 fun x hx => hs x (by rw [e]; exact List.mem_append_right _ hx), e⟩
theorem post_true {s : ChangeSpec} {fn : Func} {W W' : World} {args : Array Value} {ds gs : List (DataW H)} {before : List MemPlace}
    (hW : DataW.Whole enc Tryz.prog fn.params.toList s.vars false W args.toList ds gs before) (hv : s.vars = []) (hs : s.fn H ds = { results := [.lit (.bool true)], args := ds })
    (ht : fn.resultTypes = #[4]) (hp : ∀ t ∈ fn.params.toList, t < Tryz.prog.types.size) (hb : Below W.heap.size W W') :
    s.post enc Tryz.prog fn false true false false W args (.bool true) W' := by
  have hW0 := hW
  obtain ⟨p, q, hA, hV, rfl, hfz, hnd⟩ := hW
  rw [hv] at hV
  obtain ⟨rfl, rfl⟩ := trodVars_none hV
  have hlt : ∀ x ∈ p, x.block < W.heap.size := fun x hx => hW0.lt x (by simpa using hx)
  refine ⟨ds, [], p ++ [], [], p, [], hW0, ?_, ?_, ?_, ?_, fun h => by cases h⟩
  · rw [ht, List.append_nil, hs]
    exact trodAll_cons_mk (shut_bool Tryz.underlying4 true) trodAll_mk0
  · rw [List.append_nil, hs]
    exact DataW.TrodAll.respare kids full hp (carry_all hA fun x hx => hb.same (hlt x hx)) fun x hx => by simpa using hlt x hx
  · rw [hv, List.append_nil, hs]
    rfl
  · exact World.keptBut_mono (fun _ h => h.elim) (hb.frame fun _ => False)
end
section
variable {H : Type} {enc : TypeId × Value → H} {w : World} {sp : Nat → Bool} {hd : Bool} {base : Nat}
theorem ks : Tryz.prog.cellsOf 104 = 2 := by kernel_rfl
theorem us : Tryz.prog.underlying 104 = some (.struct (Tryz.prog.fieldsOf 104)) := by kernel_rfl
theorem ls : ((Tryz.prog.fieldsOf 104).toList.map fun f => (f.type, f.offset)) = [(3, 0), (3, 1)] := by kernel_rfl
theorem told_int {n : Nat} {cs : List Value} {y : DataW H × List MemPlace} (h : DataW.trod enc Tryz.prog w base sp hd n 3 cs = some y) : ∃ k, cs = [vi k] ∧ y.1 = .lit (.int .i64 k) := by
  obtain ⟨k, h1, h2, _⟩ := DataW.trod_int Tryz.underlying3 h
  exact ⟨k, h1, by rw [h2]⟩
theorem told_span {n : Nat} {cs : List Value} {y : DataW H × List MemPlace} (h : DataW.trod enc Tryz.prog w base sp hd n 104 cs = some y) : ∃ a b, cs = [vi a, vi b] ∧ y.1 = .agg [.lit (.int .i64 a), .lit (.int .i64 b)] := by
  obtain ⟨xs, m, _, rfl, hl, hlen, hf⟩ := DataW.trod_struct us h
  obtain ⟨c0, c1, rfl⟩ := list2 (hl.trans ks)
  have hsz : (Tryz.prog.fieldsOf 104).size = 2 := by kernel_rfl
  rw [hsz] at hlen
  obtain ⟨x0, x1, rfl⟩ := list2 hlen
  have key : ∀ (i ty off : Nat), ((Tryz.prog.fieldsOf 104).toList.map fun f => (f.type, f.offset))[i]? = some (ty, off) → DataW.trod enc Tryz.prog w base sp hd m ty (([c0, c1].drop off).take (Tryz.prog.cellsOf ty)) = [x0, x1][i]? := by
    intro i ty off hi
    rw [List.getElem?_map] at hi
    cases hfi : (Tryz.prog.fieldsOf 104).toList[i]? with
    | none => rw [hfi] at hi; cases hi
    | some f =>
      rw [hfi] at hi
      simp only [Option.map_some, Option.some.injEq, Prod.mk.injEq] at hi
      obtain ⟨rfl, rfl⟩ := hi
      exact hf i f (by simpa using hfi)
  have h0 := key 0 3 0 (by rw [ls]; rfl)
  have h1 := key 1 3 1 (by rw [ls]; rfl)
  rw [k3] at h0 h1
  obtain ⟨a, e0, d0⟩ := told_int h0
  obtain ⟨b, e1, d1⟩ := told_int h1
  simp at e0 e1
  exact ⟨a, b, by rw [e0, e1], by simp [d0, d1]⟩
end
def lo0 (k : Nat) : Int := ([1, 1, 1, 0, 1, 0, 1, 0, 1, 1, 0] : List Int).getD k 0
def hi0 (k : Nat) : Int := ([7, 500, 5000, 10000, 4, 4, 1000, 1000, 10000, 5, 20000] : List Int).getD k 0
theorem g0N : Tryz.prog.globalNamed "wishbook/parcel.limits" = some 0 := by kernel_rfl
theorem g0T : (Tryz.prog.globals[0]?).map (·.type) = some 105 := by kernel_rfl
theorem g0U : Tryz.prog.underlying 105 = some (.array 11 104) := by kernel_rfl
theorem lim0 {W : World} {ps : List MemPlace} {cs : Array Value} {fuel : Nat} (hvar : W.var? Tryz.prog "wishbook/parcel.limits" = some cs) (hd : DataW.trod (fun _ => ()) Tryz.prog W 0 (fun _ => true) false fuel 105 cs.toList = some (Rows.laid_wishbook_parcel_limits, ps)) :
    ∀ k : Nat, k < 11 → W.cell? ⟨0, k * 2, none⟩ = some (vi (lo0 k)) ∧ W.cell? ⟨0, k * 2 + 1, none⟩ = some (vi (hi0 k)) := by
  obtain ⟨xs, m, _, hx, hl, hlen, hf⟩ := DataW.trod_array g0U hd
  have hcell := World.var?_cell g0N hvar
  have hxs : xs.map (·.1) = [.agg [.lit (.int .i64 1), .lit (.int .i64 7)], .agg [.lit (.int .i64 1), .lit (.int .i64 500)], .agg [.lit (.int .i64 1), .lit (.int .i64 5000)], .agg [.lit (.int .i64 0), .lit (.int .i64 10000)], .agg [.lit (.int .i64 1), .lit (.int .i64 4)], .agg [.lit (.int .i64 0), .lit (.int .i64 4)], .agg [.lit (.int .i64 1), .lit (.int .i64 1000)], .agg [.lit (.int .i64 0), .lit (.int .i64 1000)], .agg [.lit (.int .i64 1), .lit (.int .i64 10000)], .agg [.lit (.int .i64 1), .lit (.int .i64 5)], .agg [.lit (.int .i64 0), .lit (.int .i64 20000)]] := by
    have := congrArg Prod.fst hx
    simpa [Rows.laid_wishbook_parcel_limits] using this.symm
  have key : ∀ (k : Nat) (a b : Int), k < 11 → (xs.map (·.1))[k]? = some (.agg [.lit (.int .i64 a), .lit (.int .i64 b)]) → W.cell? ⟨0, k * 2, none⟩ = some (vi a) ∧ W.cell? ⟨0, k * 2 + 1, none⟩ = some (vi b) := by
    intro k a b hk hkx
    have h1 := hf k hk
    rw [ks] at h1
    rw [List.getElem?_map] at hkx
    cases hxk : xs[k]? with
    | none => rw [hxk] at hkx; cases hkx
    | some z =>
      rw [hxk] at h1 hkx
      obtain ⟨a', b', e, hz⟩ := told_span h1
      simp only [Option.map_some, Option.some.injEq] at hkx
      rw [hz] at hkx
      simp only [DataW.agg.injEq, List.cons.injEq, DataW.lit.injEq, Lit.int.injEq, true_and, and_true] at hkx
      obtain ⟨rfl, rfl⟩ := hkx
      have e0 := congrArg (fun l : List Value => l[0]?) e
      have e1 := congrArg (fun l : List Value => l[1]?) e
      simp only [List.getElem?_take, List.getElem?_drop, List.getElem?_cons_zero, List.getElem?_cons_succ] at e0 e1
      refine ⟨(hcell _).trans ?_, (hcell _).trans ?_⟩
      · simpa using e0
      · simpa using e1
  intro k hk
  have : k = 0 ∨ k = 1 ∨ k = 2 ∨ k = 3 ∨ k = 4 ∨ k = 5 ∨ k = 6 ∨ k = 7 ∨ k = 8 ∨ k = 9 ∨ k = 10 := by omega
  rcases this with rfl | rfl | rfl | rfl | rfl | rfl | rfl | rfl | rfl | rfl | rfl
  all_goals exact key _ _ _ (by omega) (by rw [hxs]; rfl)
theorem block_of {w : World} {a : Addr} {v : Value} (h : w.cell? a = some v) : ∃ cs e fz, w.heap[a.block]? = some (.cells cs e fz) := by
  unfold World.cell? at h
  split at h
  · rename_i cs e fz hq; exact ⟨cs, e, fz, hq⟩
  · cases h
structure Lim (w : World) : Prop where
  pos : 1 ≤ w.heap.size
  stop : w.cell? ⟨0, 22, none⟩ = none
  l0 : ∀ k : Nat, k < 11 → w.cell? ⟨0, k * 2, none⟩ = some (vi (lo0 k)) ∧ w.cell? ⟨0, k * 2 + 1, none⟩ = some (vi (hi0 k))
theorem lim_of {W : World} (h : laidMet Tryz.prog [("wishbook/parcel.limits", Rows.laid_wishbook_parcel_limits)] W) : Lim W := by
  obtain ⟨ps, ⟨g0, t0, cs0, fuel0, p0, q0, hg0, ht0, hvar0, hd0, hr0, _⟩, _⟩ := h
  obtain rfl := Option.some.inj (g0N.symm.trans hg0)
  obtain rfl := Option.some.inj (g0T.symm.trans ht0)
  have L0 := lim0 hvar0 hd0
  have := (cell_none (L0 0 (by omega)).1).2
  simp only at this
  have hstop : W.cell? ⟨0, 22, none⟩ = none := by
    obtain ⟨xs, m, _, hx, hl, hlen, hf⟩ := DataW.trod_array g0U hd0
    have hcell := World.var?_cell g0N hvar0 22
    have hk : Tryz.prog.cellsOf 105 = 22 := by kernel_rfl
    rw [hcell]
    have hsz : cs0.size = 22 := by simpa [hk] using hl
    exact Array.getElem?_eq_none (by omega)
  exact ⟨by omega, hstop, L0⟩
noncomputable def laidWorld (os : Os) : World :=
  { World.holding Tryz.prog os ⟨#[], #[], []⟩ with heap := ((World.holding Tryz.prog os ⟨#[], #[], []⟩).heap.modify 0 (fun
      | .cells _ t frozen => .cells #[vi 1, vi 7, vi 1, vi 500, vi 1, vi 5000, vi 0, vi 10000, vi 1, vi 4, vi 0, vi 4, vi 1, vi 1000, vi 0, vi 1000, vi 1, vi 10000, vi 1, vi 5, vi 0, vi 20000] t frozen
      | o => o)) }
end Go.Proofs.YtcmkngajdckndaaGreatDoor
