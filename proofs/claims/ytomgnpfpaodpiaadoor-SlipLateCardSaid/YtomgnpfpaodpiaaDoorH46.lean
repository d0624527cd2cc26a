/- The steps of the program's loads and of the specification are the same: how many tours go so far, for each distance. -/
import Derived.Test.YtomgnpfpaodpiaaDoorH45
import Derived.Test.YtomgnpfpaodpiaaDoorH34
set_option linter.unusedVariables false
set_option linter.unusedSimpArgs false
namespace Go.Proofs.YtomgnpfpaodpiaaDoor
open Go Go.RowKit
theorem moves_same (p : List Int) : ∀ n : Nat, movesF n p = movesP p n
  | 0 => rfl
  | n + 1 => by rw [movesF_succ, moves_same p n]; rfl
theorem OnF.twelve {f : Floor} {p : List Int} (h : OnF f p) : ∃ m, Twelve m p := by
  have : ∀ l : List Int, (∀ n ∈ l, 0 ≤ n) → ∃ m : Int, ∀ n ∈ l, n ≤ m := by
    intro l
    induction l with
    | nil => intro _; exact ⟨0, by simp⟩
    | cons x l ih =>
      intro hp
      obtain ⟨m, hm⟩ := ih (fun n hn => hp n (by simp [hn]))
      have := hp x (by simp)
      refine ⟨max m x, fun n hn => ?_⟩
      rcases List.mem_cons.1 hn with rfl | hn
      · omega
      · have := hm n hn; omega
  obtain ⟨m, hm⟩ := this p h.pos
  exact ⟨m, h.len, h.pos, hm⟩
theorem farthest_on {f : Floor} (hv : validB f = true) {p : List Int} (hp : OnF f p) (c : Nat) : OnF f (farthestF c p) ∧ OnF f (withoutF p (farthestF c p)) ∧ ∀ h : Int, maskS (farB f h) 0 (farthestF c p) = min (c : Int) (maskS (farB f h) 0 p) ∧ maskS (farB f h) 0 (withoutF p (farthestF c p)) = maskS (farB f h) 0 p - min (c : Int) (maskS (farB f h) 0 p) := by
  obtain ⟨m, hm⟩ := hp.twelve
  obtain ⟨h1, h2, h3⟩ := moves_spec hv hp c
  rw [without_moves hm c, moves_same, farthest_moves]
  exact ⟨h2, h1, h3⟩
theorem greatest_ge {h : Int} : ∀ (l : List Int) (a : Int), h ≤ greatestF a l ↔ h ≤ a ∨ ∃ y ∈ l, h ≤ y
  | [], a => by simp [greatestF]
  | x :: l, a => by
    have e : greatestF a (x :: l) = greatestF (max a x) l := rfl
    rw [e, greatest_ge l]
    constructor
    · rintro (h1 | ⟨y, hy, h1⟩)
      · rcases (show h ≤ a ∨ h ≤ x by omega) with h1 | h1
        · exact .inl h1
        · exact .inr ⟨x, by simp, h1⟩
      · exact .inr ⟨y, by simp [hy], h1⟩
    · rintro (h1 | ⟨y, hy, h1⟩)
      · exact .inl (by omega)
      · rcases List.mem_cons.1 hy with rfl | hy
        · exact .inl (by omega)
        · exact .inr ⟨y, hy, h1⟩
theorem linesFrom_in : ∀ (p : List Int) (j k : Nat) (n : Int), p[k]? = some n → 0 < n → (⟨((j + k : Nat) : Int), n⟩ : SLine) ∈ linesFrom j p
  | [], _, _, _, h, _ => by simp at h
  | a :: p, j, 0, n, h, h0 => by
    simp only [List.getElem?_cons_zero, Option.some.injEq] at h
    subst h
    rw [linesFrom, if_pos h0]
    simp
  | a :: p, j, k + 1, n, h, h0 => by
    rw [List.getElem?_cons_succ] at h
    have := linesFrom_in p (j + 1) k n h h0
    rw [show j + 1 + k = j + (k + 1) by omega] at this
    rw [linesFrom]
    split
    · exact List.mem_cons_of_mem _ this
    · exact this
theorem long_mask {f : Floor} {q : List Int} (hq : OnF f q) {h : Int} (h1 : 1 ≤ h) : h ≤ greatestF 0 (farsF f q) ↔ 1 ≤ maskS (farB f h) 0 q := by
  rw [greatest_ge]
  constructor
  · rintro (h2 | ⟨y, hy, h2⟩)
    · omega
    · obtain ⟨x, hx, rfl⟩ := List.mem_map.1 hy
      obtain ⟨k, e1, e2, e3⟩ := linesFrom_mem q 0 x hx
      have hk : x.shelf.toNat = k := by omega
      have := maskS_ge (g := farB f h) q 0 k x.many hq.pos e2 (by
        rw [Nat.zero_add]
        unfold farB fkF
        unfold farF at h2
        rw [hk] at h2
        simpa using h2)
      omega
  · intro h2
    obtain ⟨k, x, e1, e2, e3⟩ := maskS_some q 0 hq.pos h2
    rw [Nat.zero_add] at e3
    have := linesFrom_in q 0 k x e1 e2
    rw [Nat.zero_add] at this
    refine .inr ⟨farF f ⟨k, x⟩, List.mem_map.2 ⟨_, this, rfl⟩, ?_⟩
    unfold farB fkF at e3
    unfold farF
    simpa using e3
theorem long_sum {f : Floor} (hv : validB f = true) {q : List Int} (hq : OnF f q) : longF f q = 2 * PM.sumH (fun h => if 1 ≤ maskS (farB f h) 0 q then 1 else 0) 500 := by
  have hr := fars_range (fine hv) (q := q) hq.only
  have : PM.sumH (fun h => if 1 ≤ maskS (farB f h) 0 q then 1 else 0) 500 = PM.sumH (fun h => if (h : Int) ≤ greatestF 0 (farsF f q) then 1 else 0) 500 := PM.sumH_congr 500 fun i h1 _ => by
    have := long_mask hq (h := (i : Int)) (by omega)
    by_cases hc : (i : Int) ≤ greatestF 0 (farsF f q)
    · rw [if_pos hc, if_pos (this.1 hc)]
    · rw [if_neg hc, if_neg (fun e => hc (this.2 e))]
  rw [this, PM.sumH_one _ hr.1, longF]
  omega
theorem mask_sum {g : Nat → Bool} : ∀ (p : List Int) (i : Nat), (∀ n ∈ p, 0 ≤ n) → maskS g i p ≤ p.sum
  | [], _, _ => Int.le_refl _
  | x :: p, i, h => by
    have h1 := h x (by simp)
    have h2 := mask_sum (g := g) p (i + 1) (fun n hn => h n (by simp [hn]))
    rw [maskS, List.sum_cons]
    split <;> omega
theorem true_sum : ∀ (p : List Int) (i : Nat), maskS (fun _ => true) i p = p.sum
  | [], _ => rfl
  | x :: p, i => by rw [maskS, List.sum_cons, true_sum p]; rfl
theorem up_step {x : Int} {c : Nat} (hc : 1 ≤ c) (h0 : 0 ≤ x) : ((PM.upD x.toNat c : Nat) : Int) = (if 1 ≤ min (c : Int) x then 1 else 0) + ((PM.upD (x - min (c : Int) x).toNat c : Nat) : Int) := by
  by_cases h1 : x = 0
  · subst h1
    rw [if_neg (by omega), show (0 - min (c : Int) 0).toNat = 0 by omega, show (0 : Int).toNat = 0 from rfl, PM.up_zero hc]
    rfl
  · rw [if_pos (by omega)]
    by_cases h2 : x ≤ c
    · rw [PM.up_one (by omega) (by omega), show (x - min (c : Int) x).toNat = 0 by omega, PM.up_zero hc]
      rfl
    · obtain ⟨y, hy⟩ : ∃ y : Nat, x.toNat = c + y := ⟨x.toNat - c, by omega⟩
      rw [hy, PM.up_add hc, show (x - min (c : Int) x).toNat = y by omega]
      omega
theorem far_zero {f : Floor} (hv : validB f = true) {p : List Int} : maskS (farB f 0) 0 p = p.sum := by
  have : farB f 0 = fun _ => true := funext fun k => by
    unfold farB
    have := (fk_range hv k).1
    simpa using this
  rw [this, true_sum]
theorem loads_sum {f : Floor} (hv : validB f = true) {c : Nat} (hc : 1 ≤ c) : ∀ (n : Nat) (p : List Int), OnF f p → p.sum ≤ n → stepsL f (loadsF c n p) = 2 * PM.sumH (fun h => ((PM.upD (maskS (farB f h) 0 p).toNat c : Nat) : Int)) 500
  | 0, p, hp, hs => by
    have : (fun h : Nat => ((PM.upD (maskS (farB f h) 0 p).toNat c : Nat) : Int)) = fun _ => 0 := funext fun h => by
      have h1 := mask_sum (g := farB f h) p 0 hp.pos
      rw [show (maskS (farB f h) 0 p).toNat = 0 by omega, PM.up_zero hc]; rfl
    rw [this, PM.sumH_zero]
    rfl
  | n + 1, p, hp, hs => by
    rw [loadsF]
    by_cases hz : p.all (· == 0) = true
    · rw [if_pos hz]
      rw [List.all_eq_true] at hz
      have hall : ∀ n ∈ p, n = 0 := fun n hn => by simpa using hz n hn
      have h0 : p.sum ≤ 0 := by
        clear hs hp hz
        induction p with
        | nil => exact Int.le_refl _
        | cons x p ih =>
          have := hall x (by simp)
          have := ih (fun n hn => hall n (by simp [hn]))
          rw [List.sum_cons]; omega
      have : (fun h : Nat => ((PM.upD (maskS (farB f h) 0 p).toNat c : Nat) : Int)) = fun _ => 0 := funext fun h => by
        have h1 := mask_sum (g := farB f h) p 0 hp.pos
        rw [show (maskS (farB f h) 0 p).toNat = 0 by omega, PM.up_zero hc]; rfl
      rw [this, PM.sumH_zero]
      rfl
    · rw [if_neg hz]
      obtain ⟨h1, h2, h3⟩ := farthest_on hv hp c
      have hpos : 1 ≤ p.sum := by
        apply Classical.byContradiction
        intro hn
        apply hz
        rw [List.all_eq_true]
        intro x hx
        have := zeros_of_sum p hp.pos (by omega) x hx
        simp [this]
      have hs2 : (withoutF p (farthestF c p)).sum ≤ n := by
        have := (h3 0).2
        rw [far_zero hv, far_zero hv] at this
        omega
      have e : stepsL f (farthestF c p :: loadsF c n (withoutF p (farthestF c p))) = longF f (farthestF c p) + stepsL f (loadsF c n (withoutF p (farthestF c p))) := by simp [stepsL]
      rw [e, loads_sum hv hc n _ h2 hs2, long_sum hv h1, ← Int.mul_add, ← PM.sumH_add]
      refine congrArg (fun x : Int => 2 * x) ?_
      refine PM.sumH_congr _ fun i _ _ => ?_
      obtain ⟨j1, j2⟩ := h3 i
      rw [j1, j2]
      exact (up_step hc (maskS_nonneg p 0 hp.pos)).symm
/-- the distances of pieces, the farthest first -/
def distF (f : Floor) : List SLine → List Int
  | [] => []
  | x :: l => distF f l ++ List.replicate x.many.toNat (farF f x)
theorem iter_fold (C d : Int) : ∀ (n : Nat) (st : Int × Int), iterP (stepP C d) n st = (List.replicate n d).foldl (fun st d => stepP C d st) st
  | 0, st => rfl
  | n + 1, st => by
    rw [iterP, iter_fold C d n st, List.replicate_succ', List.foldl_append]
    rfl
theorem state_fold (f : Floor) : ∀ l : List SLine, stateR f l = (distF f l).foldl (fun st d => stepP f.carry d st) (0, 0)
  | [] => rfl
  | x :: l => by
    have e : stateR f (x :: l) = iterP (stepP f.carry (farF f x)) x.many.toNat (stateR f l) := rfl
    rw [e, iter_fold, state_fold f l, distF, List.foldl_append]
theorem st_fuel {C : Nat} (hC : 1 ≤ C) : ∀ (n m : Nat) (D : List Int), D.length ≤ n → D.length ≤ m → PM.stD C n D = PM.stD C m D
  | 0, m, D, h, _ => by
    obtain rfl := List.length_eq_zero_iff.1 (show D.length = 0 by omega)
    cases m <;> rfl
  | n + 1, 0, D, _, h => by
    obtain rfl := List.length_eq_zero_iff.1 (show D.length = 0 by omega)
    rfl
  | n + 1, m + 1, [], _, _ => rfl
  | n + 1, m + 1, d :: D, h, k => by
    rw [PM.stD, PM.stD, st_fuel hC n m ((d :: D).drop C) (by rw [List.length_drop]; simp at h ⊢; omega) (by rw [List.length_drop]; simp at k ⊢; omega)]
theorem fold_st {C : Nat} (hC : 1 ≤ C) : ∀ (D : List Int) (acc : Int) (r : Nat), (D.foldl (fun st d => stepP C d st) (acc, (r : Int))).1 = acc + PM.stD C D.length (D.drop r)
  | [], acc, r => by simp [PM.stD]
  | d :: D, acc, 0 => by
    have e : (d :: D).foldl (fun st d => stepP C d st) (acc, ((0 : Nat) : Int)) = D.foldl (fun st d => stepP C d st) (acc + 2 * d, ((C - 1 : Nat) : Int)) := by
      have h1 : ((C - 1 : Nat) : Int) = (C : Int) - 1 := by omega
      rw [List.foldl_cons, h1]
      rfl
    rw [e, fold_st hC D, List.drop_zero, List.length_cons, PM.stD]
    have e2 : (d :: D).drop C = D.drop (C - 1) := by
      obtain ⟨c, rfl⟩ : ∃ c, C = c + 1 := ⟨C - 1, by omega⟩
      rfl
    rw [e2]
    omega
  | d :: D, acc, r + 1 => by
    have e : (d :: D).foldl (fun st d => stepP C d st) (acc, ((r + 1 : Nat) : Int)) = D.foldl (fun st d => stepP C d st) (acc, (r : Int)) := by
      have h1 : stepP C (acc, ((r + 1 : Nat) : Int)).1 (acc, ((r + 1 : Nat) : Int)) = stepP C (acc, ((r + 1 : Nat) : Int)).1 (acc, ((r + 1 : Nat) : Int)) := rfl
      clear h1
      have h2 : stepP C d (acc, ((r + 1 : Nat) : Int)) = (acc, (r : Int)) := by
        unfold stepP
        rw [if_neg (show ¬ ((r + 1 : Nat) : Int) = 0 by omega)]
        simp
      rw [List.foldl_cons, h2]
    rw [e, fold_st hC D, List.drop_succ_cons, List.length_cons]
    rw [st_fuel hC D.length (D.length + 1) (D.drop r) (by rw [List.length_drop]; omega) (by rw [List.length_drop]; omega)]
end Go.Proofs.YtomgnpfpaodpiaaDoor

/- The specification's steps and seconds are the program's. -/
namespace Go.Proofs.YtomgnpfpaodpiaaDoor
open Go Go.RowKit
theorem cnt_rep (h d : Int) : ∀ n : Nat, PM.cnt h (List.replicate n d) = if h ≤ d then n else 0
  | 0 => by simp [PM.cnt]
  | n + 1 => by
    have := cnt_rep h d n
    unfold PM.cnt at this ⊢
    rw [List.replicate_succ, List.countP_cons, this]
    by_cases hc : h ≤ d <;> simp [hc]
theorem cnt_dist (f : Floor) (h : Int) : ∀ l : List SLine, (∀ x ∈ l, 0 ≤ x.many) → ((PM.cnt h (distF f l) : Nat) : Int) = (l.map fun x => if farB f h x.shelf.toNat then x.many else 0).sum
  | [], _ => rfl
  | x :: l, hx => by
    have h1 := cnt_dist f h l (fun y hy => hx y (by simp [hy]))
    have h2 := hx x (by simp)
    rw [distF, PM.cnt_app, cnt_rep, List.map_cons, List.sum_cons, ← h1]
    have e : farB f h x.shelf.toNat = decide (h ≤ farF f x) := rfl
    rw [e]
    by_cases hc : h ≤ farF f x
    · rw [if_pos hc, if_pos (by simpa using hc)]; omega
    · rw [if_neg hc, if_neg (by simpa using hc)]; omega
theorem dist_mem (f : Floor) : ∀ (l : List SLine) (d : Int), d ∈ distF f l → ∃ x ∈ l, d = farF f x
  | [], d, h => by simp [distF] at h
  | x :: l, d, h => by
    rw [distF, List.mem_append] at h
    rcases h with h | h
    · obtain ⟨y, hy, e⟩ := dist_mem f l d h
      exact ⟨y, by simp [hy], e⟩
    · exact ⟨x, by simp, (List.mem_replicate.1 h).2⟩
theorem dist_sorted (f : Floor) : ∀ l : List SLine, l.Pairwise (fun x y => farF f x ≤ farF f y) → (distF f l).Pairwise (· ≥ ·)
  | [], _ => by simp [distF]
  | x :: l, h => by
    obtain ⟨h1, h2⟩ := List.pairwise_cons.1 h
    rw [distF, List.pairwise_append]
    refine ⟨dist_sorted f l h2, List.pairwise_replicate.2 (.inr (Int.le_refl _)), fun a ha b hb => ?_⟩
    obtain ⟨y, hy, rfl⟩ := dist_mem f l a ha
    rw [(List.mem_replicate.1 hb).2]
    exact h1 y hy
theorem shelf_sorted {n : Int} {l : List SLine} (h : linesR n l = true) : l.Pairwise (fun x y => x.shelf < y.shelf) := by
  have step : ∀ (k : Nat) (x y : SLine), l[k]? = some x → l[k + 1]? = some y → x.shelf < y.shelf := fun k x y hx hy => by
    have hk := (List.getElem?_eq_some_iff.1 hy).1
    unfold linesR at h
    rw [List.all_eq_true] at h
    have := h (k + 1) (List.mem_range.2 hk)
    rw [goodLine_ref hy, Bool.and_eq_true, nextF_succ hx] at this
    have := hasB_iff.1 this.1
    omega
  rw [List.pairwise_iff_getElem]
  intro i j hi hj hij
  have key : ∀ d : Nat, (hd : i + 1 + d < l.length) → l[i].shelf < l[i + 1 + d].shelf := by
    intro d
    induction d with
    | zero => intro hd; exact step i _ _ (List.getElem?_eq_getElem hi) (List.getElem?_eq_getElem hd)
    | succ d ih =>
      intro hd
      have h1 := ih (by omega)
      have h2 := step (i + 1 + d) _ _ (List.getElem?_eq_getElem (by omega)) (List.getElem?_eq_getElem hd)
      exact Int.lt_trans h1 h2
  have := key (j - i - 1) (by omega)
  have e : i + 1 + (j - i - 1) = j := by omega
  simp only [e] at this
  exact this
theorem far_sorted {f : Floor} (hv : validB f = true) {l : List SLine} (h : linesR f.far.length l = true) : l.Pairwise (fun x y => farF f x ≤ farF f y) := by
  refine List.Pairwise.imp_of_mem (fun {a b} ha hb hab => ?_) (shelf_sorted h)
  obtain ⟨i, hi, rfl⟩ := List.mem_iff_getElem.1 ha
  obtain ⟨j, hj, rfl⟩ := List.mem_iff_getElem.1 hb
  have h1 := (linesR_at h i _ (List.getElem?_eq_getElem hi)).1
  have h2 := (linesR_at h j _ (List.getElem?_eq_getElem hj)).1
  exact far_mono hv _ _ (by omega) (by omega)
theorem cntL_nonneg (j : Nat) : ∀ l : List SLine, (∀ x ∈ l, 0 ≤ x.many) → 0 ≤ cntL j l
  | [], _ => Int.le_refl _
  | x :: l, h => by
    have h1 := h x (by simp)
    have h2 := cntL_nonneg j l (fun y hy => h y (by simp [hy]))
    have e : cntL j (x :: l) = (if x.shelf.toNat = j then x.many else 0) + cntL j l := by simp [cntL]
    rw [e]
    split <;> omega
theorem pieces_on {f : Floor} (hf : f.far.length ≤ 12) {l : List SLine} (h : ∀ x ∈ l, (0 ≤ x.shelf ∧ x.shelf < (f.far.length : Int)) ∧ 0 ≤ x.many) : OnF f (piecesF l) := by
  refine ⟨pieces_len l, fun n hn => ?_, fun k x hx h0 => ?_⟩
  · obtain ⟨k, hk, rfl⟩ := List.mem_iff_getElem.1 hn
    have h1 := pieces_get l (j := k) (by rw [pieces_len] at hk; exact hk)
    rw [List.getElem?_eq_getElem hk] at h1
    simp only [Option.some.injEq] at h1
    rw [h1]
    exact cntL_nonneg k l (fun x hx => (h x hx).2)
  · have hk : k < 12 := by have := (List.getElem?_eq_some_iff.1 hx).1; rwa [pieces_len] at this
    rw [pieces_get l hk] at hx
    apply Classical.byContradiction
    intro hc
    rw [cntL_far (fun x hx => (h x hx).1) (by omega)] at hx
    simp only [Option.some.injEq] at hx
    omega
theorem slip_lines {f : Floor} (hv : validB f = true) {k : Nat} {s : SSlip} (hs : f.slips[k]? = some s) : linesR f.far.length s.lines = true ∧ (∀ x ∈ s.lines, (0 ≤ x.shelf ∧ x.shelf < (f.far.length : Int)) ∧ 1 ≤ x.many ∧ x.many ≤ 20) ∧ 1 ≤ s.lines.length ∧ s.lines.length ≤ 12 := by
  have hl := ((fine hv).slips s (List.mem_of_getElem? hs)).2.2
  obtain ⟨h1, h2, h3⟩ := linesB_ok hl
  have e : linesB f.far.length s.lines = (hasB 1 12 s.lines.length && linesR f.far.length s.lines) := rfl
  rw [e, Bool.and_eq_true] at hl
  refine ⟨hl.2, fun x hx => ?_, h1, h2⟩
  obtain ⟨i, hi, rfl⟩ := List.mem_iff_getElem.1 hx
  obtain ⟨g1, g2, g3, g4⟩ := h3 i _ (List.getElem?_eq_getElem hi)
  exact ⟨⟨g1, g2⟩, g3, g4⟩
theorem steps_same {f : Floor} (hv : validB f = true) {k : Nat} {s : SSlip} (hs : f.slips[k]? = some s) : rstepsF f s = stepsF f s := by
  have hf := fine hv
  obtain ⟨h1, h2, h3, h4⟩ := slip_lines hv hs
  obtain ⟨c, hc⟩ : ∃ c : Nat, f.carry = c := ⟨f.carry.toNat, by have := hf.carry1; omega⟩
  have hc1 : 1 ≤ c := by have := hf.carry1; omega
  have hon := pieces_on hf.far12 (fun x hx => ⟨(h2 x hx).1, by have := (h2 x hx).2.1; omega⟩)
  have hsum : 0 ≤ (piecesF s.lines).sum := sum_nonneg _ hon.pos
  rw [stepsF, loadsOf, hc, Int.toNat_natCast, loads_sum hv hc1 _ _ hon (by omega)]
  rw [rstepsF, state_fold, hc]
  have e1 := fold_st hc1 (distF f s.lines) 0 0
  rw [List.drop_zero, Int.zero_add] at e1
  rw [show ((0 : Int), (0 : Int)) = (0, ((0 : Nat) : Int)) from rfl, e1, PM.st_sum hc1 500 _ _ (Nat.le_refl _) (dist_sorted f _ (far_sorted hv h1)) (fun d hd => by
    obtain ⟨x, hx, rfl⟩ := dist_mem f _ d hd
    exact fk_range hv x.shelf.toNat)]
  refine congrArg (fun x : Int => 2 * x) (PM.sumH_congr _ fun i _ _ => ?_)
  have e2 := cnt_dist f (i : Int) s.lines (fun x hx => by have := (h2 x hx).2.1; omega)
  have e3 := maskS_addL (g := farB f (i : Int)) s.lines (List.replicate 12 0) (fun x hx => by have := (h2 x hx).1; have := hf.far12; rw [List.length_replicate]; omega)
  rw [maskS_zero, Int.zero_add, ← pieces_addL, ← e2] at e3
  rw [e3, Int.toNat_natCast]
theorem takes_same {f : Floor} (hv : validB f = true) {k : Nat} {s : SSlip} (hs : f.slips[k]? = some s) : rtakesF f s = takesF f s := by
  have key : ∀ m : Nat, m ≤ s.lines.length → rtakesK f s.lines (rstepsF f s * f.slo, rstepsF f s * f.shi) m = (secsKLo f s.lines (stepsF f s) m, secsKHi f s.lines (stepsF f s) m) := by
    intro m
    induction m with
    | zero =>
      intro _
      rw [steps_same hv hs]
      rfl
    | succ m ih =>
      intro hm
      obtain ⟨x, hx⟩ : ∃ x, s.lines[m]? = some x := ⟨_, List.getElem?_eq_getElem (by omega)⟩
      rw [rtakesK_succ hx, ih (by omega), addP, secsKLo, secsKHi, hx]
      rfl
  have e : rtakesF f s = rtakesK f s.lines (rstepsF f s * f.slo, rstepsF f s * f.shi) s.lines.length := by rw [rtakesK, List.take_length, rtakesF]
  rw [e, key _ (Nat.le_refl _)]
  rfl
end Go.Proofs.YtomgnpfpaodpiaaDoor

