/- Contract of Ahead. -/
import Derived.Test.YtomgnpfpaodpiaaDoorJ16
import Derived.Test.YtomgnpfpaodpiaaDoorJ12
import Derived.Test.YtomgnpfpaodpiaaDoorJ05
import Derived.Test.YtomgnpfpaodpiaaDoorJ02
import Derived.Test.YtomgnpfpaodpiaaDoorJ14
import Derived.Deep.CutRange
import Derived.Laws.AppendOwnNone
import Derived.Test.YtomgnpfpaodpiaaDoorJ18
import Derived.Test.YtomgnpfpaodpiaaDoorJ17
import Derived.Test.YtomgnpfpaodpiaaDoorJ08
import Derived.Test.YtomgnpfpaodpiaaDoorJ11
import Derived.Test.YtomgnpfpaodpiaaDoorJ13
set_option linter.unusedVariables false
set_option linter.unusedSimpArgs false
namespace Go.Proofs.YtomgnpfpaodpiaaDoor
open Go Go.RowKit
set_option maxHeartbeats 4000000
theorem ahead_drop : ∀ (k : Nat) {a b : List Int} {x y : Int}, a[k]? = some x → b[k]? = some y → PM.aheadB (a.drop k) (b.drop k) = if x = y then PM.aheadB (a.drop (k + 1)) (b.drop (k + 1)) else decide (x < y) := fun k a b x y hx hy => by
  obtain ⟨h1, rfl⟩ := List.getElem?_eq_some_iff.1 hx
  obtain ⟨h2, rfl⟩ := List.getElem?_eq_some_iff.1 hy
  rw [List.drop_eq_getElem_cons h1, List.drop_eq_getElem_cons h2, PM.aheadB]
theorem ahead_end {a b : List Int} {k : Nat} (ha : k ≤ a.length) (hb : k ≤ b.length) (h : k = a.length ∨ k = b.length) : PM.aheadB (a.drop k) (b.drop k) = decide (a.length < b.length) := by
  by_cases h1 : k = a.length
  · subst h1
    rw [List.drop_length]
    by_cases h2 : a.length = b.length
    · rw [h2, List.drop_length]
      simp [PM.aheadB]
    · rw [List.drop_eq_getElem_cons (by omega)]
      simp [PM.aheadB]
      omega
  · obtain rfl : k = b.length := by omega
    rw [List.drop_length, List.drop_eq_getElem_cons (by omega)]
    simp [PM.aheadB]
    omega
set_option maxRecDepth 100000 in
theorem ahead_any (A B : Option Addr) (ca cb : Nat) (a b : List Int) (w : World) (ha : IntsAt w w.heap.size A a.length a) (hb : IntsAt w w.heap.size B b.length b) :
    Calls Tryd.prog 45 #[.slice A a.length ca, .slice B b.length cb] w fun e w' => e = .returned (.bool (PM.aheadB a b)) ∧ Below w.heap.size w w' := by
  have hal := ha.lens
  have hbl := hb.lens
  have HA := Lib.hid ha
  have HB := Lib.hid hb
  have HS : Hid (∀ (k : Nat) (x y : Int), a[k]? = some x → b[k]? = some y → PM.aheadB (a.drop k) (b.drop k) = if x = y then PM.aheadB (a.drop (k + 1)) (b.drop (k + 1)) else decide (x < y)) := fun k x y hx hy => ahead_drop k hx hy
  have HE : Hid (∀ k : Nat, k ≤ a.length → k ≤ b.length → (k = a.length ∨ k = b.length) → PM.aheadB (a.drop k) (b.drop k) = decide (a.length < b.length)) := fun k h1 h2 h3 => ahead_end h1 h2 h3
  obtain ⟨G, hG⟩ : ∃ G, G = fun k => PM.aheadB (a.drop k) (b.drop k) := ⟨_, rfl⟩
  have eG : ∀ k, PM.aheadB (a.drop k) (b.drop k) = G k := fun k => by rw [hG]
  have H0 : PM.aheadB a b = G 0 := by rw [hG]; rfl
  simp only [eG] at HS HE
  obtain ⟨an, han⟩ : ∃ an, an = PM.aheadB a b := ⟨_, rfl⟩
  rw [← han] at H0 ⊢
  have HAN := Lib.hid H0
  clear hG eG han H0 ha hb
  go_enter Tryd.func45, Tryd.ntmps45
  go_wp2_with fail
  go_loopw [5] (fun i wr => ∃ k : Nat, k ≤ a.length ∧ k ≤ b.length ∧ i = .int .i64 k ∧ Hid (an = G k) ∧ Below w.heap.size w wr) (fun i _ => a.length - (intOf i).toNat)
  case atStart => exact ⟨0, Nat.zero_le _, Nat.zero_le _, rfl, HAN, Below.refl _ _⟩
  obtain ⟨k, hk1, hk2, rfl, HK, hB⟩ := hrel
  by_cases hlt : k < a.length ∧ k < b.length
  · obtain ⟨hlt1, hlt2⟩ := hlt
    obtain ⟨x, hx⟩ : ∃ x, a[k]? = some x := ⟨_, List.getElem?_eq_getElem hlt1⟩
    obtain ⟨y, hy⟩ : ∃ y, b[k]? = some y := ⟨_, List.getElem?_eq_getElem hlt2⟩
    obtain ⟨bb, off, rfl, hbb, x0⟩ := ints_at (HA.out.to hB) hx
    obtain ⟨bc, oc, rfl, hbc, y0⟩ := ints_at (HB.out.to hB) hy
    have HSK := Lib.hid (HS.out k x y hx hy)
    have hd1 : decide ((k : Int) < a.length) = true := by simp; omega
    have hd2 : decide ((k : Int) < b.length) = true := by simp; omega
    have hkI : (k : Int) < a.length := by omega
    have hkJ : (k : Int) < b.length := by omega
    have h0k : (0 : Int) ≤ k := by omega
    have zbb : bb < wr.heap.size := hbb
    have zbc : bc < wr.heap.size := hbc
    clear hx hy
    rcases hne : (x != y) with _ | _
    · have NEXT : Hid (an = G (k + 1)) := by
        have : x = y := by simpa using hne
        unfold Hid
        rw [HK.out, HSK.out, if_pos this]
      clear HK HSK
      go_wp2_with fail
      go_quiet (fail)
      go_wp2_with fail
      go_roundw
      case rel => exact ⟨k + 1, by omega, by omega, by go_num, NEXT, below_drewN hB _⟩
      case measure => simp [intOf]; omega
    · have E : Hid (an = decide (x < y)) := by
        have : x ≠ y := by simpa using hne
        unfold Hid
        rw [HK.out, HSK.out, if_neg this]
      clear HK HSK
      go_wp2_with fail
      go_quiet (fail)
      go_wp2_with fail
      go_quiet (fail)
      go_wp2_with fail
      go_ret
      exact ⟨retB E.out.symm, below_drewN (below_drewN hB _) _⟩
  · have E : Hid (an = decide (a.length < b.length)) := by
      unfold Hid
      rw [HK.out]
      exact HE.out k hk1 hk2 (by omega)
    obtain ⟨p, hp⟩ : ∃ p, p = decide ((k : Int) < a.length) := ⟨_, rfl⟩
    rcases p with _ | _
    · have hd1 : decide ((k : Int) < a.length) = false := hp.symm
      have hd3 : decide (k < a.length) = false := by simp at hp ⊢; omega
      clear hp hlt
      go_wp2_with fail
      go_ret
      exact ⟨retB (by rw [E.out]), hB⟩
    · have hd1 : decide ((k : Int) < a.length) = true := hp.symm
      have hd3 : decide (k < a.length) = true := by simp at hp ⊢; omega
      have hd4 : decide (k < b.length) = false := by simp at hp ⊢; omega
      have hd2 : decide ((k : Int) < b.length) = false := by simp at hp ⊢; omega
      clear hp hlt
      go_wp2_with fail
      go_ret
      exact ⟨retB (by rw [E.out]), hB⟩
end Go.Proofs.YtomgnpfpaodpiaaDoor

/- Contract of the specification's With: a list of numbers, and one more behind it. -/
namespace Go.Proofs.YtomgnpfpaodpiaaDoor
open Go Go.RowKit
set_option maxHeartbeats 4000000
theorem flat_ints (l : List Int) : (l.map intC).flatten.length = l.length * 1 := by rw [flat_len _ (intC_one _)]; simp
theorem ints_cells {w : World} {b off : Nat} {l : List Int} {B cap : Nat} (h : IntsAt w B (some ⟨b, off, none⟩) cap l) (h0 : 0 < l.length) : ∀ j u, (l.map intC).flatten[j]? = some u → w.cell? ((⟨b, off, none⟩ : Addr).add j) = some u := row_cells h.row (intC_one _) (by omega) (by simp; omega)
theorem ints_one {l : List Int} : ∀ u ∈ (l.map intC).flatten, u.oneCell' = true := fun u hu => by
  simp only [List.mem_flatten, List.mem_map] at hu
  obtain ⟨r, ⟨s, _, rfl⟩, hu⟩ := hu
  simp only [intC, List.mem_cons, List.mem_nil_iff, or_false] at hu
  subst hu
  rfl
set_option maxRecDepth 100000 in
theorem rwith_any (A : Option Addr) (cap : Nat) (l : List Int) (n : Int) (w : World) (h : IntsAt w w.heap.size A cap l) (hnil : l = [] → A = none ∧ cap = 0) (hl : l.length ≤ 4398046511104) :
    Calls Tryd.prog 82 #[.slice A l.length cap, vi n] w fun e w' => ∃ g c, e = .returned (.slice (some ⟨g, 0, none⟩) (l.length + 1) c) ∧ w'.ownsRow w.heap.size 3 1 (.slice (some ⟨g, 0, none⟩) (l.length + 1) c) (l.length + 1) (((l ++ [n]).map intC).flatten) ∧ Below w.heap.size w w' := by
  obtain ⟨i0, hi, hy0, hy1, hy2⟩ := info_parts info_int
  have HFL := Lib.hid (flat_ints l)
  have hlen := h.lens
  have H := Lib.hid h
  clear h
  by_cases h0 : l.length = 0
  · obtain rfl : l = [] := List.length_eq_zero_iff.1 h0
    obtain ⟨rfl, rfl⟩ := hnil rfl
    clear H HFL hlen
    show Calls Tryd.prog 82 #[.slice none 0 0, vi n] w _
    go_enter Tryd.func82, Tryd.ntmps82
    have OWN0 := own_empty w 3 1
    have hb5 := below1 w (.cells #[] 3)
    have hs5 : w.heap.size ≤ (w.alloc (.cells #[] 3)).heap.size := by simp
    go_wp2_with (at_builtin; go_loud (first | (refine wpList_append_own_none rfl _ _ 22 rfl w.heap.size 3 i0 1 Tryd.underlying22 hi (.slice (some ⟨w.heap.size, 0, none⟩) 0 0) 0 [] rfl OWN0 rfl ?_) | (have OWN := own_keep OWN0 (below1 (w.alloc (.cells #[] 3)) (.cells #[vi n] 3)); have CN := cells_new (w.alloc (.cells #[] 3)) [vi n] 3; rw [World.size_alloc] at CN; have O1 : ∀ u ∈ [vi n], u.oneCell' = true := (fun u hu => by simp at hu; subst hu; rfl); have hsz : w.heap.size ≤ ((w.alloc (.cells #[] 3)).alloc (.cells #[vi n] 3)).heap.size := (by simp; omega); refine wpList_append_own ((w.alloc (.cells #[] 3)).alloc (.cells #[vi n] 3)) rfl _ _ 22 rfl w.heap.size 3 i0 (.int .i64 0) 1 8 Tryd.underlying22 hi hy0 hy1 hy2 rfl (by decide) (.slice (some ⟨w.heap.size, 0, none⟩) 0 0) 0 [] rfl OWN ⟨w.heap.size + 1, 0, none⟩ 1 1 [vi n] rfl rfl CN O1 (by unfold maxLen; omega) (by omega) hsz ?_; intro v6 w6 hown6 hgrow6 _; have hlt6 := (fun j e => (OWN.lt j e).1); have HB6 : Below w.heap.size w w6 := Below.grown (hb5.alloc hs5 (.cells #[vi n] 3)) hgrow6 hsz (fun j e => hlt6 j e); clear CN O1 hsz hlt6; obtain ⟨g, c, cur, rfl, k1, k2, k3, k4, k5, k6⟩ := own_some hown6 (by omega))))
    go_ret
    exact ⟨g, c, rfl, by simpa using hown6, HB6⟩
  · obtain ⟨b, off, rfl, hb, -⟩ := H.out.row (by simp; omega)
    have HC := Lib.hid (ints_cells H.out (by omega))
    show Calls Tryd.prog 82 #[.slice (some ⟨b, off, none⟩) l.length cap, vi n] w _
    go_enter Tryd.func82, Tryd.ntmps82
    go_wp2_with (at_builtin; go_loud (first | (refine wpList_append_own _ rfl _ _ 22 rfl w.heap.size 3 i0 (.int .i64 0) 1 8 Tryd.underlying22 hi hy0 hy1 hy2 rfl (by decide) _ _ _ rfl (own_empty w _ _) ⟨b, off, none⟩ l.length cap (l.map intC).flatten rfl HFL.out (fun j u hj => cell_alloc (HC.out j u hj) _) ints_one (by unfold maxLen; omega) (by omega) (by simp) ?_; intro v5 w5 hown5 hgrow5 _; have HB5 : Below w.heap.size w w5 := Below.grown ((Below.refl w.heap.size w).alloc (Nat.le_refl _) _) hgrow5 (by simp) (fun k e => by (have e2 : some w.heap.size = some k := e; cases e2; exact Nat.le_refl _)); rw [Nat.zero_add, List.nil_append] at hown5; have hs5 := HB5.size; obtain ⟨A5, c5, rfl, -, -⟩ := own_form hown5) | (have OWN := own_keep hown5 (below1 w5 (.cells #[vi n] 3)); have CN := cells_new w5 [vi n] 3; have O1 : ∀ u ∈ [vi n], u.oneCell' = true := (fun u hu => by simp at hu; subst hu; rfl); have hsz : w.heap.size ≤ (w5.alloc (.cells #[vi n] 3)).heap.size := (by simp; omega); refine wpList_append_own (w5.alloc (.cells #[vi n] 3)) rfl _ _ 22 rfl w.heap.size 3 i0 (.int .i64 0) 1 8 Tryd.underlying22 hi hy0 hy1 hy2 rfl (by decide) (.slice A5 l.length c5) l.length ((l.map intC).flatten) rfl OWN ⟨w5.heap.size, 0, none⟩ 1 1 [vi n] rfl rfl CN O1 (by unfold maxLen; omega) (by omega) hsz ?_; intro v6 w6 hown6 hgrow6 _; have hlt6 := (fun j e => (OWN.lt j e).1); have HB6 : Below w.heap.size w w6 := Below.grown (HB5.alloc hs5 (.cells #[vi n] 3)) hgrow6 hsz (fun j e => hlt6 j e); clear CN O1 hsz hlt6; obtain ⟨g, c, cur, rfl, k1, k2, k3, k4, k5, k6⟩ := own_some hown6 (by omega))))
    go_ret
    exact ⟨g, c, rfl, by rw [List.map_append, List.flatten_append]; exact hown6, HB6⟩
end Go.Proofs.YtomgnpfpaodpiaaDoor

/- A roster of any lists: when each slip is done, and which slips must be late. Plain mathematics. -/
namespace Go.Proofs.YtomgnpfpaodpiaaDoor
open Go Go.RowKit
set_option maxHeartbeats 2000000
/-- lists of slips, some of them late: the others go together -/
theorem PM.inT_keep {sec till : Nat → Int} (hs : ∀ s, 0 ≤ sec s) (keep : Nat → Bool) : ∀ (r : List Nat) (t t' : Int), t' ≤ t → (∀ a s b, r = a ++ s :: b → keep s = true → t + ((a ++ [s]).map sec).sum ≤ till s) → PM.inT sec till t' (r.filter keep)
  | [], _, _, _, _ => trivial
  | x :: r, t, t', ht, h => by
    have h0 := hs x
    have hr : ∀ a s b, r = a ++ s :: b → keep s = true → (t + sec x) + ((a ++ [s]).map sec).sum ≤ till s := fun a s b e k => by
      have := h (x :: a) s b (by rw [e]; rfl) k
      rw [List.cons_append, List.map_cons, List.sum_cons] at this
      omega
    cases hk : keep x with
    | true =>
      rw [List.filter_cons_of_pos hk]
      have h1 := h [] x r rfl hk
      simp only [List.nil_append, List.map_cons, List.map_nil, List.sum_cons, List.sum_nil] at h1
      exact ⟨by omega, PM.inT_keep hs keep r (t + sec x) (t' + sec x) (by omega) hr⟩
    | false =>
      rw [List.filter_cons_of_neg (by simp [hk])]
      exact PM.inT_keep hs keep r (t + sec x) t' (by omega) hr
theorem PM.fit_of {sec till : Nat → Int} (keep : Nat → Bool) : ∀ (rows : List (List Nat)) (m : Nat), rows.flatten.Nodup → (∀ s, m.testBit s = true ↔ s ∈ rows.flatten ∧ keep s = true) → (∀ r ∈ rows, PM.inT sec till 0 (r.filter keep)) → PM.Fit sec till rows.length m
  | [], m, _, hm, _ => by
    show m = 0
    apply Nat.eq_of_testBit_eq
    intro i
    rw [Nat.zero_testBit]
    cases hb : m.testBit i with
    | false => rfl
    | true => have := ((hm i).1 hb).1; simp at this
  | r :: rows, m, hn, hm, hi => by
    rw [List.flatten_cons, List.nodup_append] at hn
    obtain ⟨n1, n2, n3⟩ := hn
    refine ⟨r.filter keep, n1.sublist List.filter_sublist, fun s hs => ?_, hi r (by simp), PM.fit_of keep rows _ n2 (fun s => ?_) fun x hx => hi x (by simp [hx])⟩
    · rw [List.mem_filter] at hs
      exact (hm s).2 ⟨by rw [List.flatten_cons, List.mem_append]; exact .inl hs.1, hs.2⟩
    · rw [PM.less_bit, Bool.and_eq_true, hm, PM.setF_bit, List.flatten_cons, List.mem_append, Bool.not_eq_true', decide_eq_false_iff_not, List.mem_filter]
      constructor
      · rintro ⟨⟨h1 | h1, h2⟩, h3⟩
        · exact absurd ⟨h1, h2⟩ h3
        · exact ⟨h1, h2⟩
      · rintro ⟨h1, h2⟩
        exact ⟨⟨.inr h1, h2⟩, fun h3 => n3 s h3.1 s h1 rfl⟩
/-- what each round of a walk over any roster finds -/
theorem any_round {f : Floor} {rows : List (List Nat)} (k2 : rows.flatten.Nodup) (k3 : ∀ s, s ∈ rows.flatten ↔ s < f.slips.length) {ts : List SRow} (h : ts.map SRow.slips = rows.map natsC) {i : Nat} {t : SRow} (hi : ts[i]? = some t) {c : Nat} {n : Int} (hc : t.slips[c]? = some n) :
    ∃ (s : Nat) (x : SSlip) (d : Int × Int), n = s ∧ s < f.slips.length ∧ f.slips[s]? = some x ∧ (doneF f (ts.map SRow.slips))[s]? = some d ∧ d = addS (sumT (tkF f) (0, 0) (t.slips.take c)) (takesF f x) ∧ sumT (tkF f) (0, 0) (t.slips.take (c + 1)) = d := by
  have e1 : (ts.map SRow.slips)[i]? = some t.slips := by rw [List.getElem?_map, hi]; rfl
  have e2 := e1
  rw [h, List.getElem?_map] at e2
  obtain ⟨row, hrow, hrt⟩ := Option.map_eq_some_iff.1 e2
  have e3 := hc
  rw [← hrt] at e3
  unfold natsC at e3
  rw [List.getElem?_map] at e3
  obtain ⟨s, hs, hsn⟩ := Option.map_eq_some_iff.1 e3
  have hsr : s ∈ rows.flatten := List.mem_flatten.2 ⟨row, List.mem_of_getElem? hrow, List.mem_of_getElem? hs⟩
  have hsl : s < f.slips.length := (k3 s).1 hsr
  obtain ⟨x, hx⟩ : ∃ x, f.slips[s]? = some x := ⟨_, List.getElem?_eq_getElem hsl⟩
  obtain ⟨hil, hie⟩ := List.getElem?_eq_some_iff.1 hrow
  obtain ⟨hcl, hce⟩ := List.getElem?_eq_some_iff.1 hs
  have er : row = row.take c ++ s :: row.drop (c + 1) := by
    conv => lhs; rw [← List.take_append_drop c row, List.drop_eq_getElem_cons hcl, hce]
  have eA : rows = rows.take i ++ (row.take c ++ s :: row.drop (c + 1)) :: rows.drop (i + 1) := by
    rw [← er]
    conv => lhs; rw [← List.take_append_drop i rows, List.drop_eq_getElem_cons hil, hie]
  have hd := done_nats k2 eA hsl
  rw [← h] at hd
  have et : natsC (row.take c ++ [s]) = t.slips.take (c + 1) := by rw [← take_snoc hs, ← natsC_take, hrt]
  rw [et] at hd
  have hsum : sumT (tkF f) (0, 0) (t.slips.take (c + 1)) = addS (sumT (tkF f) (0, 0) (t.slips.take c)) (takesF f x) := by
    rw [take_snoc hc, sumT_snoc, ← hsn]
    congr 1
    unfold tkF
    simp [hx]
  exact ⟨s, x, _, hsn.symm, hsl, hx, hd, hsum, rfl⟩
/-- is a slip late in what is told -/
def overB (f : Floor) (D : List (Int × Int)) (s : Nat) : Bool := decide (dueF f s < ((D[s]?).getD (0, 0)).2)
/-- the first slips that are late in what is told -/
def notF (f : Floor) (D : List (Int × Int)) (k : Nat) : List Int := natsC ((List.range k).filter (overB f D))
theorem not_succ (f : Floor) (D : List (Int × Int)) (k : Nat) : notF f D (k + 1) = notF f D k ++ (if overB f D k then [(k : Int)] else []) := by
  unfold notF natsC
  rw [List.range_succ, List.filter_append, List.map_append]
  congr 1
  cases h : overB f D k <;> simp [h]
theorem not_len (f : Floor) (D : List (Int × Int)) (k : Nat) : (notF f D k).length ≤ k := by
  unfold notF natsC
  rw [List.length_map]
  exact Nat.le_trans (List.length_filter_le _ _) (by simp)
/-- without those that are late the others are in time -/
theorem not_can {f : Floor} (hv : validB f = true) {rows : List (List Nat)} (k2 : rows.flatten.Nodup) (k3 : ∀ s, s ∈ rows.flatten ↔ s < f.slips.length) : canLess f rows.length (notF f (doneF f (rows.map natsC)) f.slips.length) = true := by
  obtain ⟨D, hD⟩ : ∃ D, D = doneF f (rows.map natsC) := ⟨_, rfl⟩
  rw [← hD]
  have eS : (notF f D f.slips.length).map Int.toNat = (List.range f.slips.length).filter (overB f D) := by
    unfold notF natsC
    rw [List.map_map]
    have : (Int.toNat ∘ fun s : Nat => (s : Int)) = id := funext fun s => by simp
    rw [this, List.map_id]
  have hbit : ∀ s, (lessF (allF f) (setF ((notF f D f.slips.length).map Int.toNat))).testBit s = true ↔ s ∈ rows.flatten ∧ (!(overB f D s)) = true := fun s => by
    rw [eS, PM.less_bit, PM.setF_bit, all_bit, k3, Bool.and_eq_true, decide_eq_true_eq]
    constructor
    · rintro ⟨h1, h2⟩
      refine ⟨h1, ?_⟩
      cases ho : overB f D s with
      | false => rfl
      | true => simp [h1, ho] at h2
    · rintro ⟨h1, h2⟩
      refine ⟨h1, ?_⟩
      have : overB f D s = false := by simpa using h2
      simp [this]
  unfold canLess
  rw [can_fit hv _ _ (fun i hi => (k3 i).1 ((hbit i).1 hi).1)]
  refine PM.fit_of (fun s => !(overB f D s)) rows _ k2 hbit fun r hr => PM.inT_keep (sec_nonneg hv) _ r 0 0 (Int.le_refl _) fun a s b e hk => ?_
  obtain ⟨A, B, eA⟩ := List.append_of_mem hr
  rw [e] at eA
  have hs : s < f.slips.length := (k3 s).1 (by rw [eA]; simp)
  have hd := done_nats k2 eA hs
  rw [← hD] at hd
  have hk2 : overB f D s = false := by simpa using hk
  unfold overB at hk2
  rw [hd, Option.getD_some, sum_snd, decide_eq_false_iff_not] at hk2
  simp only [Int.zero_add] at hk2 ⊢
  omega
/-- they are no fewer than are told, and not before them -/
theorem not_pref {f : Floor} (hv : validB f = true) {rows : List (List Nat)} (k2 : rows.flatten.Nodup) (k3 : ∀ s, s ∈ rows.flatten ↔ s < f.slips.length) :
    (lateF f rows.length).length ≤ (notF f (doneF f (rows.map natsC)) f.slips.length).length ∧ ((lateF f rows.length).length = (notF f (doneF f (rows.map natsC)) f.slips.length).length → PM.aheadB (notF f (doneF f (rows.map natsC)) f.slips.length) (lateF f rows.length) = false) := by
  have hsub : (notF f (doneF f (rows.map natsC)) f.slips.length).Sublist (slipsF f) := by
    unfold notF natsC slipsF
    exact List.filter_sublist.map _
  have h := (late_top (f := f) rows.length).first _ hsub (not_can hv k2 k3)
  have hp : ¬ PM.prefB (notF f (doneF f (rows.map natsC)) f.slips.length) (lateF f rows.length) = true := by rw [h]; simp
  rw [PM.pref_iff] at hp
  constructor
  · apply Classical.byContradiction
    intro hn
    exact hp (.inl (by omega))
  · intro he
    cases hb : PM.aheadB (notF f (doneF f (rows.map natsC)) f.slips.length) (lateF f rows.length) with
    | false => rfl
    | true => exact absurd (.inr ⟨he.symm, hb⟩) hp
/-- if none is late no more pickers are needed -/
theorem not_none {f : Floor} (hv : validB f = true) {rows : List (List Nat)} (k2 : rows.flatten.Nodup) (k3 : ∀ s, s ∈ rows.flatten ↔ s < f.slips.length) (h1 : 1 ≤ rows.length) (h5 : rows.length ≤ 5) (h0 : (notF f (doneF f (rows.map natsC)) f.slips.length).length = 0) : ∃ q, fewF f = some q ∧ q ≤ rows.length := by
  refine (late_few f hv h1 h5).1 ?_
  have := (not_pref hv k2 k3).1
  omega
/-- a slip more on one of the lists -/
theorem flat_set {rows : List (List Nat)} {k i : Nat} {r r' : List Nat} (hk : rows[k]? = some r) (hr : r'.Perm (i :: r)) (hp : rows.flatten.Perm (List.range i)) : (rows.set k r').flatten.Perm (List.range (i + 1)) := by
  have h1 : (rows.set k r').flatten.Perm (i :: rows.flatten) := by
    obtain ⟨hkl, hke⟩ := List.getElem?_eq_some_iff.1 hk
    have e1 : rows = rows.take k ++ r :: rows.drop (k + 1) := by
      conv => lhs; rw [← List.take_append_drop k rows, List.drop_eq_getElem_cons hkl, hke]
    have e2 : rows.set k r' = rows.take k ++ r' :: rows.drop (k + 1) := List.set_eq_take_append_cons_drop ▸ (by rw [if_pos hkl])
    rw [e2]
    conv => rhs; rw [e1]
    rw [List.flatten_append, List.flatten_append, List.flatten_cons, List.flatten_cons]
    refine ((hr.append_right _).append_left _).trans ?_
    rw [List.cons_append]
    exact List.perm_middle
  refine h1.trans ?_
  rw [List.range_succ]
  exact (hp.cons i).trans (List.perm_append_singleton i _).symm
end Go.Proofs.YtomgnpfpaodpiaaDoor

/- Contract of the law's given: a roster as numbers choose it. -/
namespace Go.Proofs.YtomgnpfpaodpiaaDoor
open Go Go.RowKit
set_option maxHeartbeats 8000000
theorem mkRows (n : Nat) (hn : n ≤ 1000) (w : World) : (Instr.makeSlice 43 (.int .i64 n) (.int .i64 n)).run Tryd.prog w = .ok (.slice (some ⟨w.heap.size, 0, none⟩) n n) (w.alloc (.cells (Array.replicate n (.slice none 0 0)) 22)) := by
  obtain ⟨i0, hi, hy0, hy1, hy2⟩ := info_parts info_ints
  have := run_make (P := Tryd.prog) w 43 22 i0 _ Tryd.underlying43 hi hy0 .i64 .i64 n n (by omega) (by omega) (by rw [hy2]; omega) (by omega)
  rw [this, hy1, Int.toNat_natCast, Nat.mul_one, madeCells_rep _ (.slice none 0 0)]
  · simp
  · intro i hi
    have : i = 0 := by simp [Value.cells] at hi; omega
    subst this; rfl
  · simp [Value.cells]
theorem own_one (w : World) (x : Value) {base : Nat} (hb : base ≤ w.heap.size) : (w.alloc (.cells #[x] 3)).ownsRow base 3 1 (.slice (some ⟨w.heap.size, 0, none⟩) 1 1) 1 [x] :=
  ⟨rfl, .inr ⟨w.heap.size, 1, #[x], rfl, hb, heap_alloc_new w _, Nat.le_refl _, by decide, rfl, rfl⟩⟩
/-- a roster that grows -/
structure GivI (f : Floor) (n b0 i : Nat) (w : World) (ts : List SRow) (rows : List (List Nat)) (X : World) : Prop where
  below : Below w.heap.size w X
  low : w.heap.size < b0
  fx : CellsBox X w.heap.size 28 f.cells
  box : CellsBox X b0 22 (ts.map SRow.slice)
  many : ts.length = n
  each : ∀ t ∈ ts, IntsAt X X.heap.size t.ad t.cap t.slips ∧ FreeI t b0 ∧ (t.slips = [] → t.ad = none ∧ t.cap = 0)
  lists : ts.map SRow.slips = rows.map natsC
  perm : rows.flatten.Perm (List.range i)
theorem GivI.keep {f : Floor} {n b0 i : Nat} {w X Y : World} {ts : List SRow} {rows : List (List Nat)} (h : GivI f n b0 i w ts rows X) (hb : Below X.heap.size X Y) : GivI f n b0 i w ts rows Y :=
  ⟨h.below.trans (hb.mono h.below.size), h.low, h.fx.keep hb, h.box.keep hb, h.many, fun t ht => ⟨(h.each t ht).1.to hb, (h.each t ht).2⟩, h.lists, h.perm⟩
theorem GivI.rowLen {f : Floor} {n b0 i : Nat} {w X : World} {ts : List SRow} {rows : List (List Nat)} (h : GivI f n b0 i w ts rows X) {t : SRow} (ht : t ∈ ts) : t.slips.length ≤ i := by
  have h1 : t.slips ∈ ts.map SRow.slips := List.mem_map.2 ⟨t, ht, rfl⟩
  rw [h.lists] at h1
  obtain ⟨r, hr, e⟩ := List.mem_map.1 h1
  have h2 : r.length ≤ rows.flatten.length := by
    obtain ⟨A, B, rfl⟩ := List.append_of_mem hr
    simp
    omega
  rw [h.perm.length_eq, List.length_range] at h2
  rw [← e]
  unfold natsC
  rwa [List.length_map]
theorem ints_own {w : World} {base g c m : Nat} {l : List Int} (h : w.ownsRow base 3 1 (.slice (some ⟨g, 0, none⟩) m c) m ((l.map intC).flatten)) (hm : m = l.length) (hf : l.length ≤ 35184372088832) (h0 : 0 < m) : IntsAt w w.heap.size (some ⟨g, 0, none⟩) c l ∧ base ≤ g := by
  subst hm
  obtain ⟨g', c', cur, e, h1, _, h3, h4, _⟩ := own_some h h0
  cases e
  refine ⟨⟨by rw [List.length_map]; exact h3, by have := h4; unfold maxLen at this; omega, by rw [List.length_map]; exact hf, row_of_own (fun r hr => ?_) h⟩, h1⟩
  obtain ⟨x, _, rfl⟩ := List.mem_map.1 hr
  rfl
theorem GivI.step {f : Floor} {n b0 i k m : Nat} {w X Y : World} {ts : List SRow} {rows : List (List Nat)} (h : GivI f n b0 i w ts rows X) (hb : Below X.heap.size X Y) {t : SRow} (ht : ts[k]? = some t) {g c : Nat} {l : List Int} (hg : X.heap.size ≤ g)
    (hr : IntsAt Y Y.heap.size (some ⟨g, 0, none⟩) c l) (hm : m = l.length) (hl : l = (i : Int) :: t.slips ∨ l = t.slips ++ [(i : Int)]) :
    ∃ ts' rows', GivI f n b0 (i + 1) w ts' rows' (Y.setCell ⟨b0, k, none⟩ (.slice (some ⟨g, 0, none⟩) m c)) := by
  subst hm
  have hy := h.keep hb
  have hlt := h.box.lt
  obtain ⟨row, hrow, hrt⟩ : ∃ row, rows[k]? = some row ∧ natsC row = t.slips := by
    have e : (ts.map SRow.slips)[k]? = some t.slips := by rw [List.getElem?_map, ht]; rfl
    rw [h.lists, List.getElem?_map] at e
    exact Option.map_eq_some_iff.1 e
  obtain ⟨r', hr1, hr2⟩ : ∃ r', natsC r' = l ∧ r'.Perm (i :: row) := by
    rcases hl with rfl | rfl
    · exact ⟨i :: row, by rw [← hrt]; rfl, List.Perm.refl _⟩
    · exact ⟨row ++ [i], by rw [← hrt]; unfold natsC; rw [List.map_append]; rfl, List.perm_append_singleton i row⟩
  have hl0 : l ≠ [] := by rcases hl with rfl | rfl <;> simp
  have far : ∀ q : Addr, q.block < Y.heap.size → q.block ≠ b0 → (Y.setCell ⟨b0, k, none⟩ (.slice (some ⟨g, 0, none⟩) l.length c)).cell? q = Y.cell? q := fun q _ hne => by
    rw [World.cell?_of_block (heap_setCell_other _ _ q.block _ hne)]
  refine ⟨ts.set k ⟨some ⟨g, 0, none⟩, c, l⟩, rows.set k r', ⟨hy.below.setCell (Nat.le_of_lt h.low) _, h.low, hy.fx.apart _ _ (by have := h.low; simp only; omega), ?_, by rw [List.length_set]; exact h.many, fun s hs => ?_, ?_, flat_set hrow hr2 h.perm⟩⟩
  · rw [List.map_set]
    exact hy.box.store k (.slice (some ⟨g, 0, none⟩) l.length c)
  · rw [show (Y.setCell ⟨b0, k, none⟩ (.slice (some ⟨g, 0, none⟩) l.length c)).heap.size = Y.heap.size by simp]
    rcases List.mem_or_eq_of_mem_set hs with hs | rfl
    · obtain ⟨e1, e2, e3⟩ := hy.each s hs
      exact ⟨ints_apart e1 e2 far, e2, e3⟩
    · have hf : FreeI (⟨some ⟨g, 0, none⟩, c, l⟩ : SRow) b0 := fun _ b hb => by
        obtain rfl := Option.some.inj hb
        simp only
        omega
      exact ⟨ints_apart hr hf far, hf, fun e => absurd e hl0⟩
  · rw [List.map_set, List.map_set, h.lists, hr1]
end Go.Proofs.YtomgnpfpaodpiaaDoor

/- Contract of the law's given: the walk. -/
namespace Go.Proofs.YtomgnpfpaodpiaaDoor
open Go Go.RowKit
set_option maxHeartbeats 8000000
set_option maxRecDepth 100000 in
theorem lgiven_any (f : Floor) (h9 : f.slips.length ≤ 9) (n : Nat) (h1 : 1 ≤ n) (h5 : n ≤ 5) (A : Option Addr) (cap : Nat) (bits : List Int) (hr : ∀ x ∈ bits, -9223372036854775808 ≤ x ∧ x ≤ 9223372036854775807) (w : World) (h : FloorAt w w.heap.size f) (hb : IntsAt w w.heap.size A cap bits) :
    Calls Tryd.prog 42 #[f.val, vi n, .slice A bits.length cap] w fun e w' => ∃ (R : Option Addr) (ts : List SRow) (rows : List (List Nat)), e = .returned (.slice R n n) ∧ ts.length = n ∧ RosterAt w' w'.heap.size R n ts ∧ ts.map SRow.slips = rows.map natsC ∧ rows.flatten.Perm (List.range f.slips.length) ∧ Below w.heap.size w w' := by
  obtain ⟨i0, hi, hy0, hy1, hy2⟩ := info_parts info_int
  have HBT := Lib.hid hb
  have hbl := hb.lens
  have RT := Lib.hid (take_between hr)
  have hsl := h.slips.lens
  have mkR := mkRows n (by omega)
  clear hb hr h
  have X0 := CellsBox.new w 28 f.cells
  have hb0 : Below w.heap.size w (w.alloc (.cells f.cells.toArray 28)) := below1 _ _
  show Calls Tryd.prog 42 #[.agg #[.slice f.fA f.far.length f.fC, vi f.slo, vi f.shi, .slice f.pA f.picks.length f.pC, vi f.carry, .slice f.sA f.slips.length f.sC], vi n, .slice A bits.length cap] w _
  go_enter Tryd.func42, Tryd.ntmps42
  go_upto_region 1 with fail
  refine (?_ : ∀ V : World, w.heap.size + 1 = V.heap.size → CellsBox V w.heap.size 28 f.cells → Below w.heap.size w V → Code.wp _ _ _ _ V) _ (by simp) X0 hb0
  clear X0 hb0
  intro V hsV X0 HB
  go_wp2_with fail
  have hG0 : GivI f n V.heap.size 0 w (List.replicate n ⟨none, 0, []⟩) (List.replicate n []) (V.alloc (.cells (Array.replicate n (.slice none 0 0)) 22)) := by
    refine ⟨HB.alloc HB.size _, by omega, X0.alloc _, ?_, List.length_replicate, fun t ht => ?_, ?_, ?_⟩
    · have := CellsBox.new V 22 ((List.replicate n (⟨none, 0, []⟩ : SRow)).map SRow.slice)
      rw [List.map_replicate] at this ⊢
      simpa [SRow.slice] using this
    · rw [List.mem_replicate] at ht
      obtain ⟨_, rfl⟩ := ht
      exact ⟨⟨by simp, by simp, by simp, fun hl => by simp at hl⟩, fun hl => by simp at hl, fun _ => ⟨rfl, rfl⟩⟩
    · rw [List.map_replicate, List.map_replicate]; rfl
    · have : (List.replicate n ([] : List Nat)).flatten = [] := by
        rw [List.flatten_eq_nil_iff]
        intro l hl
        exact (List.mem_replicate.1 hl).2
      rw [this]
      exact List.Perm.refl _
  have HG0 := Lib.hid hG0
  clear hG0 X0 HB mkR
  obtain ⟨b0, hb0⟩ : ∃ b, b = V.heap.size := ⟨_, rfl⟩
  rw [← hb0] at HG0 ⊢
  obtain ⟨V1, hV1⟩ : ∃ V1, V1 = V.alloc (.cells (Array.replicate n (.slice none 0 0)) 22) := ⟨_, rfl⟩
  rw [← hV1] at HG0 ⊢
  clear hV1 hb0 hsV
  go_loopw [8, 9] (fun a _ wr => ∃ (j : Nat) (ts : List SRow) (rows : List (List Nat)), j ≤ f.slips.length ∧ a = .int .i64 j ∧ Hid (GivI f n b0 j w ts rows wr)) (fun a _ _ => f.slips.length - (intOf a).toNat)
  case atStart => exact ⟨0, _, _, Nat.zero_le _, rfl, HG0⟩
  clear HG0
  obtain ⟨j, ts, rows, hj, rfl, HG⟩ := hrel
  have a5 := HG.out.fx.cell (j := 5) rfl
  have za := HG.out.fx.lt
  by_cases hlt : j < f.slips.length
  · obtain ⟨x1, hx1⟩ : ∃ x, x = takeI bits j := ⟨_, rfl⟩
    obtain ⟨x2, hx2⟩ : ∃ x, x = takeI bits ((j : Int) + 1) := ⟨_, rfl⟩
    have r1 : -9223372036854775808 ≤ x1 ∧ x1 ≤ 9223372036854775807 := by rw [hx1]; exact RT.out _
    have r2 : -9223372036854775808 ≤ x2 ∧ x2 ≤ 9223372036854775807 := by rw [hx2]; exact RT.out _
    obtain ⟨s0, s1⟩ := spin_range x1 n (by omega)
    obtain ⟨u0, u1⟩ := spin_range x2 2 (by omega)
    obtain ⟨k, hk⟩ : ∃ k : Nat, spinI x1 n = k := ⟨(spinI x1 n).toNat, by omega⟩
    obtain ⟨z, hz⟩ : ∃ z, z = spinI x2 2 := ⟨_, rfl⟩
    rw [hk] at s1
    rw [← hz] at u0 u1
    have K1 : Hid (∀ W : World, IntsAt W W.heap.size A cap bits → Calls Tryd.prog 81 #[.slice A bits.length cap, vi j] W fun e w' => e = .returned (vi x1) ∧ Below W.heap.size W w') := fun W hW => by
      rw [hx1]; exact take_any A cap bits j W hW (by omega) (by omega)
    have K2 : Hid (∀ W : World, Calls Tryd.prog 36 #[vi x1, vi n] W fun e w' => e = .returned (vi k) ∧ W = w') := fun W => by
      rw [← hk]; exact spin_any x1 n W r1.1 r1.2 (by omega)
    have K3 : Hid (∀ W : World, IntsAt W W.heap.size A cap bits → Calls Tryd.prog 81 #[.slice A bits.length cap, vi ((j : Int) + 1)] W fun e w' => e = .returned (vi x2) ∧ Below W.heap.size W w') := fun W hW => by
      rw [hx2]; exact take_any A cap bits _ W hW (by omega) (by omega)
    have K4 : Hid (∀ W : World, Calls Tryd.prog 36 #[vi x2, vi 2] W fun e w' => e = .returned (vi z) ∧ W = w') := fun W => by
      rw [hz]; exact spin_any x2 2 W r2.1 r2.2 (by omega)
    have hkn : k < n := by omega
    have hw1 : wrap64 ((j : Int) + 1) = (j : Int) + 1 := IntWalk.wrap64_in _ ⟨by omega, by omega⟩
    have HW1 := Lib.hid hw1
    clear hx1 hx2 r1 r2 s0 s1 hk hz hw1
    go_wp2_with fail
    refine (K1.out _ (HBT.out.to HG.out.below)).mono ?_
    rintro e W1 ⟨rfl, hb⟩
    replace HG := Lib.hid (HG.out.keep hb)
    clear hb a5 za K1
    go_wp2_with fail
    refine (K2.out _).mono ?_
    rintro e W2 ⟨rfl, rfl⟩
    clear K2
    go_wp2_with fail
    refine (K3.out _ (HBT.out.to HG.out.below)).mono ?_
    rintro e W2 ⟨rfl, hb⟩
    replace HG := Lib.hid (HG.out.keep hb)
    clear hb K3
    go_wp2_with fail
    refine (K4.out _).mono ?_
    rintro e W3 ⟨rfl, rfl⟩
    clear K4
    obtain ⟨t, ht⟩ : ∃ t, ts[k]? = some t := ⟨_, List.getElem?_eq_getElem (by rw [HG.out.many]; omega)⟩
    have hkc := HG.out.box.cell (j := k) (u := t.slice) (by rw [List.getElem?_map, ht]; rfl)
    have zk := HG.out.box.lt
    have hfz := HG.out.box.frozen k
    obtain ⟨e1, e2, e3⟩ := HG.out.each t (List.mem_of_getElem? ht)
    have htl := HG.out.rowLen (List.mem_of_getElem? ht)
    have HE1 := Lib.hid e1
    have HE3 := Lib.hid e3
    have HTT := Lib.hid ht
    have hkI : (k : Int) < n := by omega
    have h0k : (0 : Int) ≤ k := by omega
    clear e1 e2 e3 ht
    by_cases hz0 : z = 0
    · subst hz0
      obtain ⟨tA, tc, tl⟩ := t
      simp only [SRow.slice] at hkc HE1 HE3 htl
      have OWN := own_one W2 (vi j) (Nat.le_refl W2.heap.size)
      have hb1 := below1 W2 (.cells #[vi j] 3)
      by_cases hnil : tl = []
      · subst hnil
        obtain ⟨rfl, rfl⟩ := HE3.out rfl
        simp only [List.length_nil] at hkc
        clear HE3 HE1 htl
        go_wp2_with (at_builtin; go_loud (refine wpList_append_own_none rfl _ _ 22 rfl W2.heap.size 3 i0 1 Tryd.underlying22 hi (.slice (some ⟨W2.heap.size, 0, none⟩) 1 1) 1 [vi j] rfl OWN rfl ?_))
        obtain ⟨hI, hg⟩ := ints_own (l := [(j : Int)]) OWN rfl (by simp) (by omega)
        obtain ⟨ts', rows', hG⟩ := HG.out.step hb1 HTT.out hg hI (m := 1) rfl (.inl rfl)
        rw [World.setCell_alloc_past _ _ _ _ zk] at hG
        have HGG := Lib.hid hG
        clear hG
        go_roundw
        case rel => exact ⟨j + 1, ts', rows', by omega, by go_num, HGG⟩
        case measure => simp [intOf]; omega
      · have hpos : 0 < tl.length := List.length_pos_iff.2 hnil
        obtain ⟨tb, tq, rfl, htb, -⟩ := HE1.out.row (by simp; omega)
        have HC := Lib.hid (ints_cells HE1.out hpos)
        have HFL := Lib.hid (flat_ints tl)
        have HTL := Lib.hid htl
        clear HE3 hnil
        go_wp2_with (at_builtin; go_loud (refine wpList_append_own _ rfl _ _ 22 rfl W2.heap.size 3 i0 (.int .i64 0) 1 8 Tryd.underlying22 hi hy0 hy1 hy2 rfl (by decide) (.slice (some ⟨W2.heap.size, 0, none⟩) 1 1) 1 [vi j] rfl OWN ⟨tb, tq, none⟩ tl.length tc (tl.map intC).flatten rfl HFL.out (fun j u hj => cell_alloc (HC.out j u hj) _) ints_one (by unfold maxLen; omega) (by omega) (by simp) ?_; intro v6 w6 hown6 hgrow6 _; have HB6 : Below W2.heap.size W2 w6 := Below.grown hb1 hgrow6 (by simp) (fun k e => by (have e2 : some W2.heap.size = some k := e; cases e2; exact Nat.le_refl _)); obtain ⟨g, c, cur, rfl, k1, k2, k3, k4, k5, k6⟩ := own_some hown6 (by omega); clear k1 k2 k3 k4 k5 k6 cur; have q1 := (HB6.cell (p := ⟨b0, k, none⟩) zk).trans hkc; have q2 := (HB6.frozen (p := ⟨b0, k, none⟩) zk).trans hfz; have q3 := Nat.lt_of_lt_of_le zk HB6.size; clear hkc hfz))
        obtain ⟨hI, hg⟩ := ints_own (l := (j : Int) :: tl) hown6 (by simp; omega) (by have := HTL.out; simp; omega) (by omega)
        obtain ⟨ts', rows', hG⟩ := HG.out.step HB6 HTT.out hg hI (m := 1 + tl.length) (by simp; omega) (.inl rfl)
        go_roundw
        case rel => exact ⟨j + 1, ts', rows', by omega, by go_num, hG⟩
        case measure => simp [intOf]; omega
    · obtain ⟨tA, tc, tl⟩ := t
      simp only [SRow.slice] at hkc HE1 HE3 htl
      have HTL := Lib.hid htl
      have WI := Lib.hid (rwith_any tA tc tl j W2 HE1.out HE3.out (by omega))
      have hzb : (z == 0) = false := beq_eq_false_iff_ne.2 hz0
      go_wp2_with fail
      refine (WI.out).mono ?_
      rintro e W4 ⟨g, c, rfl, hown, hb⟩
      have q1 := (hb.cell (p := ⟨b0, k, none⟩) zk).trans hkc
      have q2 := (hb.frozen (p := ⟨b0, k, none⟩) zk).trans hfz
      have q3 := Nat.lt_of_lt_of_le zk hb.size
      clear hkc hfz WI
      obtain ⟨hI, hg⟩ := ints_own (l := tl ++ [(j : Int)]) hown (by simp) (by have := HTL.out; simp; omega) (by omega)
      obtain ⟨ts', rows', hG⟩ := HG.out.step hb HTT.out hg hI (m := tl.length + 1) (by simp) (.inr rfl)
      have HGG := Lib.hid hG
      clear hG hI hown
      go_wp2_with fail
      go_roundw
      case rel => exact ⟨j + 1, ts', rows', by omega, by go_num, HGG⟩
      case measure => simp [intOf]; omega
  · obtain rfl : j = f.slips.length := by omega
    go_wp2_with fail
    go_ret
    have hG := HG.out
    have hrow : RowsAt wr wr.heap.size 1 (some ⟨b0, 0, none⟩) n (ts.map SRow.cells) := by
      refine ⟨by rw [List.length_map, hG.many]; exact Nat.le_refl _, by omega, by rw [List.length_map, hG.many]; omega, fun _ => ⟨b0, 0, rfl, hG.box.lt, fun i r hr j u hj hu => ?_⟩⟩
      rw [List.getElem?_map] at hr
      obtain ⟨t, ht, rfl⟩ := Option.map_eq_some_iff.1 hr
      obtain rfl : j = 0 := by omega
      have : u = t.slice := by simpa [SRow.cells] using hu.symm
      subst this
      simpa using hG.box.cell (j := i) (u := t.slice) (by rw [List.getElem?_map, ht]; rfl)
    exact ⟨some ⟨b0, 0, none⟩, ts, rows, rfl, hG.many, ⟨hrow, fun t ht => (hG.each t ht).1⟩, hG.lists, hG.perm, hG.below⟩
end Go.Proofs.YtomgnpfpaodpiaaDoor

/- The law SlipGiven holds of every floor, number and list of numbers. -/
namespace Go.Proofs.YtomgnpfpaodpiaaDoor
open Go Go.RowKit
set_option maxHeartbeats 8000000
set_option maxRecDepth 100000 in
theorem slipGiven_bad (f : Floor) (n : Int) (hv : validB f = false) (A : Option Addr) (cap : Nat) (bits : List Int) (w : World) (hl : Lim w) (h : FloorAt w w.heap.size f) :
    Calls Tryd.prog 8 #[f.val, vi n, .slice A bits.length cap] w fun e w' => e = .returned (.bool true) ∧ Below w.heap.size w w' := by
  have HL := Lib.hid hl
  have HF := Lib.hid h
  have SO := Lib.hid (fun (W : World) h1 h2 => sound_is hv W h1 h2)
  clear hl h hv
  have X0 := CellsBox.new w 28 f.cells
  have hb0 : Below w.heap.size w (w.alloc (.cells f.cells.toArray 28)) := below1 _ _
  show Calls Tryd.prog 8 #[.agg #[.slice f.fA f.far.length f.fC, vi f.slo, vi f.shi, .slice f.pA f.picks.length f.pC, vi f.carry, .slice f.sA f.slips.length f.sC], vi n, .slice A bits.length cap] w _
  go_enter Tryd.func8, Tryd.ntmps8
  go_upto_region 1 with fail
  refine (?_ : ∀ V : World, CellsBox V w.heap.size 28 f.cells → Below w.heap.size w V → Code.wp _ _ _ _ V) _ X0 hb0
  clear X0 hb0
  intro V X0 HB
  have HX := Lib.hid X0
  (have a0 := X0.cell (j := 0) rfl; have a1 := X0.cell (j := 1) rfl; have a2 := X0.cell (j := 2) rfl; have a3 := X0.cell (j := 3) rfl; have a4 := X0.cell (j := 4) rfl; have a5 := X0.cell (j := 5) rfl; have za := X0.lt)
  clear X0
  go_wp2_with fail
  refine (SO.out _ (HL.out.next HB) (HF.out.to HB)).mono ?_
  rintro e W2 ⟨rfl, hb⟩
  clear a0 a1 a2 a3 a4 a5 za
  (replace HB : Below w.heap.size w W2 := HB.trans (hb.mono HB.size); clear hb)
  go_wp2_with fail
  refine (works_any _ (HL.out.next HB)).mono ?_
  rintro e W ⟨rfl, hb⟩
  (replace HB : Below w.heap.size w W := HB.trans (hb.mono HB.size); clear hb)
  go_wp2_with fail
  go_ret
  exact ⟨rfl, HB⟩
theorem one_to_five (n : Int) (hn : -9223372036854775808 ≤ n ∧ n ≤ 9223372036854775807) : ∃ (p : Nat) (q : Int), 1 ≤ p ∧ p ≤ 5 ∧ wrap64 (1 + q) = p ∧ IntKind.wrap .i64 (1 + q) = p ∧ ∀ W : World, Calls Tryd.prog 36 #[vi n, vi 5] W fun e w' => e = .returned (vi q) ∧ W = w' := by
  have h := spin_range n 5 (by omega)
  refine ⟨(1 + spinI n 5).toNat, spinI n 5, by omega, by omega, ?_, ?_, fun W => spin_any n 5 W hn.1 hn.2 (by omega)⟩
  · rw [IntWalk.wrap64_in _ ⟨by omega, by omega⟩]; omega
  · rw [wrapI (by omega) (by omega)]; omega
theorem perm_mem {rows : List (List Nat)} {n : Nat} (h : rows.flatten.Perm (List.range n)) : rows.flatten.Nodup ∧ ∀ s, s ∈ rows.flatten ↔ s < n :=
  ⟨h.nodup_iff.2 List.nodup_range, fun s => by rw [h.mem_iff, List.mem_range]⟩
/-- what the law asks of a roster, and of the list of those that are late in it -/
structure GivQ (f : Floor) (p : Nat) (ts : List SRow) (D : List (Int × Int)) : Prop where
  dl : D.length = f.slips.length
  round : ∀ (i : Nat) (t : SRow), ts[i]? = some t → ∀ (c : Nat) (n : Int), t.slips[c]? = some n → ∃ (s : Nat) (x : SSlip) (d : Int × Int), n = s ∧ s < f.slips.length ∧ f.slips[s]? = some x ∧ D[s]? = some d ∧ d = addS (sumT (tkF f) (0, 0) (t.slips.take c)) (takesF f x) ∧ sumT (tkF f) (0, 0) (t.slips.take (c + 1)) = d
  sums : ∀ (i : Nat) (t : SRow), ts[i]? = some t → ∀ c : Nat, (0 ≤ (sumT (tkF f) (0, 0) (t.slips.take c)).1 ∧ (sumT (tkF f) (0, 0) (t.slips.take c)).1 ≤ 1000000000) ∧ (0 ≤ (sumT (tkF f) (0, 0) (t.slips.take c)).2 ∧ (sumT (tkF f) (0, 0) (t.slips.take c)).2 ≤ 1000000000)
  late : (lateF f p).length ≤ (notF f D f.slips.length).length ∧ ((lateF f p).length = (notF f D f.slips.length).length → PM.aheadB (notF f D f.slips.length) (lateF f p) = false)
  none : (notF f D f.slips.length).length = 0 → ∃ q, fewF f = some q ∧ q ≤ p
theorem sumT_range {f : Floor} (hv : validB f = true) : ∀ (l : List Int) (t : Int × Int), (t.1 + 0 * l.length ≤ (sumT (tkF f) t l).1 ∧ (sumT (tkF f) t l).1 ≤ t.1 + 20000000 * l.length) ∧ (t.2 + 0 * l.length ≤ (sumT (tkF f) t l).2 ∧ (sumT (tkF f) t l).2 ≤ t.2 + 20000000 * l.length)
  | [], t => by simp [sumT]
  | x :: l, t => by
    have h := sumT_range hv l (addS t (tkF f x))
    have k := tk_range (f := f) hv x
    have e : sumT (tkF f) t (x :: l) = sumT (tkF f) (addS t (tkF f x)) l := rfl
    have e1 : (addS t (tkF f x)).1 = t.1 + (tkF f x).1 := rfl
    have e2 : (addS t (tkF f x)).2 = t.2 + (tkF f x).2 := rfl
    rw [e, List.length_cons]
    rw [e1, e2] at h
    omega
theorem givQ {f : Floor} (hv : validB f = true) {ts : List SRow} {rows : List (List Nat)} (h1 : 1 ≤ ts.length) (h5 : ts.length ≤ 5) (he : ts.map SRow.slips = rows.map natsC) (hp : rows.flatten.Perm (List.range f.slips.length)) : rosterB f ts = true ∧ GivQ f ts.length ts (doneF f (ts.map SRow.slips)) := by
  obtain ⟨k2, k3⟩ := perm_mem hp
  have hlen : rows.length = ts.length := by
    have := congrArg List.length he
    rw [List.length_map, List.length_map] at this
    exact this.symm
  have h9 := (fine hv).slips9
  refine ⟨roster_yes he ⟨h1, h5⟩ k2 k3, ?_, fun i t hi c n hc => any_round k2 k3 he hi hc, fun i t hi c => ?_, ?_, ?_⟩
  · unfold doneF
    rw [done_len, List.length_replicate]
  · have h := sumT_range hv (t.slips.take c) (0, 0)
    have hl : (t.slips.take c).length ≤ 9 := by
      have e1 : t.slips ∈ rows.map natsC := by rw [← he]; exact List.mem_map.2 ⟨t, List.mem_of_getElem? hi, rfl⟩
      obtain ⟨r, hr, e⟩ := List.mem_map.1 e1
      have h2 : r.length ≤ rows.flatten.length := by
        obtain ⟨A, B, rfl⟩ := List.append_of_mem hr
        simp
        omega
      rw [hp.length_eq, List.length_range] at h2
      rw [List.length_take, ← e]
      unfold natsC
      rw [List.length_map]
      omega
    simp only at h
    omega
  · rw [he, ← hlen]
    exact not_pref hv k2 k3
  · rw [he, ← hlen]
    exact not_none hv k2 k3 (by omega) (by omega)
theorem over_till {f : Floor} {D : List (Int × Int)} {k : Nat} {x : SSlip} {d : Int × Int} (hx : f.slips[k]? = some x) (hd : D[k]? = some d) : overB f D k = decide (x.till < d.2) := by
  unfold overB
  rw [hd, dueF_at hx, Option.getD_some]
end Go.Proofs.YtomgnpfpaodpiaaDoor

/- The law SlipGiven holds of every floor that is one: the walk. -/
namespace Go.Proofs.YtomgnpfpaodpiaaDoor
open Go Go.RowKit
set_option maxHeartbeats 8000000
set_option maxRecDepth 100000 in
theorem slipGiven_ok (f : Floor) (n : Int) (hn : -9223372036854775808 ≤ n ∧ n ≤ 9223372036854775807) (hv : validB f = true) (A : Option Addr) (cap : Nat) (bits : List Int) (hr : ∀ x ∈ bits, -9223372036854775808 ≤ x ∧ x ≤ 9223372036854775807) (w : World) (hl : Lim w) (h : FloorAt w w.heap.size f) (hb : IntsAt w w.heap.size A cap bits) :
    Calls Tryd.prog 8 #[f.val, vi n, .slice A bits.length cap] w fun e w' => e = .returned (.bool true) ∧ Below w.heap.size w w' := by
  obtain ⟨i0, hi, hy0, hy1, hy2⟩ := info_parts info_int
  have HL := Lib.hid hl
  have HF := Lib.hid h
  have HBT := Lib.hid hb
  have h9 := (fine hv).slips9
  have hbl := hb.lens
  have hls := h.slips.lens
  have SO := Lib.hid (fun (W : World) h1 h2 => sound_is hv W h1 h2)
  obtain ⟨p, q, hp1, hp5, hwp, hwq, SP⟩ := one_to_five n hn
  have SPP := Lib.hid SP
  have hck : checkV f = 0 := by unfold checkV; rw [if_pos hv]
  have C1 : Hid (∀ W : World, Lim W → FloorAt W W.heap.size f → Calls Tryd.prog 30 #[f.val, vi p] W fun e w' => ∃ A, e = .returned (.tuple #[.slice A (lateF f p).length (lateF f p).length, vi 0]) ∧ IntsAt w' w'.heap.size A (lateF f p).length (lateF f p) ∧ Below W.heap.size W w') := fun W h1 h2 => by
    have := Late_any f p W h1 h2
    rwa [lateV_is hv hp1 hp5] at this
  have C2 : Hid (∀ (ts : List SRow) (R : Option Addr), rosterB f ts = true → ∀ W : World, Lim W → FloorAt W W.heap.size f → RosterAt W W.heap.size R ts.length ts → Calls Tryd.prog 25 #[f.val, .slice R ts.length ts.length] W fun e w' => ∃ R, e = .returned (.tuple #[.slice R f.slips.length f.slips.length, vi 0]) ∧ RowsAt w' w'.heap.size 2 R f.slips.length ((doneF f (ts.map SRow.slips)).map spanC) ∧ Below W.heap.size W w') := fun ts R hk W h1 h2 h3 => by
    have e : DoneV f ts = (doneF f (ts.map SRow.slips), 0) := by unfold DoneV; rw [if_pos hck, if_pos hk]
    have := Done_any f R ts.length ts W h1 h2 h3
    rw [e] at this
    have hdl : (doneF f (ts.map SRow.slips)).length = f.slips.length := by
      unfold doneF
      rw [done_len, List.length_replicate]
    simp only [hdl] at this
    exact this
  have C3 : Hid (∀ q : Nat, fewF f = some q → ∀ W : World, Lim W → FloorAt W W.heap.size f → Calls Tryd.prog 28 #[f.val] W fun e w' => ∃ (A : Option Addr), e = .returned (.tuple #[.slice A q q, vi 0]) ∧ Below W.heap.size W w') := fun q hq W h1 h2 => by
    have e : RosterV f = (rosterF f q (allF f), 0) := by unfold RosterV; rw [if_pos hck, hq]
    refine (Roster_any f W h1 h2).mono ?_
    rintro e' w' ⟨A, ts, rfl, g1, g2, g3⟩
    rw [e] at g2 ⊢
    have := congrArg List.length g2
    rw [List.length_map, List.length_map, roster_len] at this
    rw [this]
    exact ⟨A, rfl, g3⟩
  have C4 : Hid (∀ (k : Nat) (s : SSlip), f.slips[k]? = some s → ∀ W : World, Lim W → FloorAt W W.heap.size f → Calls Tryd.prog 20 #[f.val, vi k] W fun e w' => e = .returned (.tuple #[.agg #[vi (takesF f s).1, vi (takesF f s).2], vi 0]) ∧ Below W.heap.size W w') := fun k s hs W h1 h2 => by
    have hc : checkSlipV f k = 0 := by
      unfold checkSlipV
      rw [if_pos hv, if_pos]
      unfold slipB
      have := (List.getElem?_eq_some_iff.1 hs).1
      simp
      omega
    have := Takes_any f k W h1 h2
    have e1 : TakesV f k = takesF f s := by unfold TakesV; rw [if_pos hc, Int.toNat_natCast, hs]
    rwa [e1, hc] at this
  have C5 := Lib.hid (fun (W : World) h1 h2 => lgiven_any f h9 p hp1 hp5 A cap bits hr W h1 h2)
  have C6 := Lib.hid (fun (A : Option Addr) (cap : Nat) (W : World) hh => climbs_yes A cap (lateF f p) f.slips.length W hh (late_climbs f p))
  have AH : Hid (∀ (A B : Option Addr) (ca cb : Nat) (a b : List Int) (r : Bool), PM.aheadB a b = r → ∀ W : World, IntsAt W W.heap.size A a.length a → IntsAt W W.heap.size B b.length b → Calls Tryd.prog 45 #[.slice A a.length ca, .slice B b.length cb] W fun e w' => e = .returned (.bool r) ∧ Below W.heap.size W w') := fun A B ca cb a b r hr W h1 h2 => by
    rw [← hr]
    exact ahead_any A B ca cb a b W h1 h2
  have HQ := Lib.hid (fun (ts : List SRow) (rows : List (List Nat)) (hl : ts.length = p) (he : ts.map SRow.slips = rows.map natsC) (hpm : rows.flatten.Perm (List.range f.slips.length)) => givQ (ts := ts) hv (by omega) (by omega) he hpm)
  have TKR := Lib.hid (fun (k : Nat) (s : SSlip) (hs : f.slips[k]? = some s) => (by
    have := tk_range (f := f) hv k
    rwa [show tkF f k = takesF f s from by unfold tkF; simp [hs]] at this : (0 ≤ (takesF f s).1 ∧ (takesF f s).1 ≤ 20000000) ∧ (0 ≤ (takesF f s).2 ∧ (takesF f s).2 ≤ 20000000)))
  obtain ⟨L, hL⟩ : ∃ L, L = lateF f p := ⟨_, rfl⟩
  rw [← hL] at C1 C6
  have HLE := Lib.hid hL
  clear hl h hb hv hr hn SP hck hL
  have X0 := CellsBox.new w 28 f.cells
  have hb0 : Below w.heap.size w (w.alloc (.cells f.cells.toArray 28)) := below1 _ _
  show Calls Tryd.prog 8 #[.agg #[.slice f.fA f.far.length f.fC, vi f.slo, vi f.shi, .slice f.pA f.picks.length f.pC, vi f.carry, .slice f.sA f.slips.length f.sC], vi n, .slice A bits.length cap] w _
  go_enter Tryd.func8, Tryd.ntmps8
  go_upto_region 1 with fail
  refine (?_ : ∀ V : World, CellsBox V w.heap.size 28 f.cells → Below w.heap.size w V → Code.wp _ _ _ _ V) _ X0 hb0
  clear X0 hb0
  intro V X0 HB
  have HX := Lib.hid X0
  (have a0 := X0.cell (j := 0) rfl; have a1 := X0.cell (j := 1) rfl; have a2 := X0.cell (j := 2) rfl; have a3 := X0.cell (j := 3) rfl; have a4 := X0.cell (j := 4) rfl; have a5 := X0.cell (j := 5) rfl; have za := X0.lt)
  clear X0
  go_wp2_with fail
  refine (SO.out _ (HL.out.next HB) (HF.out.to HB)).mono ?_
  rintro e W1 ⟨rfl, hb⟩
  (replace HX := Lib.hid (HX.out.keep hb); replace HB : Below w.heap.size w W1 := HB.trans (hb.mono HB.size); clear hb a0 a1 a2 a3 a4 a5 za; (have a0 := HX.out.cell (j := 0) rfl; have a1 := HX.out.cell (j := 1) rfl; have a2 := HX.out.cell (j := 2) rfl; have a3 := HX.out.cell (j := 3) rfl; have a4 := HX.out.cell (j := 4) rfl; have a5 := HX.out.cell (j := 5) rfl; have za := HX.out.lt))
  go_wp2_with fail
  refine (SPP.out _).mono ?_
  rintro e W2 ⟨rfl, rfl⟩
  go_wp2_with fail
  refine (C5.out _ (HF.out.to HB) (HBT.out.to HB)).mono ?_
  rintro e W2 ⟨R, ts, rows, rfl, htl, hT, he, hpm, hb⟩
  have HT := Lib.hid hT
  obtain ⟨hrb, hgq⟩ := HQ.out ts rows htl he hpm
  have HRB := Lib.hid hrb
  have HGQ := Lib.hid hgq
  rw [htl] at HGQ
  clear hT he hpm hrb hgq HQ
  (replace HX := Lib.hid (HX.out.keep hb); replace HB : Below w.heap.size w W2 := HB.trans (hb.mono HB.size); clear hb a0 a1 a2 a3 a4 a5 za; (have a0 := HX.out.cell (j := 0) rfl; have a1 := HX.out.cell (j := 1) rfl; have a2 := HX.out.cell (j := 2) rfl; have a3 := HX.out.cell (j := 3) rfl; have a4 := HX.out.cell (j := 4) rfl; have a5 := HX.out.cell (j := 5) rfl; have za := HX.out.lt))
  go_wp2_with fail
  have C2K := Lib.hid (C2.out ts R HRB.out)
  rw [htl] at C2K
  refine (C2K.out _ (HL.out.next HB) (HF.out.to HB) HT.out).mono ?_
  rintro e W3 ⟨RD, rfl, hRD, hb⟩
  replace HT := Lib.hid (HT.out.to hb)
  obtain ⟨D, hD⟩ : ∃ D, D = doneF f (ts.map SRow.slips) := ⟨_, rfl⟩
  rw [← hD] at hRD HGQ
  have HR := Lib.hid hRD
  clear hRD hD C2 C2K HRB
  (replace HX := Lib.hid (HX.out.keep hb); replace HB : Below w.heap.size w W3 := HB.trans (hb.mono HB.size); clear hb a0 a1 a2 a3 a4 a5 za; (have a0 := HX.out.cell (j := 0) rfl; have a1 := HX.out.cell (j := 1) rfl; have a2 := HX.out.cell (j := 2) rfl; have a3 := HX.out.cell (j := 3) rfl; have a4 := HX.out.cell (j := 4) rfl; have a5 := HX.out.cell (j := 5) rfl; have za := HX.out.lt))
  go_wp2_with fail
  refine (C1.out _ (HL.out.next HB) (HF.out.to HB)).mono ?_
  rintro e W4 ⟨A4, rfl, hA4, hb⟩
  replace HT := Lib.hid (HT.out.to hb)
  replace HR := Lib.hid (HR.out.to hb)
  have HA := Lib.hid hA4
  have hLl := hA4.lens
  clear hA4
  (replace HX := Lib.hid (HX.out.keep hb); replace HB : Below w.heap.size w W4 := HB.trans (hb.mono HB.size); clear hb a0 a1 a2 a3 a4 a5 za; (have a0 := HX.out.cell (j := 0) rfl; have a1 := HX.out.cell (j := 1) rfl; have a2 := HX.out.cell (j := 2) rfl; have a3 := HX.out.cell (j := 3) rfl; have a4 := HX.out.cell (j := 4) rfl; have a5 := HX.out.cell (j := 5) rfl; have za := HX.out.lt))
  have h0l : (0 : Int) ≤ f.slips.length := by omega
  go_wp2_with fail
  refine (C6.out _ _ _ HA.out).mono ?_
  rintro e W5 ⟨rfl, rfl⟩
  go_wp2_with fail
  clear a0 a1 a2 a3 a4 a5 za C1 C5 C6 SO SPP
  have htI : (ts.length : Int) = p := by omega
  have HTI := Lib.hid htI
  have HTL := Lib.hid htl
  clear htI htl
  go_loopw [14, 15, 16, 17, 18] (fun a _ _ _ _ wr => ∃ i : Nat, i ≤ p ∧ a = .int .i64 i ∧ Below W5.heap.size W5 wr) (fun a _ _ _ _ _ => p - (intOf a).toNat)
  case atStart => exact ⟨0, Nat.zero_le _, rfl, Below.refl _ _⟩
  obtain ⟨i, hip, rfl, hBL⟩ := hrel
  by_cases hlt : i < p
  · obtain ⟨t, ht⟩ : ∃ t, ts[i]? = some t := ⟨_, List.getElem?_eq_getElem (by rw [HTL.out]; exact hlt)⟩
    have HRD := Lib.hid (fun c n hc => HGQ.out.round i t ht c n hc)
    have HSM := Lib.hid (fun c => HGQ.out.sums i t ht c)
    have htil := (HT.out.each t (List.mem_of_getElem? ht)).lens
    have hiI : (i : Int) < p := by omega
    have h0i : (0 : Int) ≤ i := by omega
    have HTT := Lib.hid ht
    clear ht
    go_wp2_with fail
    refine (to_any 0 0 _).mono ?_
    rintro e W6 ⟨rfl, hb⟩
    replace hBL := hBL.trans (hb.mono hBL.size)
    clear hb
    go_wp2_with fail
    have HN := CellsBox.new W6 24 [vi 0, vi 0]
    have hbA := below1 W6 (.cells #[vi 0, vi 0] 24)
    obtain ⟨V6, hV6⟩ : ∃ V, V = W6.alloc (.cells #[vi 0, vi 0] 24) := ⟨_, rfl⟩
    obtain ⟨bn, hbn⟩ : ∃ b, b = W6.heap.size := ⟨_, rfl⟩
    have hbn5 : W5.heap.size ≤ bn := by rw [hbn]; exact hBL.size
    rw [← hV6, ← hbn] at HN
    rw [← hV6] at hbA
    rw [← hV6, ← hbn]
    replace hBL := hBL.trans (hbA.mono hBL.size)
    have HN := Lib.hid HN
    clear hbA hV6 hbn
    go_loopw [16, 17, 18] (fun a _ _ wr => ∃ (k : Nat) (x y : Int), k ≤ t.slips.length ∧ a = .int .i64 k ∧ Hid (x = (sumT (tkF f) (0, 0) (t.slips.take k)).1 ∧ y = (sumT (tkF f) (0, 0) (t.slips.take k)).2) ∧ Below W5.heap.size W5 wr ∧ Hid (CellsBox wr bn 24 [vi x, vi y])) (fun a _ _ _ => t.slips.length - (intOf a).toNat)
    case atStart => exact ⟨0, 0, 0, Nat.zero_le _, rfl, ⟨rfl, rfl⟩, hBL, HN⟩
    clear HN hBL
    obtain ⟨k, x, y, hk, rfl, HXY, hBL, HN⟩ := hrel
    have HB2 : Below w.heap.size w wr := HB.trans (hBL.mono HB.size)
    obtain ⟨rb, ro, hA1, hrb, hrc⟩ := (HT.out.to hBL).rows.row (by rw [List.length_map, HTL.out]; omega)
    have R0 : wr.cell? ⟨rb, ro + i, none⟩ = some (.slice t.ad t.slips.length t.cap) := by
      have := hrc i [t.slice] (by rw [List.getElem?_map, HTT.out]; rfl) 0 t.slice (by omega) rfl
      simpa using this
    have zR := cell_lt R0
    have HRA := Lib.hid hA1
    subst hA1
    clear hrc
    by_cases hltk : k < t.slips.length
    · obtain ⟨n, hn⟩ : ∃ n, t.slips[k]? = some n := ⟨_, List.getElem?_eq_getElem hltk⟩
      obtain ⟨s, u, dd, rfl, hsl, hus, hds, hde, hsu⟩ := HRD.out k n hn
      have hsm := HSM.out k
      rw [← HXY.out.1, ← HXY.out.2] at hsm
      obtain ⟨hx0, hx1⟩ := hsm.1
      obtain ⟨hy0', hy1'⟩ := hsm.2
      obtain ⟨tb, tq, htA, htb, htc⟩ := ((HT.out.to hBL).each t (List.mem_of_getElem? HTT.out)).row (by simp; omega)
      have N0 : wr.cell? ⟨tb, tq + k, none⟩ = some (vi s) := by
        have := htc k [vi s] (by rw [List.getElem?_map, hn]; rfl) 0 (vi s) (by omega) rfl
        simpa using this
      have zN := cell_lt N0
      have HTA := Lib.hid htA
      rw [htA] at R0
      have hkI : (k : Int) < t.slips.length := by omega
      have h0k : (0 : Int) ≤ k := by omega
      have hsI : (s : Int) < f.slips.length := by omega
      have h0s : (0 : Int) ≤ s := by omega
      have K4 := Lib.hid (fun W h1 h2 => C4.out s u hus W h1 h2)
      obtain ⟨⟨t1, t2⟩, t3, t4⟩ := TKR.out s u hus
      obtain ⟨lo, hlo⟩ : ∃ v, v = (takesF f u).1 := ⟨_, rfl⟩
      obtain ⟨hi2, hhi⟩ : ∃ v, v = (takesF f u).2 := ⟨_, rfl⟩
      rw [← hlo] at t1 t2 K4
      rw [← hhi] at t3 t4 K4
      have HD1 : Hid (dd = (x + lo, y + hi2)) := by unfold Hid; rw [hde, HXY.out.1, HXY.out.2, hlo, hhi]; rfl
      have HDS := Lib.hid hds
      have HSU := Lib.hid hsu
      have HX2 := HX.out.keep hBL
      have hxw : wrap64 (x + lo) = x + lo := IntWalk.wrap64_in _ ⟨by omega, by omega⟩
      have hyw : wrap64 (y + hi2) = y + hi2 := IntWalk.wrap64_in _ ⟨by omega, by omega⟩
      have HXW := Lib.hid hxw
      have HYW := Lib.hid hyw
      have HNN := Lib.hid hn
      clear hn hds hde hsu hus hlo hhi hsm htc htA hxw hyw
      have HHX := Lib.hid HX2
      have HR0 := Lib.hid R0
      have HN0 := Lib.hid N0
      have HB2H := Lib.hid HB2
      clear HX2 N0 zN
      go_upto_region 17 with fail
      clear R0 zR
      go_wp2_with fail
      refine' wp_region_box (fun w' => Below wr.heap.size wr w') (fun a b h h' => gr_trans h h') [0, 1, 2, 3, 4, 5, 6, 7, 8, 9, 10, 11] 3 181 (by kernel_rfl) (by kernel_rfl) rfl (by kernel_rfl) (by kernel_rfl) rfl (by kernel_rfl) ?hl5 (Below.refl _ _) ?hq5 ?hr5
      case hl5 =>
        simp only [List.map_cons, List.map_nil, List.getD_cons_zero, List.getD_cons_succ]
        exact rfl
      case hq5 =>
        intro w0 K
        have HXW2 := HHX.out.keep K
        have m0 := HXW2.cell (j := 0) rfl
        have m1 := HXW2.cell (j := 1) rfl
        have m2 := HXW2.cell (j := 2) rfl
        have m3 := HXW2.cell (j := 3) rfl
        have m4 := HXW2.cell (j := 4) rfl
        have m5 := HXW2.cell (j := 5) rfl
        have mz := HXW2.lt
        have mR := cell_keep K HR0.out
        have mN := cell_keep K HN0.out
        have mzR := cell_lt mR
        have mzN := cell_lt mN
        have HB3 : Below w.heap.size w w0 := HB2.trans (K.mono HB2.size)
        (repeat (go_big_quiet_step (first | (go_at_call 20; refine Calls.grow_of (K4.out _ (HL.out.next HB3) (HF.out.to HB3))) | (go_at_call 20; refine Calls.grow_of (K4.out _ (HL.out.next (HB3.trans ((plus_below _ _).mono HB3.size))) (HF.out.to (HB3.trans ((plus_below _ _).mono HB3.size))))))))
        exact wpQuiet_nil rfl
      case hr5 =>
        refine wpUp_one (i := 12) (by kernel_rfl) rfl rfl (fun wa b1 b2 Ka hKa => ?_)
        go_simp
        obtain ⟨V9, hV9⟩ : ∃ V9, V9 = wa.alloc (.cells #[vi 0, vi 0] 24) := ⟨_, rfl⟩
        have hbV9 : Below wa.heap.size wa V9 := by rw [hV9]; exact below1 _ _
        have X9 : CellsBox V9 wa.heap.size 24 [vi 0, vi 0] := by rw [hV9]; exact CellsBox.new wa _ _
        rw [← hV9]
        clear hV9
        have hsa := b1.size
        refine hKa _ _ (gr_trans b1 hbV9) ?_
        refine wpUp_one (i := 13) (by kernel_rfl) rfl rfl (fun wc c1 c2 Kc hKc => ?_)
        have Y9 := X9.keep c1
        have d0 := Y9.cell (j := 0) rfl
        have d1 := Y9.cell (j := 1) rfl
        have e0 := Y9.frozen 0
        have e1 := Y9.frozen 1
        have zz := Y9.lt
        go_simp
        have Z9 := (Y9.store 0 (vi lo)).store 1 (vi hi2)
        have hbc : Below wr.heap.size wr ((wc.setCell ⟨wa.heap.size, 0, none⟩ (vi lo)).setCell ⟨wa.heap.size, 1, none⟩ (vi hi2)) := (c2.setCell hsa _).setCell hsa _
        refine hKc _ _ hbc ?_
        refine wpUp_one (i := 14) (by kernel_rfl) rfl rfl (fun we f1' f2' Ke hKe => ?_)
        go_simp
        refine hKe _ _ f2' (wpUp_done (by kernel_rfl) (fun W8 g1 g2 => NoPanic.normal ?_))
        have HZ8 : Hid (CellsBox W8 wa.heap.size 24 [vi lo, vi hi2]) := (Z9.keep f1').keep g1
        have HN8 := Lib.hid (HN.out.keep g2)
        have hBL8 := hBL.trans (g2.mono hBL.size)
        have hne : bn ≠ wa.heap.size := by have := HN.out.lt; omega
        have hnw : W5.heap.size ≤ wa.heap.size := by have := hBL.size; omega
        clear hKa hKc hKe X9 Y9 d0 d1 e0 e1 zz Z9 hbc g1 g2 c1 c2 b1 b2 hbV9 f1' f2' hsa HHX HR0 HN0 HB2H HN hBL
        obtain ⟨b9, hb9⟩ : ∃ b9, b9 = wa.heap.size := ⟨_, rfl⟩
        rw [← hb9] at HZ8 hne hnw ⊢
        clear hb9
        have s0 := HN8.out.cell (j := 0) rfl
        have s1 := HN8.out.cell (j := 1) rfl
        have s2 := HN8.out.frozen 0
        have s3 := HN8.out.frozen 1
        have zs := HN8.out.lt
        have u0 := HZ8.out.cell (j := 0) rfl
        have u1 := HZ8.out.cell (j := 1) rfl
        have zt := HZ8.out.lt
        go_wp2_with fail
        refine (to_any _ _ _).mono ?_
        rintro e WA ⟨rfl, hb⟩
        replace HN8 := Lib.hid (HN8.out.keep hb)
        replace hBL8 := hBL8.trans (hb.mono hBL8.size)
        clear hb s0 s1 s2 s3 zs u0 u1 zt HZ8
        have s0 := HN8.out.cell (j := 0) rfl
        have s1 := HN8.out.cell (j := 1) rfl
        have s2 := HN8.out.frozen 0
        have s3 := HN8.out.frozen 1
        have zs := HN8.out.lt
        go_upto_region 19 with fail
        have HN9 := (HN8.out.store 0 (vi (x + lo))).store 1 (vi (y + hi2))
        have hBL9 : Below W5.heap.size W5 ((WA.setCell ⟨bn, 0, none⟩ (vi (x + lo))).setCell ⟨bn, 1, none⟩ (vi (y + hi2))) := (hBL8.setCell hbn5 _).setCell hbn5 _
        clear s0 s1 s2 s3 zs HN8 hBL8
        obtain ⟨X9, hX9⟩ : ∃ X, X = (WA.setCell ⟨bn, 0, none⟩ (vi (x + lo))).setCell ⟨bn, 1, none⟩ (vi (y + hi2)) := ⟨_, rfl⟩
        rw [← hX9] at HN9 hBL9 ⊢
        clear hX9
        obtain ⟨xn, hxn⟩ : ∃ v, v = x + lo := ⟨_, rfl⟩
        obtain ⟨yn, hyn⟩ : ∃ v, v = y + hi2 := ⟨_, rfl⟩
        rw [← hxn, ← hyn] at HN9 HD1
        have HN9 := Lib.hid HN9
        obtain ⟨db, dq, hRD, hdb, dd0, dd1⟩ := row2 (HR.out.to hBL9).row HDS.out rfl
        rw [HD1.out] at dd0 dd1
        have zd := cell_lt dd0
        obtain ⟨rb2, ro2, hA2, hrb2, hrc2⟩ := (HT.out.to hBL9).rows.row (by rw [List.length_map, HTL.out]; omega)
        cases hA2
        have R0 : X9.cell? ⟨rb, ro + i, none⟩ = some (.slice t.ad t.slips.length t.cap) := by
          have := hrc2 i [t.slice] (by rw [List.getElem?_map, HTT.out]; rfl) 0 t.slice (by omega) rfl
          simpa using this
        rw [HTA.out] at R0
        obtain ⟨tb2, tq2, htA2, htb2, htc2⟩ := ((HT.out.to hBL9).each t (List.mem_of_getElem? HTT.out)).row (by simp; omega)
        rw [HTA.out] at htA2
        cases htA2
        have N0 : X9.cell? ⟨tb, tq + k, none⟩ = some (vi s) := by
          have := htc2 k [vi s] (by rw [List.getElem?_map, HNN.out]; rfl) 0 (vi s) (by omega) rfl
          simpa using this
        have zR := cell_lt R0
        have zN := cell_lt N0
        have n0 := HN9.out.cell (j := 0) rfl
        have n1 := HN9.out.cell (j := 1) rfl
        have zn := HN9.out.lt
        have HXX := Lib.hid hxn
        have HYY := Lib.hid hyn
        clear hxn hyn hrc2 htc2 HN9
        simp only at dd0 dd1
        have HNB : Hid (CellsBox X9 bn 24 [vi xn, vi yn]) := HN9
        clear HN9
        subst hRD
        have HSX : Hid (xn = (sumT (tkF f) (0, 0) (t.slips.take (k + 1))).1 ∧ yn = (sumT (tkF f) (0, 0) (t.slips.take (k + 1))).2) := by
          unfold Hid
          rw [HSU.out, HD1.out]
          exact ⟨rfl, rfl⟩
        clear HSU HD1
        go_quiet (fail)
        go_wp2_with fail
        go_roundw
        case rel => exact ⟨k + 1, xn, yn, by omega, by go_num, HSX, below_drewN hBL9 _, HNB.out.keep (below_drewN (Below.refl _ _) _)⟩
        case measure => simp [intOf]; omega
    · obtain rfl : k = t.slips.length := by omega
      clear HB2 HRA
      go_wp2_with fail
      go_roundw
      case rel => exact ⟨i + 1, by omega, by go_num, hBL⟩
      case measure => simp [intOf]; omega
  · obtain rfl : i = p := by omega
    have HB2 : Below w.heap.size w wr := HB.trans (hBL.mono HB.size)
    have a5 := (HX.out.keep hBL).cell (j := 5) rfl
    have za := (HX.out.keep hBL).lt
    go_wp2_with fail
    have HN0 : Hid (wr.ownsRow W5.heap.size 3 1 (.slice none 0 0) (notF f D 0).length (((notF f D 0).map intC).flatten)) := World.ownsRow_nil wr W5.heap.size 3 1
    have HDL := Lib.hid HGQ.out.dl
    clear a5 za HB2 HT
    obtain ⟨NF, hNF⟩ : ∃ NF, NF = notF f D := ⟨_, rfl⟩
    have HNS : Hid (∀ k, NF (k + 1) = NF k ++ (if overB f D k then [(k : Int)] else [])) := fun k => by rw [hNF]; exact not_succ f D k
    have HNL : Hid (∀ k, (NF k).length ≤ k) := fun k => by rw [hNF]; exact not_len f D k
    have HLATE := Lib.hid HGQ.out.late
    have HNONE := Lib.hid HGQ.out.none
    rw [← hNF] at HN0 HLATE HNONE
    rw [← HLE.out] at HLATE
    clear hNF HGQ HLE
    go_loopw [13, 19] (fun v c wx => ∃ k : Nat, k ≤ f.slips.length ∧ c = .int .i64 k ∧ Below W5.heap.size W5 wx ∧ Hid (wx.ownsRow W5.heap.size 3 1 v (NF k).length (((NF k).map intC).flatten))) (fun _ c _ => f.slips.length - (intOf c).toNat)
    case atStart => exact ⟨0, Nat.zero_le _, rfl, hBL, HN0⟩
    clear HN0 hBL
    obtain ⟨k, hk, rfl, hBL, HN⟩ := hrel
    have hnk := HNL.out k
    obtain ⟨Am, cm, rfl, hcm, hcm2⟩ := own_form HN.out
    have HB2 : Below w.heap.size w wr := HB.trans (hBL.mono HB.size)
    by_cases hltk : k < f.slips.length
    · obtain ⟨d, hd⟩ : ∃ d, D[k]? = some d := ⟨_, List.getElem?_eq_getElem (by rw [HDL.out]; exact hltk)⟩
      obtain ⟨u, hu⟩ : ∃ u, f.slips[k]? = some u := ⟨_, List.getElem?_eq_getElem hltk⟩
      obtain ⟨db, dq, hRD, hdb, dd0, dd1⟩ := row2 (HR.out.to hBL).row hd rfl
      have zd := cell_lt dd1
      obtain ⟨bs, os, hsA, hbs, -, s1⟩ := row2 (HF.out.to HB2).slips.row hu rfl
      have a5 := (HX.out.keep hBL).cell (j := 5) rfl
      have za := (HX.out.keep hBL).lt
      have zs := cell_lt s1
      rw [hsA] at a5
      have hNs := HNS.out k
      rw [over_till hu hd] at hNs
      have hkI : (k : Int) < f.slips.length := by omega
      have h0k : (0 : Int) ≤ k := by omega
      clear hd hu hsA hbs hdb
      subst hRD
      rcases ho : decide (u.till < d.2) with _ | _
      · rw [ho] at hNs
        simp only [Bool.false_eq_true, if_false, List.append_nil] at hNs
        have HNSK := Lib.hid hNs
        clear hNs
        go_wp2_with fail
        go_quiet (fail)
        go_wp2_with fail
        go_roundw
        case rel => exact ⟨k + 1, by omega, by go_num, below_drewN hBL _, by unfold Hid; rw [HNSK.out]; exact own_keep HN.out (below_drewN (Below.refl _ _) _)⟩
        case measure => simp [intOf]; omega
      · rw [ho] at hNs
        simp only [if_true] at hNs
        have HNSK := Lib.hid hNs
        clear hNs
        go_wp2_with fail
        go_quiet (fail)
        have hBq := below_drewN hBL nq
        have OWNq := own_keep HN.out (below_drewN (Below.refl wr.heap.size wr) nq)
        obtain ⟨Wq, hWq⟩ : ∃ W, W = wr.drewN nq := ⟨_, rfl⟩
        rw [← hWq] at hBq OWNq ⊢
        clear hWq hBL HN dd0 dd1 zd s1 zs a5 za HB2
        have hsq := hBq.size
        have hnk9 : (NF k).length ≤ 9 := by omega
        have HNK9 := Lib.hid hnk9
        go_wp2_with (at_builtin; go_loud (have OWN := own_keep OWNq (below1 Wq (.cells #[vi k] 3)); have CN := cells_new Wq [vi k] 3; have O1 : ∀ u ∈ [vi k], u.oneCell' = true := (fun u hu => by simp at hu; subst hu; rfl); have hsz : W5.heap.size ≤ (Wq.alloc (.cells #[vi k] 3)).heap.size := (by simp; omega); refine wpList_append_own (Wq.alloc (.cells #[vi k] 3)) rfl _ _ 22 rfl W5.heap.size 3 i0 (.int .i64 0) 1 8 Tryd.underlying22 hi hy0 hy1 hy2 rfl (by decide) (.slice Am (NF k).length cm) (NF k).length (((NF k).map intC).flatten) rfl OWN ⟨Wq.heap.size, 0, none⟩ 1 1 [vi k] rfl rfl CN O1 (by unfold maxLen; omega) (by omega) hsz ?_; intro v6 w6 hown6 hgrow6 _; have hlt6 := (fun j e => (OWN.lt j e).1); have HB6 : Below W5.heap.size W5 w6 := Below.grown (hBq.alloc hsq (.cells #[vi k] 3)) hgrow6 hsz (fun j e => hlt6 j e); clear CN O1 hsz hlt6))
        go_roundw
        case rel => exact ⟨k + 1, by omega, by go_num, HB6, by unfold Hid; rw [HNSK.out]; simpa using hown6⟩
        case measure => simp [intOf]; omega
    · obtain rfl : k = f.slips.length := by omega
      obtain ⟨AN, cN, e, hcN, -, hN⟩ := own_rows (m := (NF f.slips.length).map intC) (fun r hr => by obtain ⟨x, _, rfl⟩ := List.mem_map.1 hr; rfl) HN.out (by simp) (by omega)
      cases e
      have HNI := Lib.hid (show IntsAt wr wr.heap.size Am (NF f.slips.length).length (NF f.slips.length) from hN)
      have HAL := Lib.hid (HA.out.to hBL)
      have HXL := Lib.hid (HX.out.keep hBL)
      clear hN HN HNS HNL HA HX hltk hnk
      obtain ⟨M, hM⟩ : ∃ M, M = NF f.slips.length := ⟨_, rfl⟩
      rw [← hM] at HNI HLATE HNONE hcm hcN ⊢
      have hMl := HNI.out.lens
      clear hM
      have HLT := HLATE.out.1
      have hd1 : decide ((M.length : Int) < L.length) = false := by simp; omega
      have hd2 : decide (M.length < L.length) = false := by simp; omega
      have HB : Below w.heap.size w wr := HB2
      have HX := HXL
      clear HB2 HXL hBL
      have FIN : ∀ (W : World), Below w.heap.size w W → Hid (CellsBox W w.heap.size 28 f.cells) → True := fun _ _ _ => trivial
      clear FIN
      rcases hd3 : decide (L.length = M.length) with _ | _
      case' true =>
        have hd3i : ((L.length : Int) == M.length) = true := by simp at hd3 ⊢; omega
        have AHK := Lib.hid (fun W h1 h2 => AH.out Am A4 cm L.length M L false (HLATE.out.2 (by simpa using hd3)) W h1 h2)
        clear hd3
        go_wp2_with fail
        refine (AHK.out _ HNI.out.short HAL.out.short).mono ?_
        rintro e W8 ⟨rfl, hb⟩
        replace HX := Lib.hid (HX.out.keep hb)
        replace HB : Below w.heap.size w W8 := HB.trans (hb.mono HB.size)
        clear hb AHK HNI HAL
      case' false =>
        have hd3i : ((L.length : Int) == M.length) = false := by simp at hd3 ⊢; omega
        clear hd3 HNI HAL
      all_goals
        clear HLATE AH
        by_cases h0 : M.length = 0
        · obtain ⟨q', hq', hqp⟩ := HNONE.out h0
          have C3K := Lib.hid (C3.out q' hq')
          have hz1 : decide ((0 : Int) < M.length) = false := decide_eq_false (by omega)
          have hz2 : decide (0 < M.length) = false := decide_eq_false (by omega)
          have hqI : decide ((q' : Int) ≤ i) = true := by simp; omega
          have hqN : decide (q' ≤ i) = true := by simp; omega
          clear HNONE h0 hq' C3
          (have a0 := HX.out.cell (j := 0) rfl; have a1 := HX.out.cell (j := 1) rfl; have a2 := HX.out.cell (j := 2) rfl; have a3 := HX.out.cell (j := 3) rfl; have a4 := HX.out.cell (j := 4) rfl; have a5 := HX.out.cell (j := 5) rfl; have za := HX.out.lt)
          go_wp2_with fail
          refine (C3K.out _ (HL.out.next HB) (HF.out.to HB)).mono ?_
          rintro e W9 ⟨A9, rfl, hb⟩
          clear a0 a1 a2 a3 a4 a5 za HX
          (replace HB : Below w.heap.size w W9 := HB.trans (hb.mono HB.size); clear hb)
          go_wp2_with fail
          refine (works_any _ (HL.out.next HB)).mono ?_
          rintro e W ⟨rfl, hb⟩
          (replace HB : Below w.heap.size w W := HB.trans (hb.mono HB.size); clear hb)
          go_wp2_with fail
          go_ret
          exact ⟨rfl, HB⟩
        · have hz1 : decide ((0 : Int) < M.length) = true := decide_eq_true (by omega)
          have hz2 : decide (0 < M.length) = true := decide_eq_true (by omega)
          clear HNONE h0 C3
          go_wp2_with fail
          refine (works_any _ (HL.out.next HB)).mono ?_
          rintro e W ⟨rfl, hb⟩
          (replace HB : Below w.heap.size w W := HB.trans (hb.mono HB.size); clear hb)
          go_wp2_with fail
          go_ret
          exact ⟨rfl, HB⟩
theorem slipGiven_any (f : Floor) (n : Int) (hn : -9223372036854775808 ≤ n ∧ n ≤ 9223372036854775807) (A : Option Addr) (cap : Nat) (bits : List Int) (hr : ∀ x ∈ bits, -9223372036854775808 ≤ x ∧ x ≤ 9223372036854775807) (w : World) (hl : Lim w) (h : FloorAt w w.heap.size f) (hb : IntsAt w w.heap.size A cap bits) :
    Calls Tryd.prog 8 #[f.val, vi n, .slice A bits.length cap] w fun e w' => e = .returned (.bool true) ∧ Below w.heap.size w w' := by
  cases hv : validB f with
  | false => exact slipGiven_bad f n hv A cap bits w hl h
  | true => exact slipGiven_ok f n hn hv A cap bits hr w hl h hb
end Go.Proofs.YtomgnpfpaodpiaaDoor

