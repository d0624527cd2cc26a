/- AccountKnown's card: called with nothing the law answers true, and nothing that lay before is changed. Conditions: the table of limits holds what the program's text lays, as the card ties it. -/
import Derived.Test.YtkbjcbflnhgdlaeGreatDoorQ
import Derived.Test.YtkbjcbflnhgdlaeGreatDoorChecked
import Derived.Test.YtkbjcbflnhgdlaeGreatDoorCards
import Derived.Test.YtkbjcbflnhgdlaeGreatDoorTie
import Derived.WalkKit
import Derived.ProofKit
import Derived.ReadAgain
import Derived.OpenShut
import Derived.ChangeArms
import Derived.SizedLaws
import Derived.Deep.Slices
import Derived.Lib.SmallJoins
import Derived.Deep.DeepHandedRow
import Derived.Lib.LaidTab
namespace Go.Proofs.YtkbjcbflnhgdlaeGreatDoor
open Go Go.RowKit Go.Deep Go.ChangeShapes Go.WideShapes Go.ChangeAt
set_option maxHeartbeats 1000000
theorem own_knob : ownKnob Tryz.prog.godebug = none := by kernel_rfl
theorem kids : Kids Tryz.prog (· < Tryz.prog.types.size) := kids_rows (by kernel_rfl) (by kernel_rfl)
theorem full : ∀ t e, t < Tryz.prog.types.size → Tryz.prog.underlying t = some (.slice e) → 0 < Tryz.prog.cellsOf e := slices_full_of Tryz.prog (by kernel_rfl)
abbrev vi (n : Int) : Value := .int .i64 n
theorem cell_none {w : World} {a : Addr} {v : Value} (h : w.cell? a = some v) : a.spot = none ∧ a.block < w.heap.size := by
  unfold World.cell? at h
  split at h
  · rename_i ho
    refine ⟨?_, (Array.getElem?_eq_some_iff.1 ho).1⟩
    split at h
    · cases h
    · rename_i hs; simpa using hs
  · cases h
theorem list2 {α : Type} {l : List α} (h : l.length = 2) : ∃ a b, l = [a, b] := by
  cases l with
  | nil => cases h
  | cons a l => cases l with
    | nil => cases h
    | cons b l => cases l with
      | nil => exact ⟨a, b, rfl⟩
      | cons _ _ => simp at h
section
variable {H : Type} {enc : TypeId × Value → H}
theorem carry_all {P : Program} {w w' : World} {b : Nat} {sp : Nat → Bool} {hd : Bool} : ∀ {ts : List TypeId} {vs : List Value} {ds : List (DataW H)} {ps : List MemPlace}, DataW.TrodAll enc P w b sp hd ts vs ds ps → (∀ p ∈ ps, w.sameAt w' p) → DataW.TrodAll enc P w' b sp hd ts vs ds ps
  | [], [], [], _, h, _ => h
  | _ :: _, _ :: _, _ :: _, _, ⟨p, q, ⟨n, h1⟩, h2, e⟩, hs =>
    ⟨p, q, ⟨n, DataW.trod_carry n _ _ _ h1 fun x hx => hs x (by rw [e]; exact List.mem_append_left _ hx)⟩, carry_all h2 fun x hx => hs x (by rw [e]; exact List.mem_append_right _ hx), e⟩
theorem post_true {s : ChangeSpec} {fn : Func} {W W' : World} {args : Array Value} {ds gs : List (DataW H)} {before : List MemPlace}
    (hW : DataW.Whole enc Tryz.prog fn.params.toList s.vars false W args.toList ds gs before) (hv : s.vars = []) (hs : s.fn H ds = { results := [.lit (.bool true)], args := ds })
    (ht : fn.resultTypes = #[4]) (hp : ∀ t ∈ fn.params.toList, t < Tryz.prog.types.size) (hb : Below W.heap.size W W') :
    s.post enc Tryz.prog fn false true false false W args (.bool true) W' := by
  have hW0 := hW
  obtain ⟨p, q, hA, hV, rfl, hfz, hnd⟩ := hW
  rw [hv] at hV
  obtain ⟨rfl, rfl⟩ := trodVars_none hV
  have hlt : ∀ x ∈ p, x.block < W.heap.size := fun x hx => hW0.lt x (by simpa using hx)
  refine ⟨ds, [], p ++ [], [], p, [], hW0, ?_, ?_, ?_, ?_, fun h => by cases h⟩
  · rw [ht, List.append_nil, hs]
    exact trodAll_cons_mk (shut_bool Tryz.underlying4 true) trodAll_mk0
  · rw [List.append_nil, hs]
    exact DataW.TrodAll.respare kids full hp (carry_all hA fun x hx => hb.same (hlt x hx)) fun x hx => by simpa using hlt x hx
  · rw [hv, List.append_nil, hs]
    rfl
  · exact World.keptBut_mono (fun _ h => h.elim) (hb.frame fun _ => False)
end
section
variable {H : Type} {enc : TypeId × Value → H} {w : World} {sp : Nat → Bool} {hd : Bool} {base : Nat}
theorem ki : Tryz.prog.cellsOf 3 = 1 := by kernel_rfl
theorem ks : Tryz.prog.cellsOf 82 = 2 := by kernel_rfl
theorem us : Tryz.prog.underlying 82 = some (.struct (Tryz.prog.fieldsOf 82)) := by kernel_rfl
theorem ls : ((Tryz.prog.fieldsOf 82).toList.map fun f => (f.type, f.offset)) = [(3, 0), (3, 1)] := by kernel_rfl
theorem told_int {n : Nat} {cs : List Value} {y : DataW H × List MemPlace} (h : DataW.trod enc Tryz.prog w base sp hd n 3 cs = some y) : ∃ k, cs = [vi k] ∧ y.1 = .lit (.int .i64 k) := by
  obtain ⟨k, h1, h2, _⟩ := DataW.trod_int Tryz.underlying3 h
  exact ⟨k, h1, by rw [h2]⟩
theorem told_span {n : Nat} {cs : List Value} {y : DataW H × List MemPlace} (h : DataW.trod enc Tryz.prog w base sp hd n 82 cs = some y) : ∃ a b, cs = [vi a, vi b] ∧ y.1 = .agg [.lit (.int .i64 a), .lit (.int .i64 b)] := by
  obtain ⟨xs, m, _, rfl, hl, hlen, hf⟩ := DataW.trod_struct us h
  obtain ⟨c0, c1, rfl⟩ := list2 (hl.trans ks)
  have hsz : (Tryz.prog.fieldsOf 82).size = 2 := by kernel_rfl
  rw [hsz] at hlen
  obtain ⟨x0, x1, rfl⟩ := list2 hlen
  have key : ∀ (i ty off : Nat), ((Tryz.prog.fieldsOf 82).toList.map fun f => (f.type, f.offset))[i]? = some (ty, off) → DataW.trod enc Tryz.prog w base sp hd m ty (([c0, c1].drop off).take (Tryz.prog.cellsOf ty)) = [x0, x1][i]? := by
    intro i ty off hi
    rw [List.getElem?_map] at hi
    cases hfi : (Tryz.prog.fieldsOf 82).toList[i]? with
    | none => rw [hfi] at hi; cases hi
    | some f =>
      rw [hfi] at hi
      simp only [Option.map_some, Option.some.injEq, Prod.mk.injEq] at hi
      obtain ⟨rfl, rfl⟩ := hi
      exact hf i f (by simpa using hfi)
  have h0 := key 0 3 0 (by rw [ls]; rfl)
  have h1 := key 1 3 1 (by rw [ls]; rfl)
  rw [ki] at h0 h1
  obtain ⟨a, e0, d0⟩ := told_int h0
  obtain ⟨b, e1, d1⟩ := told_int h1
  simp at e0 e1
  exact ⟨a, b, by rw [e0, e1], by simp [d0, d1]⟩
end
def lo0 (k : Nat) : Int := ([0, 0, 0, 0, 1, 1, 1, 1, 1] : List Int).getD k 0
def hi0 (k : Nat) : Int := ([60, 10000, 24, 4000, 99, 12, 20, 1000, 1000000] : List Int).getD k 0
theorem g0N : Tryz.prog.globalNamed "wishbook/account.limits" = some 0 := by kernel_rfl
theorem g0T : (Tryz.prog.globals[0]?).map (·.type) = some 84 := by kernel_rfl
theorem g0U : Tryz.prog.underlying 84 = some (.array 9 82) := by kernel_rfl
theorem lim0 {W : World} {ps : List MemPlace} {cs : Array Value} {fuel : Nat} (hvar : W.var? Tryz.prog "wishbook/account.limits" = some cs) (hd : DataW.trod (fun _ => ()) Tryz.prog W 0 (fun _ => true) false fuel 84 cs.toList = some (Rows.laid_wishbook_account_limits, ps)) :
    ∀ k : Nat, k < 9 → W.cell? ⟨0, k * 2, none⟩ = some (vi (lo0 k)) ∧ W.cell? ⟨0, k * 2 + 1, none⟩ = some (vi (hi0 k)) := by
  obtain ⟨xs, m, _, hx, hl, hlen, hf⟩ := DataW.trod_array g0U hd
  have hcell := World.var?_cell g0N hvar
  have hxs : xs.map (·.1) = [.agg [.lit (.int .i64 0), .lit (.int .i64 60)], .agg [.lit (.int .i64 0), .lit (.int .i64 10000)], .agg [.lit (.int .i64 0), .lit (.int .i64 24)], .agg [.lit (.int .i64 0), .lit (.int .i64 4000)], .agg [.lit (.int .i64 1), .lit (.int .i64 99)], .agg [.lit (.int .i64 1), .lit (.int .i64 12)], .agg [.lit (.int .i64 1), .lit (.int .i64 20)], .agg [.lit (.int .i64 1), .lit (.int .i64 1000)], .agg [.lit (.int .i64 1), .lit (.int .i64 1000000)]] := by
    have := congrArg Prod.fst hx
    simpa [Rows.laid_wishbook_account_limits] using this.symm
  have key : ∀ (k : Nat) (a b : Int), k < 9 → (xs.map (·.1))[k]? = some (.agg [.lit (.int .i64 a), .lit (.int .i64 b)]) → W.cell? ⟨0, k * 2, none⟩ = some (vi a) ∧ W.cell? ⟨0, k * 2 + 1, none⟩ = some (vi b) := by
    intro k a b hk hkx
    have h1 := hf k hk
    rw [ks] at h1
    rw [List.getElem?_map] at hkx
    cases hxk : xs[k]? with
    | none => rw [hxk] at hkx; cases hkx
    | some z =>
      rw [hxk] at h1 hkx
      obtain ⟨a', b', e, hz⟩ := told_span h1
      simp only [Option.map_some, Option.some.injEq] at hkx
      rw [hz] at hkx
      simp only [DataW.agg.injEq, List.cons.injEq, DataW.lit.injEq, Lit.int.injEq, true_and, and_true] at hkx
      obtain ⟨rfl, rfl⟩ := hkx
      have e0 := congrArg (fun l : List Value => l[0]?) e
      have e1 := congrArg (fun l : List Value => l[1]?) e
      simp only [List.getElem?_take, List.getElem?_drop, List.getElem?_cons_zero, List.getElem?_cons_succ] at e0 e1
      refine ⟨(hcell _).trans ?_, (hcell _).trans ?_⟩
      · simpa using e0
      · simpa using e1
  intro k hk
  have : k = 0 ∨ k = 1 ∨ k = 2 ∨ k = 3 ∨ k = 4 ∨ k = 5 ∨ k = 6 ∨ k = 7 ∨ k = 8 := by omega
  rcases this with rfl | rfl | rfl | rfl | rfl | rfl | rfl | rfl | rfl
  all_goals exact key _ _ _ (by omega) (by rw [hxs]; rfl)
def lo1 (k : Nat) : Int := ([1, 1, 0, 0, 1, 1, 1, 1, 1, 0, 0, 1] : List Int).getD k 0
def hi1 (k : Nat) : Int := ([24, 4, 24, 20000, 9999, 8, 99, 400, 100000, 3, 20, 1000] : List Int).getD k 0
theorem g1N : Tryz.prog.globalNamed "wishbook/book.limits" = some 1 := by kernel_rfl
theorem g1T : (Tryz.prog.globals[1]?).map (·.type) = some 128 := by kernel_rfl
theorem g1U : Tryz.prog.underlying 128 = some (.array 12 82) := by kernel_rfl
theorem lim1 {W : World} {ps : List MemPlace} {cs : Array Value} {fuel : Nat} (hvar : W.var? Tryz.prog "wishbook/book.limits" = some cs) (hd : DataW.trod (fun _ => ()) Tryz.prog W 0 (fun _ => true) false fuel 128 cs.toList = some (Rows.laid_wishbook_book_limits, ps)) :
    ∀ k : Nat, k < 12 → W.cell? ⟨1, k * 2, none⟩ = some (vi (lo1 k)) ∧ W.cell? ⟨1, k * 2 + 1, none⟩ = some (vi (hi1 k)) := by
  obtain ⟨xs, m, _, hx, hl, hlen, hf⟩ := DataW.trod_array g1U hd
  have hcell := World.var?_cell g1N hvar
  have hxs : xs.map (·.1) = [.agg [.lit (.int .i64 1), .lit (.int .i64 24)], .agg [.lit (.int .i64 1), .lit (.int .i64 4)], .agg [.lit (.int .i64 0), .lit (.int .i64 24)], .agg [.lit (.int .i64 0), .lit (.int .i64 20000)], .agg [.lit (.int .i64 1), .lit (.int .i64 9999)], .agg [.lit (.int .i64 1), .lit (.int .i64 8)], .agg [.lit (.int .i64 1), .lit (.int .i64 99)], .agg [.lit (.int .i64 1), .lit (.int .i64 400)], .agg [.lit (.int .i64 1), .lit (.int .i64 100000)], .agg [.lit (.int .i64 0), .lit (.int .i64 3)], .agg [.lit (.int .i64 0), .lit (.int .i64 20)], .agg [.lit (.int .i64 1), .lit (.int .i64 1000)]] := by
    have := congrArg Prod.fst hx
    simpa [Rows.laid_wishbook_book_limits] using this.symm
  have key : ∀ (k : Nat) (a b : Int), k < 12 → (xs.map (·.1))[k]? = some (.agg [.lit (.int .i64 a), .lit (.int .i64 b)]) → W.cell? ⟨1, k * 2, none⟩ = some (vi a) ∧ W.cell? ⟨1, k * 2 + 1, none⟩ = some (vi b) := by
    intro k a b hk hkx
    have h1 := hf k hk
    rw [ks] at h1
    rw [List.getElem?_map] at hkx
    cases hxk : xs[k]? with
    | none => rw [hxk] at hkx; cases hkx
    | some z =>
      rw [hxk] at h1 hkx
      obtain ⟨a', b', e, hz⟩ := told_span h1
      simp only [Option.map_some, Option.some.injEq] at hkx
      rw [hz] at hkx
      simp only [DataW.agg.injEq, List.cons.injEq, DataW.lit.injEq, Lit.int.injEq, true_and, and_true] at hkx
      obtain ⟨rfl, rfl⟩ := hkx
      have e0 := congrArg (fun l : List Value => l[0]?) e
      have e1 := congrArg (fun l : List Value => l[1]?) e
      simp only [List.getElem?_take, List.getElem?_drop, List.getElem?_cons_zero, List.getElem?_cons_succ] at e0 e1
      refine ⟨(hcell _).trans ?_, (hcell _).trans ?_⟩
      · simpa using e0
      · simpa using e1
  intro k hk
  have : k = 0 ∨ k = 1 ∨ k = 2 ∨ k = 3 ∨ k = 4 ∨ k = 5 ∨ k = 6 ∨ k = 7 ∨ k = 8 ∨ k = 9 ∨ k = 10 ∨ k = 11 := by omega
  rcases this with rfl | rfl | rfl | rfl | rfl | rfl | rfl | rfl | rfl | rfl | rfl | rfl
  all_goals exact key _ _ _ (by omega) (by rw [hxs]; rfl)
theorem block_of {w : World} {a : Addr} {v : Value} (h : w.cell? a = some v) : ∃ cs e fz, w.heap[a.block]? = some (.cells cs e fz) := by
  unfold World.cell? at h
  split at h
  · rename_i cs e fz hq; exact ⟨cs, e, fz, hq⟩
  · cases h
structure Lim (w : World) : Prop where
  pos : 2 ≤ w.heap.size
  l0 : ∀ k : Nat, k < 9 → w.cell? ⟨0, k * 2, none⟩ = some (vi (lo0 k)) ∧ w.cell? ⟨0, k * 2 + 1, none⟩ = some (vi (hi0 k))
  l1 : ∀ k : Nat, k < 12 → w.cell? ⟨1, k * 2, none⟩ = some (vi (lo1 k)) ∧ w.cell? ⟨1, k * 2 + 1, none⟩ = some (vi (hi1 k))
theorem lim_of {W : World} (h : laidMet Tryz.prog [("wishbook/book.limits", Rows.laid_wishbook_book_limits), ("wishbook/account.limits", Rows.laid_wishbook_account_limits)] W) : Lim W := by
  obtain ⟨ps, ⟨g0, t0, cs0, fuel0, p0, q0, hg0, ht0, hvar0, hd0, ⟨g1, t1, cs1, fuel1, p1, q1, hg1, ht1, hvar1, hd1, hr1, _⟩, _⟩, _⟩ := h
  obtain rfl := Option.some.inj (g1N.symm.trans hg0)
  obtain rfl := Option.some.inj (g1T.symm.trans ht0)
  have L1 := lim1 hvar0 hd0
  obtain rfl := Option.some.inj (g0N.symm.trans hg1)
  obtain rfl := Option.some.inj (g0T.symm.trans ht1)
  have L0 := lim0 hvar1 hd1
  have := (cell_none (L1 0 (by omega)).1).2
  simp only at this
  exact ⟨by omega, L0, L1⟩
noncomputable def laidWorld (os : Os) : World :=
  { World.holding Tryz.prog os ⟨#[], #[], []⟩ with heap := (((World.holding Tryz.prog os ⟨#[], #[], []⟩).heap.modify 0 (fun
      | .cells _ t frozen => .cells #[vi 0, vi 60, vi 0, vi 10000, vi 0, vi 24, vi 0, vi 4000, vi 1, vi 99, vi 1, vi 12, vi 1, vi 20, vi 1, vi 1000, vi 1, vi 1000000] t frozen
      | o => o)).modify 1 (fun
      | .cells _ t frozen => .cells #[vi 1, vi 24, vi 1, vi 4, vi 0, vi 24, vi 0, vi 20000, vi 1, vi 9999, vi 1, vi 8, vi 1, vi 99, vi 1, vi 400, vi 1, vi 100000, vi 0, vi 3, vi 0, vi 20, vi 1, vi 1000] t frozen
      | o => o)) }
theorem row0 {w : World} (h : Lim w) {x : Vm.Row} (hx : Vm.hget vmH 0 = some x) : ∃ o, w.heap[0]? = some o ∧ Vm.RowO Vm.R00 0 x o := by
  unfold vmH at hx
  rw [Vm.hget_hset (by omega) (by omega), if_neg (by omega)] at hx
  rw [Vm.hget_hset (by omega) (by omega)] at hx
  simp only [if_true] at hx
  cases hx
  obtain ⟨cs, e, fz, hw⟩ := block_of (h.l0 0 (by omega)).1
  have cell : ∀ i v, w.cell? ⟨0, i, none⟩ = some v → cs[i]? = some v := fun i v q => by simpa [World.cell?, hw] using q
  have get : ∀ (i : Nat) (x : Value), ([.int .i64 0, .int .i64 60, .int .i64 0, .int .i64 10000, .int .i64 0, .int .i64 24, .int .i64 0, .int .i64 4000, .int .i64 1, .int .i64 99, .int .i64 1, .int .i64 12, .int .i64 1, .int .i64 20, .int .i64 1, .int .i64 1000, .int .i64 1, .int .i64 1000000] : List Value)[i]? = some x → cs[i]? = some x ∧ ∃ n, x = vi n := by
    intro i x hx
    have hi : i < 18 := (List.getElem?_eq_some_iff.1 hx).1
    have k0 := (h.l0 0 (by omega)).1; have j0 := (h.l0 0 (by omega)).2; have k1 := (h.l0 1 (by omega)).1; have j1 := (h.l0 1 (by omega)).2; have k2 := (h.l0 2 (by omega)).1; have j2 := (h.l0 2 (by omega)).2; have k3 := (h.l0 3 (by omega)).1; have j3 := (h.l0 3 (by omega)).2; have k4 := (h.l0 4 (by omega)).1; have j4 := (h.l0 4 (by omega)).2; have k5 := (h.l0 5 (by omega)).1; have j5 := (h.l0 5 (by omega)).2; have k6 := (h.l0 6 (by omega)).1; have j6 := (h.l0 6 (by omega)).2; have k7 := (h.l0 7 (by omega)).1; have j7 := (h.l0 7 (by omega)).2; have k8 := (h.l0 8 (by omega)).1; have j8 := (h.l0 8 (by omega)).2
    match i, hi with
    | 0, _ => cases hx; exact ⟨cell _ _ k0, _, rfl⟩
    | 1, _ => cases hx; exact ⟨cell _ _ j0, _, rfl⟩
    | 2, _ => cases hx; exact ⟨cell _ _ k1, _, rfl⟩
    | 3, _ => cases hx; exact ⟨cell _ _ j1, _, rfl⟩
    | 4, _ => cases hx; exact ⟨cell _ _ k2, _, rfl⟩
    | 5, _ => cases hx; exact ⟨cell _ _ j2, _, rfl⟩
    | 6, _ => cases hx; exact ⟨cell _ _ k3, _, rfl⟩
    | 7, _ => cases hx; exact ⟨cell _ _ j3, _, rfl⟩
    | 8, _ => cases hx; exact ⟨cell _ _ k4, _, rfl⟩
    | 9, _ => cases hx; exact ⟨cell _ _ j4, _, rfl⟩
    | 10, _ => cases hx; exact ⟨cell _ _ k5, _, rfl⟩
    | 11, _ => cases hx; exact ⟨cell _ _ j5, _, rfl⟩
    | 12, _ => cases hx; exact ⟨cell _ _ k6, _, rfl⟩
    | 13, _ => cases hx; exact ⟨cell _ _ j6, _, rfl⟩
    | 14, _ => cases hx; exact ⟨cell _ _ k7, _, rfl⟩
    | 15, _ => cases hx; exact ⟨cell _ _ j7, _, rfl⟩
    | 16, _ => cases hx; exact ⟨cell _ _ k8, _, rfl⟩
    | 17, _ => cases hx; exact ⟨cell _ _ j8, _, rfl⟩
  refine ⟨_, hw, cs, e, fz, rfl, ?_, fun i x hx => ?_⟩
  · have := (get 17 _ rfl).1
    have := (Array.getElem?_eq_some_iff.1 this).1
    simp; omega
  · obtain ⟨h1, n, rfl⟩ := get i x hx
    exact ⟨rfl, _, h1, .int _ _⟩
theorem row1 {w : World} (h : Lim w) {x : Vm.Row} (hx : Vm.hget vmH 1 = some x) : ∃ o, w.heap[1]? = some o ∧ Vm.RowO Vm.R00 1 x o := by
  unfold vmH at hx
  rw [Vm.hget_hset (by omega) (by omega)] at hx
  simp only [if_true] at hx
  cases hx
  obtain ⟨cs, e, fz, hw⟩ := block_of (h.l1 0 (by omega)).1
  have cell : ∀ i v, w.cell? ⟨1, i, none⟩ = some v → cs[i]? = some v := fun i v q => by simpa [World.cell?, hw] using q
  have get : ∀ (i : Nat) (x : Value), ([.int .i64 1, .int .i64 24, .int .i64 1, .int .i64 4, .int .i64 0, .int .i64 24, .int .i64 0, .int .i64 20000, .int .i64 1, .int .i64 9999, .int .i64 1, .int .i64 8, .int .i64 1, .int .i64 99, .int .i64 1, .int .i64 400, .int .i64 1, .int .i64 100000, .int .i64 0, .int .i64 3, .int .i64 0, .int .i64 20, .int .i64 1, .int .i64 1000] : List Value)[i]? = some x → cs[i]? = some x ∧ ∃ n, x = vi n := by
    intro i x hx
    have hi : i < 24 := (List.getElem?_eq_some_iff.1 hx).1
    have k0 := (h.l1 0 (by omega)).1; have j0 := (h.l1 0 (by omega)).2; have k1 := (h.l1 1 (by omega)).1; have j1 := (h.l1 1 (by omega)).2; have k2 := (h.l1 2 (by omega)).1; have j2 := (h.l1 2 (by omega)).2; have k3 := (h.l1 3 (by omega)).1; have j3 := (h.l1 3 (by omega)).2; have k4 := (h.l1 4 (by omega)).1; have j4 := (h.l1 4 (by omega)).2; have k5 := (h.l1 5 (by omega)).1; have j5 := (h.l1 5 (by omega)).2; have k6 := (h.l1 6 (by omega)).1; have j6 := (h.l1 6 (by omega)).2; have k7 := (h.l1 7 (by omega)).1; have j7 := (h.l1 7 (by omega)).2; have k8 := (h.l1 8 (by omega)).1; have j8 := (h.l1 8 (by omega)).2; have k9 := (h.l1 9 (by omega)).1; have j9 := (h.l1 9 (by omega)).2; have k10 := (h.l1 10 (by omega)).1; have j10 := (h.l1 10 (by omega)).2; have k11 := (h.l1 11 (by omega)).1; have j11 := (h.l1 11 (by omega)).2
    match i, hi with
    | 0, _ => cases hx; exact ⟨cell _ _ k0, _, rfl⟩
    | 1, _ => cases hx; exact ⟨cell _ _ j0, _, rfl⟩
    | 2, _ => cases hx; exact ⟨cell _ _ k1, _, rfl⟩
    | 3, _ => cases hx; exact ⟨cell _ _ j1, _, rfl⟩
    | 4, _ => cases hx; exact ⟨cell _ _ k2, _, rfl⟩
    | 5, _ => cases hx; exact ⟨cell _ _ j2, _, rfl⟩
    | 6, _ => cases hx; exact ⟨cell _ _ k3, _, rfl⟩
    | 7, _ => cases hx; exact ⟨cell _ _ j3, _, rfl⟩
    | 8, _ => cases hx; exact ⟨cell _ _ k4, _, rfl⟩
    | 9, _ => cases hx; exact ⟨cell _ _ j4, _, rfl⟩
    | 10, _ => cases hx; exact ⟨cell _ _ k5, _, rfl⟩
    | 11, _ => cases hx; exact ⟨cell _ _ j5, _, rfl⟩
    | 12, _ => cases hx; exact ⟨cell _ _ k6, _, rfl⟩
    | 13, _ => cases hx; exact ⟨cell _ _ j6, _, rfl⟩
    | 14, _ => cases hx; exact ⟨cell _ _ k7, _, rfl⟩
    | 15, _ => cases hx; exact ⟨cell _ _ j7, _, rfl⟩
    | 16, _ => cases hx; exact ⟨cell _ _ k8, _, rfl⟩
    | 17, _ => cases hx; exact ⟨cell _ _ j8, _, rfl⟩
    | 18, _ => cases hx; exact ⟨cell _ _ k9, _, rfl⟩
    | 19, _ => cases hx; exact ⟨cell _ _ j9, _, rfl⟩
    | 20, _ => cases hx; exact ⟨cell _ _ k10, _, rfl⟩
    | 21, _ => cases hx; exact ⟨cell _ _ j10, _, rfl⟩
    | 22, _ => cases hx; exact ⟨cell _ _ k11, _, rfl⟩
    | 23, _ => cases hx; exact ⟨cell _ _ j11, _, rfl⟩
  refine ⟨_, hw, cs, e, fz, rfl, ?_, fun i x hx => ?_⟩
  · have := (get 23 _ rfl).1
    have := (Array.getElem?_eq_some_iff.1 this).1
    simp; omega
  · obtain ⟨h1, n, rfl⟩ := get i x hx
    exact ⟨rfl, _, h1, .int _ _⟩
theorem vm_laid {w : World} (h : Lim w) : Vm.Laid vmH w := by
  intro r x hr hx hn
  have hng : Vm.NG = 2 := rfl
  have : r = 0 ∨ r = 1 := by omega
  rcases this with rfl | rfl
  · exact row0 h hx
  · exact row1 h hx
theorem known_any (w : World) (hl : Lim w) : Calls Tryz.prog 3 #[] w fun e w' => e = .returned (.bool true) ∧ Below w.heap.size w w' :=
  knownF.calls hl.pos (vm_laid hl)
namespace accountKnown
set_option maxRecDepth 100000 in
theorem contract (H : Type) (enc : TypeId × Value → H) (W : World) (base : Nat) (args : Array Value) (ds gs : List (DataW H)) (before : List MemPlace)
    (hval : ∀ (j : Nat) t v, Tryz.f3.params[j]? = some t → args[j]? = some v → Value.okWide Tryz.prog W .any base t v)
    (hW : DataW.Whole enc Tryz.prog Tryz.f3.params.toList Rows.accountKnownSpec.vars false W args.toList ds gs before)
    (hZ : (DataW.weightsEach Tryz.prog (Tryz.f3.params.toList ++ (OpenSpec.ofChange Rows.accountKnownSpec).bare.plain.varTypes Tryz.prog) (ds ++ gs)).all (· ≤ reachBytes) = true)
    (hL : laidMetH Tryz.prog Rows.accountKnownRow.laid W) :
    Calls Tryz.prog 3 args W fun e W' => ∃ v, e = .returned v ∧ Rows.accountKnownSpec.post enc Tryz.prog Tryz.f3 false true false false W args v W' := by
  have hW' := hW
  obtain ⟨p, q, hA0, hV, rfl, hfz, hnd⟩ := hW
  have hA : DataW.TrodAll enc Tryz.prog W 0 (fun _ => true) true Tryz.f3.params.toList args.toList ds p := hA0
  rw [Tryz.params3] at hA hval hZ
  obtain ⟨hargs, rfl, rfl⟩ := trodAll_nil hA
  obtain rfl : args = #[] := by cases args; simp_all
  obtain ⟨rfl, rfl⟩ := trodVars_none hV
  have hlim : Lim W := lim_of hL
  have walk : Calls Tryz.prog 3 #[] W fun e w' => e = .returned (.bool true) ∧ Below W.heap.size W w' := known_any W hlim
  refine walk.mono fun e W' ⟨he, hg⟩ => ?_
  subst he
  exact ⟨_, rfl, post_true hW' rfl rfl (by kernel_rfl) (by rw [Tryz.params3]; decide) hg⟩
theorem laid_met (os : Os) : laidMet Tryz.prog Rows.accountKnownRow.laid ((laidWorld os).forCall (fun _ _ => 0) ⟨#[], #[], []⟩).memory :=
  laidMet_of_run' 8 (by kernel_rfl) (by kernel_rfl)
theorem reads (os : Os) {H : Type} (enc : TypeId × Value → H) : ∃ places, DataW.whole enc Tryz.prog ((laidWorld os).forCall (fun _ _ => 0) ⟨#[], #[], []⟩).memory Tryz.f3.params.toList Rows.accountKnownSpec.vars false (#[] : Array Value).toList 8 = some ([], [], places) :=
  ⟨[], by kernel_rfl⟩
set_option maxRecDepth 100000 in
theorem lifted (os : Os) (started : os.Started) (H : Type) (enc : TypeId × Value → H) (F : Stop.Interp) :
    ReturnsInHanded {} Tryz.checked os 3 .any ((OpenSpec.ofChange Rows.accountKnownSpec).preRow enc Tryz.prog Tryz.f3 Rows.accountKnownRow.domain false Rows.accountKnownRow.laid) (((OpenSpec.ofChange Rows.accountKnownSpec).at F).post enc Tryz.prog Tryz.f3 false true false false) := by
  obtain ⟨places, hx⟩ := reads os enc
  refine returnsInHanded_of_row (C := Tryz.checked) (s := OpenSpec.ofChange Rows.accountKnownSpec) own_knob started (by kernel_rfl) Tryz.func3
    (witness_row_at (enc := enc) (C := Tryz.checked) false (laidWorld os) #[] rfl (by kernel_rfl) (by kernel_rfl) (by kernel_rfl)
      (OpenSpec.preRow_of_cond 8 hx (by kernel_rfl) (fun k hk => by cases hk) (by kernel_rfl) (laid_met os))) ?_
  intro W base args ds gs before hval hW _ _ hZ hL _ _
  exact contract H enc W base args ds gs before hval hW hZ hL
theorem said : Rows.AccountKnownSaid :=
  OpenClaim.holds_of_cond 3 Tryz.f3 rfl rfl rfl rfl rfl rfl rfl ⟨rfl, rfl, rfl, rfl, rfl⟩ rfl rfl rfl rfl rfl (by kernel_rfl) Tryz.func3 (by kernel_rfl)
    (of_decide_eq_true (by kernel_rfl)) (by unfold Func.isWrapper; first | (rw [if_pos (by decide +kernel)]; kernel_rfl) | (rw [if_neg (by decide +kernel)]; exact ⟨rfl, rfl⟩))
    (fun os started H enc _ F => by rw [OpenClaim.pre_eq_preRow]; exact lifted os started H enc F)
theorem plain (f : FuncId) (fn : Func) (hf : Tryz.pinned.checked.prog.funcNamed "wishbook/wishbooklaw07.AccountKnown" = some f) (hfn : Tryz.pinned.checked.prog.funcs[f]? = some fn) :
    false = Tryz.pinned.checked.prog.looks [] ∧ ∀ (j : Nat) t, fn.params[j]? = some t → Tryz.pinned.checked.prog.wantsStandIn t = false := by
  obtain rfl : f = 3 := Option.some.inj ((show Tryz.prog.funcNamed "wishbook/wishbooklaw07.AccountKnown" = some 3 by kernel_rfl).symm.trans hf) |>.symm
  obtain rfl : fn = Tryz.f3 := (Option.some.inj (Tryz.func3.symm.trans hfn)).symm
  refine ⟨by kernel_rfl, fun j t ht => ?_⟩
  rw [Tryz.params3] at ht
  simp at ht
theorem card : Rows.AccountKnownCardSaid :=
  Claim7.holds_tied_plain_at .later [] _ _ _ _ said (fun _ h => by cases h) (by kernel_rfl) (fun _ h => by cases h) accountKnown_row_tie rfl ⟨rfl, rfl⟩ (by kernel_rfl) rfl plain (by kernel_rfl)
end accountKnown
end Go.Proofs.YtkbjcbflnhgdlaeGreatDoor
