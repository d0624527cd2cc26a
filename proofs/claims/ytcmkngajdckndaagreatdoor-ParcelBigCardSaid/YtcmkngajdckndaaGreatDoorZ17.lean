/- ParcelBig's card: for every book and numbers the law answers true, and all that lay reads afterwards as it read before. Conditions: the table of limits holds what the program's text lays, as the card ties it. -/
import Derived.Test.YtcmkngajdckndaaGreatDoorZ16
set_option linter.unusedVariables false
set_option linter.unusedSimpArgs false
namespace Go.Proofs.YtcmkngajdckndaaGreatDoor
open Go Go.Proofs Go.RowKit Go.Deep Go.ChangeShapes Go.WideShapes Go.ChangeAt
open Go.Lm (vi hpW z3u encV enc1)
set_option maxHeartbeats 1000000
set_option maxRecDepth 100000
section
variable {H : Type} {enc : TypeId × Value → H} {w : World}
theorem read_array {t : TypeId} {n : Nat} (hu : Tryz.prog.underlying t = some (.array n 3)) (hk : Tryz.prog.cellsOf t = n) {v : Value} {d : DataW H} {ps : List MemPlace} {base : Nat} (hv : Value.okWide Tryz.prog w .any base t v)
    (h : DataW.Trod enc Tryz.prog w 0 (fun _ => true) true t v d ps) : ∃ l : List Int, l.length = n ∧ v = .agg (l.map vi).toArray := by
  unfold Value.okWide at hv
  rw [hu] at hv
  obtain ⟨cs, rfl, hsz, _⟩ := hv
  obtain ⟨m, h⟩ := h
  obtain ⟨xs, m', _, hx, hl, hlen, hf⟩ := DataW.trod_array hu h
  have key : ∀ i, i < n → ∃ k : Int, cs.toList[i]? = some (vi k) := by
    intro i hi
    have h1 := hf i hi
    rw [k3, List.getElem?_eq_getElem (by omega)] at h1
    obtain ⟨k, e, _, hwf⟩ := DataW.trod_int Tryz.underlying3 h1
    have e0 := congrArg (fun l : List Value => l[0]?) e
    simp only [List.getElem?_take, List.getElem?_drop, List.getElem?_cons_zero] at e0
    exact ⟨k, by simpa [Value.cells] using e0⟩
  obtain ⟨f, hf2⟩ := choose_lt (n := n) (p := fun i (k : Int) => cs.toList[i]? = some (vi k)) key
  refine ⟨(List.range n).map f, by simp, ?_⟩
  congr 1
  rw [← Array.toArray_toList (xs := cs)]
  congr 1
  apply List.ext_getElem?
  intro i
  by_cases hi : i < n
  · rw [hf2 i hi]
    simp [hi]
  · rw [List.getElem?_eq_none (by rw [Array.length_toList, hsz, hk]; omega), List.getElem?_eq_none (by simp; omega)]
end
theorem list3 {α : Type} {l : List α} (h : l.length = 3) : ∃ a b c, l = [a, b, c] := by
  match l, h with
  | [a, b, c], _ => exact ⟨a, b, c, rfl⟩
theorem u62 : Tryz.prog.underlying 62 = some (.array 3 3) := by kernel_rfl
theorem k62 : Tryz.prog.cellsOf 62 = 3 := by kernel_rfl
theorem vl2 {lo : Lm.Lo} {R : Lm.Ren} {a b a' b' : Value} (h : @Lm.VR lo R a a') (k : @Lm.VR lo R b b') : @Lm.VL lo R [a, b] #[a', b'].toList := by
  letI := lo
  exact Lm.VL.cons h (Lm.VL.cons k (Lm.VL.nil R))
theorem vr_ints {lo : Lm.Lo} {R : Lm.Ren} (l : List Int) : @Lm.VR lo R (.agg (l.map vi).toArray) (.agg (l.map vi).toArray) := by
  letI := lo
  have key : ∀ (i : Nat) (x : Value), (l.map vi).toArray[i]? = some x → ∃ n, x = vi n := fun i x h => by
    have := Array.mem_of_getElem? h
    simp only [List.mem_toArray] at this
    obtain ⟨n, _, rfl⟩ := List.mem_map.1 this
    exact ⟨n, rfl⟩
  refine Lm.VR.agg rfl (fun i x x' a b => ?_) (fun i x a => ?_)
  · obtain ⟨n, rfl⟩ := key i x a
    rw [a] at b; cases b
    exact .int _ _
  · obtain ⟨n, rfl⟩ := key i x a
    rfl
theorem big_any {w : World} (hl : Lim w) {A : Option Addr} {ca : Nat} {P : List Pc} {B : Option Addr} {cb : Nat} {K : List KdW} {C : Option Addr} {cc : Nat} {S : List Int} (g f u e : Int)
    (hP : SlW w 4 A ca (P.map Pc.row)) (hK : SlW w 4 B cb (K.map KdW.code)) (hZ : ∀ x ∈ K, x.Lies w) (hS : SlW w 1 C cc (S.map intC)) (n0 n1 n2 : Int) :
    Calls Tryz.prog 8 #[.agg #[.slice A P.length ca, .slice B K.length cb, vi g, vi f, vi u, vi e, .slice C S.length cc], .agg #[vi n0, vi n1, vi n2]] w fun e w' => e = .returned (.bool true) ∧ Below w.heap.size w w' := by
  obtain ⟨h1, h2⟩ := bk_at hl g f u e hP hK hZ hS
  exact Lm.run_world vk.mixed hl.pos (stK_ok _) (c8 stK_only stK_st (m := 17) (Nat.le_refl _) h1 n0 n1 n2) rfl (vl2 h2 (vr_ints [n0, n1, n2]))
namespace parcelBig
theorem contract (H : Type) (enc : TypeId × Value → H) (W : World) (base : Nat) (args : Array Value) (ds gs : List (DataW H)) (before : List MemPlace)
    (hval : ∀ (j : Nat) t v, Tryz.f8.params[j]? = some t → args[j]? = some v → Value.okWide Tryz.prog W .any base t v)
    (hW : DataW.Whole enc Tryz.prog Tryz.f8.params.toList Rows.parcelBigSpec.vars false W args.toList ds gs before)
    (hZ : (DataW.weightsEach Tryz.prog (Tryz.f8.params.toList ++ (OpenSpec.ofChange Rows.parcelBigSpec).bare.plain.varTypes Tryz.prog) (ds ++ gs)).all (· ≤ reachBytes) = true)
    (hL : laidMetH Tryz.prog Rows.parcelBigRow.laid W) :
    Calls Tryz.prog 8 args W fun e W' => ∃ v, e = .returned v ∧ Rows.parcelBigSpec.post enc Tryz.prog Tryz.f8 false true false false W args v W' := by
  have hW' := hW
  obtain ⟨p, q, hA0, hV, rfl, hfz, hnd⟩ := hW
  have hA : DataW.TrodAll enc Tryz.prog W 0 (fun _ => true) true Tryz.f8.params.toList args.toList ds p := hA0
  rw [Tryz.params8] at hA hval hZ
  obtain ⟨v0, vs0, d0, ds0, p0, q0, hargs, rfl, rfl, h0, r0⟩ := trodAll_cons hA
  obtain ⟨v1, vs1, d1, ds1, p1, q1, rfl, rfl, rfl, h1, r1⟩ := trodAll_cons r0
  obtain ⟨rfl, rfl, rfl⟩ := trodAll_nil r1
  obtain rfl : args = #[v0, v1] := by cases args; simp_all
  obtain ⟨rfl, rfl⟩ := trodVars_none hV
  have hfair0 : Fair Tryz.prog 26 d0 := fun n hn => by
    have := List.all_eq_true.1 hZ n (DataW.weights_mem_each (j := 0) rfl rfl n hn)
    simpa using this
  obtain ⟨A, ca, P, B, cb, K, C, cc, S, g, f, u, e, rfl, hP, hK, hKz, hS⟩ := read_book (hval 0 _ v0 rfl rfl) h0 hfair0
  obtain ⟨l, hl, rfl⟩ := read_array u62 k62 (hval 1 _ v1 rfl rfl) h1
  obtain ⟨n0, n1, n2, rfl⟩ := list3 hl
  have hlim : Lim W := lim_of hL
  have walk := big_any hlim g f u e hP hK hKz hS n0 n1 n2
  refine walk.mono fun e W' ⟨he, hg⟩ => ?_
  subst he
  exact ⟨_, rfl, post_true hW' rfl rfl (by kernel_rfl) (by rw [Tryz.params8]; decide) hg⟩
abbrev zero : Array Value := #[.agg #[.slice none 0 0, .slice none 0 0, vi 0, vi 0, vi 0, vi 0, .slice none 0 0], .agg #[vi 0, vi 0, vi 0]]
theorem laid_met (os : Os) : laidMet Tryz.prog Rows.parcelBigRow.laid ((laidWorld os).forCall (fun _ _ => 0) ⟨#[], zero, []⟩).memory :=
  laidMet_of_run' 8 (by kernel_rfl) (by kernel_rfl)
theorem reads (os : Os) {H : Type} (enc : TypeId × Value → H) : ∃ places, DataW.whole enc Tryz.prog ((laidWorld os).forCall (fun _ _ => 0) ⟨#[], zero, []⟩).memory Tryz.f8.params.toList Rows.parcelBigSpec.vars false zero.toList 8 = some ([.agg [.nil, .nil, .lit (.int .i64 0), .lit (.int .i64 0), .lit (.int .i64 0), .lit (.int .i64 0), .nil], .agg [.lit (.int .i64 0), .lit (.int .i64 0), .lit (.int .i64 0)]], [], places) :=
  ⟨[], by kernel_rfl⟩
theorem lifted (os : Os) (started : os.Started) (H : Type) (enc : TypeId × Value → H) (F : Stop.Interp) :
    ReturnsInHanded {} Tryz.checked os 8 .any ((OpenSpec.ofChange Rows.parcelBigSpec).preRow enc Tryz.prog Tryz.f8 Rows.parcelBigRow.domain false Rows.parcelBigRow.laid) (((OpenSpec.ofChange Rows.parcelBigSpec).at F).post enc Tryz.prog Tryz.f8 false true false false) := by
  obtain ⟨places, hx⟩ := reads os enc
  refine returnsInHanded_of_row (C := Tryz.checked) (s := OpenSpec.ofChange Rows.parcelBigSpec) own_knob started (by kernel_rfl) Tryz.func8
    (witness_row_at (enc := enc) (C := Tryz.checked) false (laidWorld os) zero rfl (by kernel_rfl) (by kernel_rfl) (by kernel_rfl)
      (OpenSpec.preRow_of_cond 8 hx (by kernel_rfl) (fun k hk => by cases hk) (by kernel_rfl) (laid_met os))) ?_
  intro W base args ds gs before hval hW _ _ hZ hL _ _
  exact contract H enc W base args ds gs before hval hW hZ hL
theorem said : Rows.ParcelBigSaid :=
  OpenClaim.holds_of_cond 8 Tryz.f8 rfl rfl rfl rfl rfl rfl rfl ⟨rfl, rfl, rfl, rfl, rfl⟩ rfl rfl rfl rfl rfl (by kernel_rfl) Tryz.func8 (by kernel_rfl)
    (of_decide_eq_true (by kernel_rfl)) (by unfold Func.isWrapper; first | (rw [if_pos (by decide +kernel)]; kernel_rfl) | (rw [if_neg (by decide +kernel)]; exact ⟨rfl, rfl⟩))
    (fun os started H enc _ F => by rw [OpenClaim.pre_eq_preRow]; exact lifted os started H enc F)
theorem plain (f : FuncId) (fn : Func) (hf : Tryz.pinned.checked.prog.funcNamed "wishbook/wishbooklaw06.ParcelBig" = some f) (hfn : Tryz.pinned.checked.prog.funcs[f]? = some fn) :
    false = Tryz.pinned.checked.prog.looks [] ∧ ∀ (j : Nat) t, fn.params[j]? = some t → Tryz.pinned.checked.prog.wantsStandIn t = false := by
  obtain rfl : f = 8 := Option.some.inj ((show Tryz.prog.funcNamed "wishbook/wishbooklaw06.ParcelBig" = some 8 by kernel_rfl).symm.trans hf) |>.symm
  obtain rfl : fn = Tryz.f8 := (Option.some.inj (Tryz.func8.symm.trans hfn)).symm
  refine ⟨by kernel_rfl, fun j t ht => ?_⟩
  rw [Tryz.params8] at ht
  have hm := Array.mem_of_getElem? ht
  simp only [List.mem_toArray, List.mem_cons, List.not_mem_nil, or_false] at hm
  rcases hm with rfl | rfl
  · exact (show Tryz.prog.wantsStandIn 26 = false by kernel_rfl)
  · exact (show Tryz.prog.wantsStandIn 62 = false by kernel_rfl)
theorem card : Rows.ParcelBigCardSaid :=
  Claim7.holds_tied_plain_at .later [] _ _ _ _ said (fun _ h => by cases h) (by kernel_rfl) (fun _ h => by cases h) parcelBig_row_tie rfl ⟨rfl, rfl⟩ (by kernel_rfl) rfl plain (by kernel_rfl)
end parcelBig
end Go.Proofs.YtcmkngajdckndaaGreatDoor
