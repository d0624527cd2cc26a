/- ParcelStamps's card: for every book and cents the law answers true, and all that lay reads afterwards as it read before. Conditions: the table of limits holds what the program's text lays, as the card ties it. -/
import Derived.Test.YtcmkngajdckndaaGreatDoorZ14
import Derived.Test.YtcmkngajdckndaaGreatDoorZ15
set_option linter.unusedVariables false
set_option linter.unusedSimpArgs false
namespace Go.Proofs.YtcmkngajdckndaaGreatDoor
open Go Go.Proofs Go.RowKit Go.Deep Go.ChangeShapes Go.WideShapes Go.ChangeAt
open Go.Lm (vi hpW argOf encV enc1)
set_option maxHeartbeats 1000000
set_option maxRecDepth 100000
theorem sc_world {w : World} {A : Option Addr} {ca : Nat} {P : List Pc} {B : Option Addr} {cb : Nat} {K : List KdW} {C : Option Addr} {cc : Nat} {S : List Int} (g f u e : Int) (hS : SlW w 1 C cc (S.map intC)) : ScOk (bkW w A ca P B cb K C cc S g f u e) := by
  have hl := hS.len
  have hh := half_big hS.few
  have hs := (ints_world hS).1
  have hy := hS.lies
  rw [List.length_map] at hl
  show ∃ a c, enc1 w (.slice C S.length cc) = .slice a S.length c ∧ S.length ≤ c ∧ c < Lm.HALF
  rcases Nat.eq_zero_or_pos cc with h0 | h0
  · subst h0
    have hn : S.length = 0 := by omega
    rw [hn]
    cases C with
    | none => exact ⟨none, 0, rfl, Nat.le_refl _, hh⟩
    | some a => exact ⟨some ⟨w.heap.size + 1, 0, none⟩, 0, rfl, Nat.le_refl _, hh⟩
  · obtain ⟨b, off, rfl, _, _, _⟩ := hy h0
    unfold enc1
    unfold encV at hs ⊢
    simp only at hs ⊢
    rw [if_neg (by omega)] at hs ⊢
    split at hs
    · rename_i q
      rw [if_pos q]
      exact ⟨_, cc, rfl, hl, hh⟩
    · cases hs
theorem vl2 {lo : Lm.Lo} {R : Lm.Ren} {a b a' b' : Value} (h : @Lm.VR lo R a a') (k : @Lm.VR lo R b b') : @Lm.VL lo R [a, b] #[a', b'].toList := by
  letI := lo
  exact Lm.VL.cons h (Lm.VL.cons k (Lm.VL.nil R))
theorem stamps_any {w : World} (hl : Lim w) {A : Option Addr} {ca : Nat} {P : List Pc} {B : Option Addr} {cb : Nat} {K : List KdW} {C : Option Addr} {cc : Nat} {S : List Int} (g f u e : Int)
    (hP : SlW w 4 A ca (P.map Pc.row)) (hK : SlW w 4 B cb (K.map KdW.code)) (hZ : ∀ x ∈ K, x.Lies w) (hS : SlW w 1 C cc (S.map intC)) (c : Int) :
    Calls Tryz.prog 5 #[.agg #[.slice A P.length ca, .slice B K.length cb, vi g, vi f, vi u, vi e, .slice C S.length cc], vi c] w fun e w' => e = .returned (.bool true) ∧ Below w.heap.size w w' := by
  obtain ⟨h1, h2⟩ := bk_at hl g f u e hP hK hZ hS
  exact Lm.run_world vk.mixed hl.pos (stK_ok _) (c5 stK_only stK_st (m := 17) (Nat.le_refl _) h1 (sc_world g f u e hS) c) rfl (vl2 h2 (by letI := Lm.worldLo w hl.pos; exact Lm.VR.int _ _))
namespace parcelStamps
theorem contract (H : Type) (enc : TypeId × Value → H) (W : World) (base : Nat) (args : Array Value) (ds gs : List (DataW H)) (before : List MemPlace)
    (hval : ∀ (j : Nat) t v, Tryz.f5.params[j]? = some t → args[j]? = some v → Value.okWide Tryz.prog W .any base t v)
    (hW : DataW.Whole enc Tryz.prog Tryz.f5.params.toList Rows.parcelStampsSpec.vars false W args.toList ds gs before)
    (hZ : (DataW.weightsEach Tryz.prog (Tryz.f5.params.toList ++ (OpenSpec.ofChange Rows.parcelStampsSpec).bare.plain.varTypes Tryz.prog) (ds ++ gs)).all (· ≤ reachBytes) = true)
    (hL : laidMetH Tryz.prog Rows.parcelStampsRow.laid W) :
    Calls Tryz.prog 5 args W fun e W' => ∃ v, e = .returned v ∧ Rows.parcelStampsSpec.post enc Tryz.prog Tryz.f5 false true false false W args v W' := by
  have hW' := hW
  obtain ⟨p, q, hA0, hV, rfl, hfz, hnd⟩ := hW
  have hA : DataW.TrodAll enc Tryz.prog W 0 (fun _ => true) true Tryz.f5.params.toList args.toList ds p := hA0
  rw [Tryz.params5] at hA hval hZ
  obtain ⟨v0, vs0, d0, ds0, p0, q0, hargs, rfl, rfl, h0, r0⟩ := trodAll_cons hA
  obtain ⟨v1, vs1, d1, ds1, p1, q1, rfl, rfl, rfl, h1, r1⟩ := trodAll_cons r0
  obtain ⟨rfl, rfl, rfl⟩ := trodAll_nil r1
  obtain rfl : args = #[v0, v1] := by cases args; simp_all
  obtain ⟨rfl, rfl⟩ := trodVars_none hV
  have hfair0 : Fair Tryz.prog 26 d0 := fun n hn => by
    have := List.all_eq_true.1 hZ n (DataW.weights_mem_each (j := 0) rfl rfl n hn)
    simpa using this
  obtain ⟨A, ca, P, B, cb, K, C, cc, S, g, f, u, e, rfl, hP, hK, hKz, hS⟩ := read_book (hval 0 _ v0 rfl rfl) h0 hfair0
  obtain ⟨zone, rfl⟩ : ∃ zone : Int, v1 = vi zone := okWide_int Tryz.underlying3 (show Value.okWide Tryz.prog W .any base 3 v1 from hval 1 _ v1 rfl rfl)
  have hlim : Lim W := lim_of hL
  have walk := stamps_any hlim g f u e hP hK hKz hS zone
  refine walk.mono fun e W' ⟨he, hg⟩ => ?_
  subst he
  exact ⟨_, rfl, post_true hW' rfl rfl (by kernel_rfl) (by rw [Tryz.params5]; decide) hg⟩
abbrev zero : Array Value := #[.agg #[.slice none 0 0, .slice none 0 0, vi 0, vi 0, vi 0, vi 0, .slice none 0 0], vi 0]
theorem laid_met (os : Os) : laidMet Tryz.prog Rows.parcelStampsRow.laid ((laidWorld os).forCall (fun _ _ => 0) ⟨#[], zero, []⟩).memory :=
  laidMet_of_run' 8 (by kernel_rfl) (by kernel_rfl)
theorem reads (os : Os) {H : Type} (enc : TypeId × Value → H) : ∃ places, DataW.whole enc Tryz.prog ((laidWorld os).forCall (fun _ _ => 0) ⟨#[], zero, []⟩).memory Tryz.f5.params.toList Rows.parcelStampsSpec.vars false zero.toList 8 = some ([.agg [.nil, .nil, .lit (.int .i64 0), .lit (.int .i64 0), .lit (.int .i64 0), .lit (.int .i64 0), .nil], .lit (.int .i64 0)], [], places) :=
  ⟨[], by kernel_rfl⟩
theorem lifted (os : Os) (started : os.Started) (H : Type) (enc : TypeId × Value → H) (F : Stop.Interp) :
    ReturnsInHanded {} Tryz.checked os 5 .any ((OpenSpec.ofChange Rows.parcelStampsSpec).preRow enc Tryz.prog Tryz.f5 Rows.parcelStampsRow.domain false Rows.parcelStampsRow.laid) (((OpenSpec.ofChange Rows.parcelStampsSpec).at F).post enc Tryz.prog Tryz.f5 false true false false) := by
  obtain ⟨places, hx⟩ := reads os enc
  refine returnsInHanded_of_row (C := Tryz.checked) (s := OpenSpec.ofChange Rows.parcelStampsSpec) own_knob started (by kernel_rfl) Tryz.func5
    (witness_row_at (enc := enc) (C := Tryz.checked) false (laidWorld os) zero rfl (by kernel_rfl) (by kernel_rfl) (by kernel_rfl)
      (OpenSpec.preRow_of_cond 8 hx (by kernel_rfl) (fun k hk => by cases hk) (by kernel_rfl) (laid_met os))) ?_
  intro W base args ds gs before hval hW _ _ hZ hL _ _
  exact contract H enc W base args ds gs before hval hW hZ hL
theorem said : Rows.ParcelStampsSaid :=
  OpenClaim.holds_of_cond 5 Tryz.f5 rfl rfl rfl rfl rfl rfl rfl ⟨rfl, rfl, rfl, rfl, rfl⟩ rfl rfl rfl rfl rfl (by kernel_rfl) Tryz.func5 (by kernel_rfl)
    (of_decide_eq_true (by kernel_rfl)) (by unfold Func.isWrapper; first | (rw [if_pos (by decide +kernel)]; kernel_rfl) | (rw [if_neg (by decide +kernel)]; exact ⟨rfl, rfl⟩))
    (fun os started H enc _ F => by rw [OpenClaim.pre_eq_preRow]; exact lifted os started H enc F)
theorem plain (f : FuncId) (fn : Func) (hf : Tryz.pinned.checked.prog.funcNamed "wishbook/wishbooklaw06.ParcelStamps" = some f) (hfn : Tryz.pinned.checked.prog.funcs[f]? = some fn) :
    false = Tryz.pinned.checked.prog.looks [] ∧ ∀ (j : Nat) t, fn.params[j]? = some t → Tryz.pinned.checked.prog.wantsStandIn t = false := by
  obtain rfl : f = 5 := Option.some.inj ((show Tryz.prog.funcNamed "wishbook/wishbooklaw06.ParcelStamps" = some 5 by kernel_rfl).symm.trans hf) |>.symm
  obtain rfl : fn = Tryz.f5 := (Option.some.inj (Tryz.func5.symm.trans hfn)).symm
  refine ⟨by kernel_rfl, fun j t ht => ?_⟩
  rw [Tryz.params5] at ht
  have hm := Array.mem_of_getElem? ht
  simp only [List.mem_toArray, List.mem_cons, List.not_mem_nil, or_false] at hm
  rcases hm with rfl | rfl
  · exact (show Tryz.prog.wantsStandIn 26 = false by kernel_rfl)
  · exact (show Tryz.prog.wantsStandIn 3 = false by kernel_rfl)
theorem card : Rows.ParcelStampsCardSaid :=
  Claim7.holds_tied_plain_at .later [] _ _ _ _ said (fun _ h => by cases h) (by kernel_rfl) (fun _ h => by cases h) parcelStamps_row_tie rfl ⟨rfl, rfl⟩ (by kernel_rfl) rfl plain (by kernel_rfl)
end parcelStamps
end Go.Proofs.YtcmkngajdckndaaGreatDoor
