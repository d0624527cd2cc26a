/- ParcelStamp's card: for every book, cents and numbers the law answers true, and all that lay reads afterwards as it read before. Conditions: the table of limits holds what the program's text lays, as the card ties it. -/
import Derived.Test.YtcmkngajdckndaaGreatDoorZ15
import Derived.Test.YtcmkngajdckndaaGreatDoorZ16
set_option linter.unusedVariables false
set_option linter.unusedSimpArgs false
namespace Go.Proofs.YtcmkngajdckndaaGreatDoor
open Go Go.Proofs Go.RowKit Go.Deep Go.ChangeShapes Go.WideShapes Go.ChangeAt
open Go.Lm (vi hpW argOf encV enc1)
set_option maxHeartbeats 1000000
set_option maxRecDepth 100000
section
variable {H : Type} {enc : TypeId × Value → H} {w : World}
theorem read_list {v : Value} {d : DataW H} {ps : List MemPlace} {base : Nat} (hv : Value.okWide Tryz.prog w .any base 24 v) (h : DataW.Trod enc Tryz.prog w 0 (fun _ => true) true 24 v d ps) (hd : Fair Tryz.prog 24 d) :
    ∃ (A : Option Addr) (ca : Nat) (zs : List Int), v = .slice A zs.length ca ∧ SlW w 1 A ca (zs.map intC) := by
  obtain ⟨n, h⟩ := h
  obtain ⟨A, ca, zs, e, q⟩ := read_ints h hd
  refine ⟨A, ca, zs, ?_, q⟩
  unfold Value.okWide at hv
  rw [Tryz.underlying24] at hv
  have hv : Cell.okWide Tryz.prog w .any base 24 v := hv
  unfold Cell.okWide at hv
  rw [Tryz.underlying24] at hv
  cases v with
  | agg cs =>
    have hv : Cell.ok Tryz.prog w .any base 24 (.agg cs) := hv
    unfold Cell.ok at hv
    rw [Tryz.underlying24] at hv
    first | exact hv.elim | simp at hv
  | slice a n c => simp [Value.cells] at e; obtain ⟨rfl, rfl, rfl⟩ := e; rfl
  | _ => simp [Value.cells] at e
end
theorem vl3 {lo : Lm.Lo} {R : Lm.Ren} {a b c a' b' c' : Value} (h : @Lm.VR lo R a a') (k : @Lm.VR lo R b b') (l : @Lm.VR lo R c c') : @Lm.VL lo R [a, b, c] #[a', b', c'].toList := by
  letI := lo
  exact Lm.VL.cons h (Lm.VL.cons k (Lm.VL.cons l (Lm.VL.nil R)))
theorem ints_vr {w : World} (hl : Lim w) {A : Option Addr} {ca : Nat} {zs : List Int} (hS : SlW w 1 A ca (zs.map intC)) : @Lm.VR (Lm.worldLo w hl.pos) (Lm.renOf w) (enc1 w (.slice A zs.length ca)) (.slice A zs.length ca) := by
  letI := Lm.worldLo w hl.pos
  obtain ⟨x, hx⟩ := Option.isSome_iff_exists.1 (ints_world hS).1
  have e1 : enc1 w (.slice A zs.length ca) = x := by unfold enc1; rw [hx]; rfl
  rw [e1]; exact Lm.enc_vr hl.pos hx
theorem stamp_any {w : World} (hl : Lim w) {A : Option Addr} {ca : Nat} {P : List Pc} {B : Option Addr} {cb : Nat} {K : List KdW} {C : Option Addr} {cc : Nat} {S : List Int} (g f u e : Int)
    (hP : SlW w 4 A ca (P.map Pc.row)) (hK : SlW w 4 B cb (K.map KdW.code)) (hZ : ∀ x ∈ K, x.Lies w) (hS : SlW w 1 C cc (S.map intC)) (c : Int) {D : Option Addr} {cd : Nat} {zs : List Int} (hD : SlW w 1 D cd (zs.map intC)) :
    Calls Tryz.prog 11 #[.agg #[.slice A P.length ca, .slice B K.length cb, vi g, vi f, vi u, vi e, .slice C S.length cc], vi c, .slice D zs.length cd] w fun e w' => e = .returned (.bool true) ∧ Below w.heap.size w w' := by
  obtain ⟨h1, h2⟩ := bk_at hl g f u e hP hK hZ hS
  have hlen : zs.length ≤ 140737488355328 := by have := hD.len; have := hD.few; rw [List.length_map] at *; omega
  exact Lm.run_world vk.mixed hl.pos (stK_ok _) (c11 stK_only stK_st (m := 17) (Nat.le_refl _) h1 c hlen (ints_world hD).2) rfl (vl3 h2 (by letI := Lm.worldLo w hl.pos; exact Lm.VR.int _ _) (ints_vr hl hD))
namespace parcelStamp
theorem contract (H : Type) (enc : TypeId × Value → H) (W : World) (base : Nat) (args : Array Value) (ds gs : List (DataW H)) (before : List MemPlace)
    (hval : ∀ (j : Nat) t v, Tryz.f11.params[j]? = some t → args[j]? = some v → Value.okWide Tryz.prog W .any base t v)
    (hW : DataW.Whole enc Tryz.prog Tryz.f11.params.toList Rows.parcelStampSpec.vars false W args.toList ds gs before)
    (hZ : (DataW.weightsEach Tryz.prog (Tryz.f11.params.toList ++ (OpenSpec.ofChange Rows.parcelStampSpec).bare.plain.varTypes Tryz.prog) (ds ++ gs)).all (· ≤ reachBytes) = true)
    (hL : laidMetH Tryz.prog Rows.parcelStampRow.laid W) :
    Calls Tryz.prog 11 args W fun e W' => ∃ v, e = .returned v ∧ Rows.parcelStampSpec.post enc Tryz.prog Tryz.f11 false true false false W args v W' := by
  have hW' := hW
  obtain ⟨p, q, hA0, hV, rfl, hfz, hnd⟩ := hW
  have hA : DataW.TrodAll enc Tryz.prog W 0 (fun _ => true) true Tryz.f11.params.toList args.toList ds p := hA0
  rw [Tryz.params11] at hA hval hZ
  obtain ⟨v0, vs0, d0, ds0, p0, q0, hargs, rfl, rfl, h0, r0⟩ := trodAll_cons hA
  obtain ⟨v1, vs1, d1, ds1, p1, q1, rfl, rfl, rfl, h1, r1⟩ := trodAll_cons r0
  obtain ⟨v2, vs2, d2, ds2, p2, q2, rfl, rfl, rfl, h2, r2⟩ := trodAll_cons r1
  obtain ⟨rfl, rfl, rfl⟩ := trodAll_nil r2
  obtain rfl : args = #[v0, v1, v2] := by cases args; simp_all
  obtain ⟨rfl, rfl⟩ := trodVars_none hV
  have hfair0 : Fair Tryz.prog 26 d0 := fun n hn => by
    have := List.all_eq_true.1 hZ n (DataW.weights_mem_each (j := 0) rfl rfl n hn)
    simpa using this
  obtain ⟨A, ca, P, B, cb, K, C, cc, S, g, f, u, e, rfl, hP, hK, hKz, hS⟩ := read_book (hval 0 _ v0 rfl rfl) h0 hfair0
  obtain ⟨zone, rfl⟩ : ∃ zone : Int, v1 = vi zone := okWide_int Tryz.underlying3 (show Value.okWide Tryz.prog W .any base 3 v1 from hval 1 _ v1 rfl rfl)
  have hfair2 : Fair Tryz.prog 24 d2 := fun n hn => by
    have := List.all_eq_true.1 hZ n (DataW.weights_mem_each (j := 2) rfl rfl n hn)
    simpa using this
  obtain ⟨D, cd, zs, rfl, hD⟩ := read_list (hval 2 _ v2 rfl rfl) h2 hfair2
  have hlim : Lim W := lim_of hL
  have walk := stamp_any hlim g f u e hP hK hKz hS zone hD
  refine walk.mono fun e W' ⟨he, hg⟩ => ?_
  subst he
  exact ⟨_, rfl, post_true hW' rfl rfl (by kernel_rfl) (by rw [Tryz.params11]; decide) hg⟩
abbrev zero : Array Value := #[.agg #[.slice none 0 0, .slice none 0 0, vi 0, vi 0, vi 0, vi 0, .slice none 0 0], vi 0, .slice none 0 0]
theorem laid_met (os : Os) : laidMet Tryz.prog Rows.parcelStampRow.laid ((laidWorld os).forCall (fun _ _ => 0) ⟨#[], zero, []⟩).memory :=
  laidMet_of_run' 8 (by kernel_rfl) (by kernel_rfl)
theorem reads (os : Os) {H : Type} (enc : TypeId × Value → H) : ∃ places, DataW.whole enc Tryz.prog ((laidWorld os).forCall (fun _ _ => 0) ⟨#[], zero, []⟩).memory Tryz.f11.params.toList Rows.parcelStampSpec.vars false zero.toList 8 = some ([.agg [.nil, .nil, .lit (.int .i64 0), .lit (.int .i64 0), .lit (.int .i64 0), .lit (.int .i64 0), .nil], .lit (.int .i64 0), .nil], [], places) :=
  ⟨[], by kernel_rfl⟩
theorem lifted (os : Os) (started : os.Started) (H : Type) (enc : TypeId × Value → H) (F : Stop.Interp) :
    ReturnsInHanded {} Tryz.checked os 11 .any ((OpenSpec.ofChange Rows.parcelStampSpec).preRow enc Tryz.prog Tryz.f11 Rows.parcelStampRow.domain false Rows.parcelStampRow.laid) (((OpenSpec.ofChange Rows.parcelStampSpec).at F).post enc Tryz.prog Tryz.f11 false true false false) := by
  obtain ⟨places, hx⟩ := reads os enc
  refine returnsInHanded_of_row (C := Tryz.checked) (s := OpenSpec.ofChange Rows.parcelStampSpec) own_knob started (by kernel_rfl) Tryz.func11
    (witness_row_at (enc := enc) (C := Tryz.checked) false (laidWorld os) zero rfl (by kernel_rfl) (by kernel_rfl) (by kernel_rfl)
      (OpenSpec.preRow_of_cond 8 hx (by kernel_rfl) (fun k hk => by cases hk) (by kernel_rfl) (laid_met os))) ?_
  intro W base args ds gs before hval hW _ _ hZ hL _ _
  exact contract H enc W base args ds gs before hval hW hZ hL
theorem said : Rows.ParcelStampSaid :=
  OpenClaim.holds_of_cond 11 Tryz.f11 rfl rfl rfl rfl rfl rfl rfl ⟨rfl, rfl, rfl, rfl, rfl⟩ rfl rfl rfl rfl rfl (by kernel_rfl) Tryz.func11 (by kernel_rfl)
    (of_decide_eq_true (by kernel_rfl)) (by unfold Func.isWrapper; first | (rw [if_pos (by decide +kernel)]; kernel_rfl) | (rw [if_neg (by decide +kernel)]; exact ⟨rfl, rfl⟩))
    (fun os started H enc _ F => by rw [OpenClaim.pre_eq_preRow]; exact lifted os started H enc F)
theorem plain (f : FuncId) (fn : Func) (hf : Tryz.pinned.checked.prog.funcNamed "wishbook/wishbooklaw06.ParcelStamp" = some f) (hfn : Tryz.pinned.checked.prog.funcs[f]? = some fn) :
    false = Tryz.pinned.checked.prog.looks [] ∧ ∀ (j : Nat) t, fn.params[j]? = some t → Tryz.pinned.checked.prog.wantsStandIn t = false := by
  obtain rfl : f = 11 := Option.some.inj ((show Tryz.prog.funcNamed "wishbook/wishbooklaw06.ParcelStamp" = some 11 by kernel_rfl).symm.trans hf) |>.symm
  obtain rfl : fn = Tryz.f11 := (Option.some.inj (Tryz.func11.symm.trans hfn)).symm
  refine ⟨by kernel_rfl, fun j t ht => ?_⟩
  rw [Tryz.params11] at ht
  have hm := Array.mem_of_getElem? ht
  simp only [List.mem_toArray, List.mem_cons, List.not_mem_nil, or_false] at hm
  rcases hm with rfl | rfl | rfl
  · exact (show Tryz.prog.wantsStandIn 26 = false by kernel_rfl)
  · exact (show Tryz.prog.wantsStandIn 3 = false by kernel_rfl)
  · exact (show Tryz.prog.wantsStandIn 24 = false by kernel_rfl)
theorem card : Rows.ParcelStampCardSaid :=
  Claim7.holds_tied_plain_at .later [] _ _ _ _ said (fun _ h => by cases h) (by kernel_rfl) (fun _ h => by cases h) parcelStamp_row_tie rfl ⟨rfl, rfl⟩ (by kernel_rfl) rfl plain (by kernel_rfl)
end parcelStamp
end Go.Proofs.YtcmkngajdckndaaGreatDoor
