/- ParcelPosts's card: for every book, parcel and zone the law answers true, and all that lay reads afterwards as it read before. Conditions: the table of limits holds what the program's text lays, as the card ties it. -/
import Derived.Test.YtcmkngajdckndaaGreatDoorZ16
set_option linter.unusedVariables false
set_option linter.unusedSimpArgs false
namespace Go.Proofs.YtcmkngajdckndaaGreatDoor
open Go Go.Proofs Go.RowKit Go.Deep Go.ChangeShapes Go.WideShapes Go.ChangeAt
open Go.Lm (vi hpW z3o encV enc1)
set_option maxHeartbeats 1000000
set_option maxRecDepth 100000
section
variable {H : Type} {enc : TypeId × Value → H} {w : World}
theorem u28 : Tryz.prog.underlying 28 = some (.struct (Tryz.prog.fieldsOf 28)) := by kernel_rfl
theorem l28 : ((Tryz.prog.fieldsOf 28).toList.map fun f => (f.type, f.offset)) = [(3, 0), (24, 1)] := by kernel_rfl
theorem k28c : Tryz.prog.cellsOf 28 = 2 := by kernel_rfl
theorem zgg {v : Value} {d : DataW H} {ps : List MemPlace} {base : Nat} (hv : Value.okWide Tryz.prog w .any base 28 v) (h : DataW.Trod enc Tryz.prog w 0 (fun _ => true) true 28 v d ps) (hd : Fair Tryz.prog 28 d) :
    ∃ (k : Int) (A : Option Addr) (ca : Nat) (zs : List Int), v = .agg #[vi k, .slice A zs.length ca] ∧ SlW w 1 A ca (zs.map intC) := by
  unfold Value.okWide at hv
  rw [u28] at hv
  obtain ⟨cs, rfl, hsz, _⟩ := hv
  obtain ⟨n, h⟩ := h
  obtain ⟨hl, m, hm⟩ := z58 u28 l28 h hd
  obtain ⟨c0, c1, hcs⟩ := zsj (hl.trans k28c)
  have hcs' : cs.toList = [c0, c1] := hcs
  have ea : cs = #[c0, c1] := by rw [← Array.toArray_toList (xs := cs), hcs']
  subst ea
  obtain ⟨z0, h0, y0⟩ := hm 0 _ _ rfl
  obtain ⟨z1, h1, y1⟩ := hm 1 _ _ rfl
  rw [k3] at h0
  rw [k24c] at h1
  obtain ⟨k, e0⟩ := z2f h0
  obtain ⟨A, ca, zs, e1, q⟩ := z9w h1 y1
  simp [Value.cells] at e0 e1
  exact ⟨k, A, ca, zs, by rw [e0, e1], q⟩
end
theorem vl3 {lo : Lm.Lo} {R : Lm.Ren} {a b c a' b' c' : Value} (h : @Lm.VR lo R a a') (k : @Lm.VR lo R b b') (l : @Lm.VR lo R c c') : @Lm.VL lo R [a, b, c] #[a', b', c'].toList := by
  letI := lo
  exact Lm.VL.cons h (Lm.VL.cons k (Lm.VL.cons l (Lm.VL.nil R)))
theorem zwa {w : World} (hl : Lim w) (k : Int) {A : Option Addr} {ca : Nat} {zs : List Int} (hS : SlW w 1 A ca (zs.map intC)) :
    (Pa.mk k zs (enc1 w (.slice A zs.length ca))).At (hpW w) (z3o w) ∧ @Lm.VR (Lm.worldLo w hl.pos) (Lm.renOf w) (.agg (Pa.mk k zs (enc1 w (.slice A zs.length ca))).cells.toArray) (.agg #[vi k, .slice A zs.length ca]) := by
  have s := z6r hS
  refine ⟨⟨s.2, ?_⟩, ?_⟩
  · have := hS.len; have := hS.few; rw [List.length_map] at *; show zs.length ≤ _; omega
  · letI := Lm.worldLo w hl.pos
    obtain ⟨x, hx⟩ := Option.isSome_iff_exists.1 s.1
    have e1 : enc1 w (.slice A zs.length ca) = x := by unfold enc1; rw [hx]; rfl
    have vr : Lm.VR (Lm.renOf w) (enc1 w (.slice A zs.length ca)) (.slice A zs.length ca) := by rw [e1]; exact Lm.enc_vr hl.pos hx
    have one : (enc1 w (.slice A zs.length ca)).oneCell' = true := by rw [e1]; exact Lm.enc_one hx
    refine Lm.VR.agg rfl (fun i x x' a b => ?_) (fun i x a => ?_)
    · have hi : i < 2 := (Array.getElem?_eq_some_iff.1 b).1
      match i, hi with
      | 0, _ => cases a; cases b; exact .int _ _
      | 1, _ => cases a; cases b; exact vr
    · have hi : i < 2 := (Array.getElem?_eq_some_iff.1 a).1
      match i, hi with
      | 0, _ => cases a; rfl
      | 1, _ => cases a; exact one
theorem zku {w : World} (hl : Lim w) {A : Option Addr} {ca : Nat} {P : List Pc} {B : Option Addr} {cb : Nat} {K : List KdW} {C : Option Addr} {cc : Nat} {S : List Int} (g f u e : Int)
    (hP : SlW w 4 A ca (P.map Pc.row)) (hK : SlW w 4 B cb (K.map KdW.code)) (hZ : ∀ x ∈ K, x.Lies w) (hS : SlW w 1 C cc (S.map intC)) (k : Int) {D : Option Addr} {cd : Nat} {zs : List Int} (hD : SlW w 1 D cd (zs.map intC)) (zone : Int) :
    Calls Tryz.prog 3 #[.agg #[.slice A P.length ca, .slice B K.length cb, vi g, vi f, vi u, vi e, .slice C S.length cc], .agg #[vi k, .slice D zs.length cd], vi zone] w fun e w' => e = .returned (.bool true) ∧ Below w.heap.size w w' := by
  obtain ⟨h1, h2⟩ := zwi hl g f u e hP hK hZ hS
  obtain ⟨h3, h4⟩ := zwa hl k hD
  exact Lm.run_world vk.mixed hl.pos (zto _) (c3 znw ztn (m := 17) (Nat.le_refl _) h1 h3 zone) rfl (vl3 h2 h4 (by letI := Lm.worldLo w hl.pos; exact Lm.VR.int _ _))
namespace parcelPosts
theorem zor (H : Type) (enc : TypeId × Value → H) (W : World) (base : Nat) (args : Array Value) (ds gs : List (DataW H)) (before : List MemPlace)
    (hval : ∀ (j : Nat) t v, Tryz.f3.params[j]? = some t → args[j]? = some v → Value.okWide Tryz.prog W .any base t v)
    (hW : DataW.Whole enc Tryz.prog Tryz.f3.params.toList Rows.parcelPostsSpec.vars false W args.toList ds gs before)
    (hZ : (DataW.weightsEach Tryz.prog (Tryz.f3.params.toList ++ (OpenSpec.ofChange Rows.parcelPostsSpec).bare.plain.varTypes Tryz.prog) (ds ++ gs)).all (· ≤ reachBytes) = true)
    (hL : laidMetH Tryz.prog Rows.parcelPostsRow.laid W) :
    Calls Tryz.prog 3 args W fun e W' => ∃ v, e = .returned v ∧ Rows.parcelPostsSpec.post enc Tryz.prog Tryz.f3 false true false false W args v W' := by
  have hW' := hW
  obtain ⟨p, q, hA0, hV, rfl, hfz, hnd⟩ := hW
  have hA : DataW.TrodAll enc Tryz.prog W 0 (fun _ => true) true Tryz.f3.params.toList args.toList ds p := hA0
  rw [Tryz.params3] at hA hval hZ
  obtain ⟨v0, vs0, d0, ds0, p0, q0, hargs, rfl, rfl, h0, r0⟩ := trodAll_cons hA
  obtain ⟨v1, vs1, d1, ds1, p1, q1, rfl, rfl, rfl, h1, r1⟩ := trodAll_cons r0
  obtain ⟨v2, vs2, d2, ds2, p2, q2, rfl, rfl, rfl, h2, r2⟩ := trodAll_cons r1
  obtain ⟨rfl, rfl, rfl⟩ := trodAll_nil r2
  obtain rfl : args = #[v0, v1, v2] := by cases args; simp_all
  obtain ⟨rfl, rfl⟩ := trodVars_none hV
  have hfair0 : Fair Tryz.prog 26 d0 := fun n hn => by
    have := List.all_eq_true.1 hZ n (DataW.weights_mem_each (j := 0) rfl rfl n hn)
    simpa using this
  obtain ⟨A, ca, P, B, cb, K, C, cc, S, g, f, u, e, rfl, hP, hK, hKz, hS⟩ := zkm (hval 0 _ v0 rfl rfl) h0 hfair0
  have hfair1 : Fair Tryz.prog 28 d1 := fun n hn => by
    have := List.all_eq_true.1 hZ n (DataW.weights_mem_each (j := 1) rfl rfl n hn)
    simpa using this
  obtain ⟨k, D, cd, zs, rfl, hD⟩ := zgg (hval 1 _ v1 rfl rfl) h1 hfair1
  obtain ⟨zone, rfl⟩ : ∃ zone : Int, v2 = vi zone := okWide_int Tryz.underlying3 (show Value.okWide Tryz.prog W .any base 3 v2 from hval 2 _ v2 rfl rfl)
  have hlim : Lim W := zux hL
  have walk := zku hlim g f u e hP hK hKz hS k hD zone
  refine walk.mono fun e W' ⟨he, hg⟩ => ?_
  subst he
  exact ⟨_, rfl, zkv hW' rfl rfl (by kernel_rfl) (by rw [Tryz.params3]; decide) hg⟩
abbrev zero : Array Value := #[.agg #[.slice none 0 0, .slice none 0 0, vi 0, vi 0, vi 0, vi 0, .slice none 0 0], .agg #[vi 0, .slice none 0 0], vi 0]
theorem zod (os : Os) : laidMet Tryz.prog Rows.parcelPostsRow.laid ((zaj os).forCall (fun _ _ => 0) ⟨#[], zero, []⟩).memory :=
  laidMet_of_run' 8 (by kernel_rfl) (by kernel_rfl)
theorem reads (os : Os) {H : Type} (enc : TypeId × Value → H) : ∃ places, DataW.whole enc Tryz.prog ((zaj os).forCall (fun _ _ => 0) ⟨#[], zero, []⟩).memory Tryz.f3.params.toList Rows.parcelPostsSpec.vars false zero.toList 8 = some ([.agg [.nil, .nil, .lit (.int .i64 0), .lit (.int .i64 0), .lit (.int .i64 0), .lit (.int .i64 0), .nil], .agg [.lit (.int .i64 0), .nil], .lit (.int .i64 0)], [], places) :=
  ⟨[], by kernel_rfl⟩
theorem zv8 (os : Os) (started : os.Started) (H : Type) (enc : TypeId × Value → H) (F : Stop.Interp) :
    ReturnsInHanded {} Tryz.checked os 3 .any ((OpenSpec.ofChange Rows.parcelPostsSpec).preRow enc Tryz.prog Tryz.f3 Rows.parcelPostsRow.domain false Rows.parcelPostsRow.laid) (((OpenSpec.ofChange Rows.parcelPostsSpec).at F).post enc Tryz.prog Tryz.f3 false true false false) := by
  obtain ⟨places, hx⟩ := reads os enc
  refine returnsInHanded_of_row (C := Tryz.checked) (s := OpenSpec.ofChange Rows.parcelPostsSpec) zo6 started (by kernel_rfl) Tryz.func3
    (witness_row_at (enc := enc) (C := Tryz.checked) false (zaj os) zero rfl (by kernel_rfl) (by kernel_rfl) (by kernel_rfl)
      (OpenSpec.preRow_of_cond 8 hx (by kernel_rfl) (fun k hk => by cases hk) (by kernel_rfl) (zod os))) ?_
  intro W base args ds gs before hval hW _ _ hZ hL _ _
  exact zor H enc W base args ds gs before hval hW hZ hL
theorem said : Rows.ParcelPostsSaid :=
  OpenClaim.holds_of_cond 3 Tryz.f3 rfl rfl rfl rfl rfl rfl rfl ⟨rfl, rfl, rfl, rfl, rfl⟩ rfl rfl rfl rfl rfl (by kernel_rfl) Tryz.func3 (by kernel_rfl)
    (of_decide_eq_true (by kernel_rfl)) (by unfold Func.isWrapper; first | (rw [if_pos (by decide +kernel)]; kernel_rfl) | (rw [if_neg (by decide +kernel)]; exact ⟨rfl, rfl⟩))
    (fun os started H enc _ F => by rw [OpenClaim.pre_eq_preRow]; exact zv8 os started H enc F)
theorem plain (f : FuncId) (fn : Func) (hf : Tryz.pinned.checked.prog.funcNamed "wishbook/wishbooklaw06.ParcelPosts" = some f) (hfn : Tryz.pinned.checked.prog.funcs[f]? = some fn) :
    false = Tryz.pinned.checked.prog.looks [] ∧ ∀ (j : Nat) t, fn.params[j]? = some t → Tryz.pinned.checked.prog.wantsStandIn t = false := by
  obtain rfl : f = 3 := Option.some.inj ((show Tryz.prog.funcNamed "wishbook/wishbooklaw06.ParcelPosts" = some 3 by kernel_rfl).symm.trans hf) |>.symm
  obtain rfl : fn = Tryz.f3 := (Option.some.inj (Tryz.func3.symm.trans hfn)).symm
  refine ⟨by kernel_rfl, fun j t ht => ?_⟩
  rw [Tryz.params3] at ht
  have hm := Array.mem_of_getElem? ht
  simp only [List.mem_toArray, List.mem_cons, List.not_mem_nil, or_false] at hm
  rcases hm with rfl | rfl | rfl
  · exact (show Tryz.prog.wantsStandIn 26 = false by kernel_rfl)
  · exact (show Tryz.prog.wantsStandIn 28 = false by kernel_rfl)
  · exact (show Tryz.prog.wantsStandIn 3 = false by kernel_rfl)
theorem card : Rows.ParcelPostsCardSaid :=
  Claim7.holds_tied_plain_at .later [] _ _ _ _ said (fun _ h => by cases h) (by kernel_rfl) (fun _ h => by cases h) parcelPosts_row_tie rfl ⟨rfl, rfl⟩ (by kernel_rfl) rfl plain (by kernel_rfl)
end parcelPosts
end Go.Proofs.YtcmkngajdckndaaGreatDoor
