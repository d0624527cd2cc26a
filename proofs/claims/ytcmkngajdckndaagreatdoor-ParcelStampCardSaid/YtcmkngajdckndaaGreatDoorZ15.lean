/- The chapter's own examples come out as the document says, run by the kernel; What the functions of package parcel answer, for any book, and why the law's comparison holds; how a book of a world reads; Rules by which a run of that machine is computed. Conditions: none. -/
import Derived.Test.YtcmkngajdckndaaGreatDoorZ10
import Derived.Test.YtcmkngajdckndaaGreatDoorZ11
import Derived.Test.YtcmkngajdckndaaGreatDoorZ12
import Derived.Test.YtcmkngajdckndaaGreatDoorZ13
import Derived.Test.YtcmkngajdckndaaGreatDoorZ14
import Derived.Test.YtcmkngajdckndaaGreatDoorZ07
import Derived.Test.YtcmkngajdckndaaGreatDoorZ06
set_option linter.unusedVariables false
set_option linter.unusedSimpArgs false
namespace Go.Proofs.YtcmkngajdckndaaGreatDoor.vk
open Go Go.Proofs Go.Vm
section
variable {F : Fence} {w : World} {Q : Exit → Act → World → Prop}
theorem part0 (hF : Wd F.plain) (hB : Base.Ok ⟨R00, vmH, NG, w⟩) (hb : Bare ⟨R00, vmH, NG, w⟩ NG) (h : ∀ x v, AtH ⟨R00, vmH, NG, w⟩ F.plain 15 141 l1 r1 n1 x v → c7.wpIn F.plain 0 Tryz.prog Q x v) : ∀ x v, AtH ⟨R00, vmH, NG, w⟩ F.plain 15 141 l0 r0 n0 x v → c0.wpIn F.plain 0 Tryz.prog Q x v :=
  segH hB hb hF (draw_ok mixed) (execC_ok (draw_ok mixed) bare none_done (okAll_nil) 200) (by kernel_rfl) run0 h
theorem part1 (hF : Wd F.plain) (hB : Base.Ok ⟨R00, vmH, NG, w⟩) (hb : Bare ⟨R00, vmH, NG, w⟩ NG) (h : ∀ x v, AtH ⟨R00, vmH, NG, w⟩ F.plain 15 141 l2 r2 n2 x v → c9.wpIn F.plain 0 Tryz.prog Q x v) : ∀ x v, AtH ⟨R00, vmH, NG, w⟩ F.plain 15 141 l1 r1 n1 x v → c7.wpIn F.plain 0 Tryz.prog Q x v :=
  segH hB hb hF (draw_ok mixed) (execC_ok (draw_ok mixed) bare none_done (okAll_nil) 200) (by kernel_rfl) run1 h
theorem part2 (hF : Wd F.plain) (hB : Base.Ok ⟨R00, vmH, NG, w⟩) (hb : Bare ⟨R00, vmH, NG, w⟩ NG) (h : ∀ x v, AtH ⟨R00, vmH, NG, w⟩ F.plain 15 141 l3 r3 n3 x v → c10.wpIn F.plain 0 Tryz.prog Q x v) : ∀ x v, AtH ⟨R00, vmH, NG, w⟩ F.plain 15 141 l2 r2 n2 x v → c9.wpIn F.plain 0 Tryz.prog Q x v :=
  segH hB hb hF (draw_ok mixed) (execC_ok (draw_ok mixed) bare none_done (okAll_cons ok1 (okAll_cons ok0 (okAll_nil))) 200) (by kernel_rfl) run2 h
end
theorem knownF : Known Tryz.prog 22 vmH :=
  known_parts (by decide) (nv := 15) (by decide) Tryz.func22 hbF (by kernel_rfl) bare fun F w hF hB hb a hat => (part0 hF hB hb (part1 hF hB hb (part2 hF hB hb (endH (fn := Tryz.f22) hB hb hF (draw_ok mixed) (execC_ok (draw_ok mixed) bare none_done (okAll_nil) 200) run3)))) a w hat
end Go.Proofs.YtcmkngajdckndaaGreatDoor.vk
namespace Go.Proofs.YtcmkngajdckndaaGreatDoor
open Go Go.Proofs Go.RowKit Go.Deep Go.ChangeShapes Go.WideShapes
open Go.Lm (vi hpW argOf encV enc1 Lst slice_world HALF rowL cellsW cellsW_at nnOf topOf)
set_option maxHeartbeats 1000000
set_option maxRecDepth 10000
open Classical in
noncomputable def stK : Lm.Kn := fun f args h _ => if f = 22 ∧ args = [] ∧ rowL h 0 = some limL then some (.bool true) else none
theorem stK_only : stK.Only [22] := by
  intro f a h nx hf
  unfold stK
  rw [if_neg]
  intro q
  exact hf (by rw [q.1]; exact List.mem_cons_self)
theorem stK_st : Stamped stK := by
  intro h nx _ hl
  unfold stK
  rw [if_pos ⟨rfl, rfl, hl⟩]
theorem lim_ground {i : Nat} {x : Value} (hx : limL[i]? = some x) : ∃ n, x = vi n := by
  have hm := List.mem_of_getElem? hx
  unfold limL at hm
  simp only [List.mem_cons, List.not_mem_nil, or_false] at hm
  rcases hm with rfl | rfl | rfl | rfl | rfl | rfl | rfl | rfl | rfl | rfl | rfl | rfl | rfl | rfl | rfl | rfl | rfl | rfl | rfl | rfl | rfl | rfl <;> exact ⟨_, rfl⟩
theorem vm_laid_of {w : World} {cs : Array Value} {e fz} (hw : w.heap[0]? = some (.cells cs e fz)) (hc : ∀ (i : Nat) (x : Value), limL[i]? = some x → cs[i]? = some x) : Vm.Laid vk.vmH w := by
  intro r x hr hx hn
  have hng : Vm.NG = 1 := rfl
  have : r = 0 := by omega
  subst this
  unfold vk.vmH at hx
  rw [Vm.hget_hset (by omega) (by omega)] at hx
  simp only [if_true] at hx
  cases hx
  refine ⟨_, hw, cs, e, fz, rfl, ?_, fun i x hx => ?_⟩
  · have := (Array.getElem?_eq_some_iff.1 (hc 21 (vi 20000) rfl)).1
    simp; omega
  · have hx' : limL[i]? = some x := hx
    obtain ⟨n, rfl⟩ := lim_ground hx'
    exact ⟨rfl, _, hc i _ hx', .int _ _⟩
theorem hb22 : Lm.hasBody Tryz.prog 22 = true := by kernel_rfl
theorem stK_ok (lo : Lm.Lo) : @Lm.Kn.Ok lo Tryz.prog stK := by
  letI := lo
  intro f args h nx v hf
  unfold stK at hf
  split at hf
  · rename_i q
    obtain ⟨rfl, rfl, hl⟩ := q
    cases hf
    refine ⟨hb22, fun R w F args' hh hd hgl hF hv => ?_⟩
    have ha : args' = #[] := by
      have := hv.of_nil
      rw [← Array.toArray_toList (xs := args'), this]
    subst ha
    have h0 := hgl 0 (by decide)
    have hs : Vm.NG ≤ w.heap.size := by have := hh.bnd 0 0 h0; have : Vm.NG = 1 := rfl; omega
    obtain ⟨cs, e, fz, h1, h2⟩ := Lm.rowL_at (hh.at 0) h0 hl
    refine (vk.knownF.2 F w hF hs (vm_laid_of h1 fun i x hx => ?_)).mono fun e w' q => ⟨.bool true, q.1, .bool true, q.2⟩
    obtain ⟨x', a, b⟩ := h2.2.2 i x (Nat.le_trans (Lm.Lo.gz (by decide)) (Nat.zero_le _)) hx
    obtain ⟨n, rfl⟩ := lim_ground hx
    cases b
    exact a
  · cases hf
theorem lim_get {w : World} (h : Lim w) : ∃ cs e fz, w.heap[0]? = some (.cells cs e fz) ∧ cs.size = 22 ∧ ∀ (i : Nat) (x : Value), limL[i]? = some x → cs[i]? = some x := by
  obtain ⟨cs, e, fz, hw⟩ := block_of (h.l0 0 (by omega)).1
  have cell : ∀ (i : Nat) (v : Value), w.cell? ⟨0, i, none⟩ = some v → cs[i]? = some v := fun i v q => by simpa [World.cell?, hw] using q
  have hget : ∀ (i : Nat) (x : Value), limL[i]? = some x → cs[i]? = some x := by
    intro i x hx
    have hi : i < 22 := (List.getElem?_eq_some_iff.1 hx).1
    have hk : i / 2 < 11 := by omega
    have hp := h.l0 (i / 2) hk
    rcases Nat.mod_two_eq_zero_or_one i with q | q
    · have e1 : i / 2 * 2 = i := by omega
      rw [e1] at hp
      refine cell i x (hp.1.trans ?_)
      have : i = 0 ∨ i = 2 ∨ i = 4 ∨ i = 6 ∨ i = 8 ∨ i = 10 ∨ i = 12 ∨ i = 14 ∨ i = 16 ∨ i = 18 ∨ i = 20 := by omega
      rcases this with rfl | rfl | rfl | rfl | rfl | rfl | rfl | rfl | rfl | rfl | rfl <;> cases hx <;> rfl
    · have e1 : i / 2 * 2 + 1 = i := by omega
      rw [e1] at hp
      refine cell i x (hp.2.trans ?_)
      have : i = 1 ∨ i = 3 ∨ i = 5 ∨ i = 7 ∨ i = 9 ∨ i = 11 ∨ i = 13 ∨ i = 15 ∨ i = 17 ∨ i = 19 ∨ i = 21 := by omega
      rcases this with rfl | rfl | rfl | rfl | rfl | rfl | rfl | rfl | rfl | rfl | rfl <;> cases hx <;> rfl
  have h21 := (Array.getElem?_eq_some_iff.1 (hget 21 (vi 20000) rfl)).1
  have h22 : cs[22]? = none := by
    have := h.stop
    simpa [World.cell?, hw] using this
  have := Array.getElem?_eq_none_iff.1 h22
  exact ⟨cs, e, fz, hw, by omega, hget⟩
theorem lim_row {w : World} (h : Lim w) : rowL (hpW w) 0 = some limL := by
  obtain ⟨cs, e, fz, hw, hsz, hget⟩ := lim_get h
  have hpos := h.pos
  have hn : (0 : Nat) % nnOf w = 0 := Nat.zero_mod _
  have hd : (0 : Nat) / nnOf w = 0 := Nat.zero_div _
  have ha : 0 < argOf w := Nat.lt_of_lt_of_le (by unfold nnOf; omega) (Lm.nn_le w)
  have hr : Lm.rowW w 0 = .ro (cellsW w 0 cs) := by
    unfold Lm.rowW
    rw [if_pos ⟨ha, by rw [hn]; omega⟩, hn, hw, hd]
  have hc : cellsW w 0 cs = limL := by
    have hk : ∀ i, i < 22 → ∃ u, cs[0 + i]? = some u ∧ (encV w u).isSome = true := fun i hi => by
      have hx := List.getElem?_eq_getElem (l := limL) (i := i) (by exact hi)
      obtain ⟨n, en⟩ := lim_ground hx
      exact ⟨_, by rw [Nat.zero_add]; exact hget i _ hx, by rw [en]; rfl⟩
    refine List.ext_getElem? fun i => ?_
    by_cases hi : i < 22
    · have hx := List.getElem?_eq_getElem (l := limL) (i := i) (by exact hi)
      obtain ⟨n, en⟩ := lim_ground hx
      have := cellsW_at hk hi (by rw [Nat.zero_add]; exact hget i _ hx)
      rw [Nat.zero_add] at this
      rw [this, hx, en]; rfl
    · have h1 : (cellsW w 0 cs).length ≤ 22 := by
        unfold cellsW
        rw [List.length_append, List.length_replicate, List.length_map]
        have := Lm.tw_len (fun v => (encV w v).isSome) (cs.toList.drop 0)
        rw [List.drop_zero] at this ⊢
        simp at this ⊢
        omega
      rw [List.getElem?_eq_none (by omega), List.getElem?_eq_none (by show 22 ≤ i; omega)]
  unfold rowL
  have : Lm.hget (hpW w) 0 = some (Lm.rowW w 0) := rfl
  rw [this, hr, hc]
def kdW (w : World) (x : KdW) : Kd := ⟨x.room, x.most, enc1 w (.slice x.A x.zs.length x.cap), x.zs, x.step⟩
def bkW (w : World) (A : Option Addr) (ca : Nat) (P : List Pc) (B : Option Addr) (cb : Nat) (K : List KdW) (C : Option Addr) (cc : Nat) (S : List Int) (g f u e : Int) : Bk :=
  ⟨P, enc1 w (.slice A P.length ca), K.map (kdW w), enc1 w (.slice B K.length cb), g, f, u, e, S, enc1 w (.slice C S.length cc)⟩
theorem half_big {c : Nat} (h : c ≤ 140737488351232) : c < HALF := by unfold HALF; omega
theorem ints_world {w : World} {A : Option Addr} {cap : Nat} {l : List Int} (h : SlW w 1 A cap (l.map intC)) : (encV w (.slice A l.length cap)).isSome = true ∧ Lst (hpW w) (argOf w) 1 (enc1 w (.slice A l.length cap)) (ints l) := by
  have := slice_world (w := w) (A := A) (cap := cap) (rows := l.map intC) (sz := 1) (by omega) (fun r hr => by obtain ⟨n, _, rfl⟩ := List.mem_map.1 hr; rfl) h.len (half_big h.few) h.lies (fun r hr u hu => by
    obtain ⟨n, _, rfl⟩ := List.mem_map.1 hr
    simp only [intC, List.mem_cons, List.not_mem_nil, or_false] at hu
    subst hu; rfl)
  rw [List.length_map] at this
  refine ⟨this.1, ?_⟩
  have e : (l.map intC).map (fun r => r.map (enc1 w)) = ints l := by
    rw [List.map_map]; rfl
  rw [← e]; exact this.2
theorem bk_at {w : World} (hl : Lim w) {A : Option Addr} {ca : Nat} {P : List Pc} {B : Option Addr} {cb : Nat} {K : List KdW} {C : Option Addr} {cc : Nat} {S : List Int} (g f u e : Int)
    (hP : SlW w 4 A ca (P.map Pc.row)) (hK : SlW w 4 B cb (K.map KdW.code)) (hZ : ∀ x ∈ K, x.Lies w) (hS : SlW w 1 C cc (S.map intC)) :
    (bkW w A ca P B cb K C cc S g f u e).At (hpW w) (argOf w) ∧ @Lm.VR (Lm.worldLo w hl.pos) (Lm.renOf w) (.agg (bkW w A ca P B cb K C cc S g f u e).cells.toArray) (.agg #[.slice A P.length ca, .slice B K.length cb, vi g, vi f, vi u, vi e, .slice C S.length cc]) := by
  have p := slice_world (w := w) (A := A) (cap := ca) (rows := P.map Pc.row) (sz := 4) (by omega) (fun r hr => by obtain ⟨n, _, rfl⟩ := List.mem_map.1 hr; rfl) hP.len (half_big hP.few) hP.lies (fun r hr u hu => by
    obtain ⟨n, _, rfl⟩ := List.mem_map.1 hr
    simp only [Pc.row, List.mem_cons, List.not_mem_nil, or_false] at hu
    rcases hu with rfl | rfl | rfl | rfl <;> rfl)
  have k := slice_world (w := w) (A := B) (cap := cb) (rows := K.map KdW.code) (sz := 4) (by omega) (fun r hr => by obtain ⟨n, _, rfl⟩ := List.mem_map.1 hr; rfl) hK.len (half_big hK.few) hK.lies (fun r hr u hu => by
    obtain ⟨n, hn, rfl⟩ := List.mem_map.1 hr
    simp only [KdW.code, List.mem_cons, List.not_mem_nil, or_false] at hu
    rcases hu with rfl | rfl | rfl | rfl
    · rfl
    · rfl
    · exact (ints_world (hZ n hn)).1
    · rfl)
  have s := ints_world hS
  rw [List.length_map] at p k
  have ep : (P.map Pc.row).map (fun r => r.map (enc1 w)) = P.map Pc.row := by rw [List.map_map]; rfl
  have ek : (K.map KdW.code).map (fun r => r.map (enc1 w)) = (K.map (kdW w)).map Kd.row := by rw [List.map_map, List.map_map]; rfl
  rw [ep] at p
  rw [ek] at k
  refine ⟨⟨?_, lim_row hl, p.2, k.2, fun x hx => ?_, s.2, ?_, ?_, fun x hx => ?_, ?_⟩, ?_⟩
  · have := Lm.nn_le w; unfold nnOf at this; omega
  · obtain ⟨y, hy, rfl⟩ := List.mem_map.1 hx
    exact (ints_world (hZ y hy)).2
  · have := hP.len; have := hP.few; rw [List.length_map] at *; show P.length ≤ _; omega
  · have := hK.len; have := hK.few; rw [List.length_map] at *; show (K.map (kdW w)).length ≤ _; rw [List.length_map]; omega
  · obtain ⟨y, hy, rfl⟩ := List.mem_map.1 hx
    have h1 := (hZ y hy).len; have h2 := (hZ y hy).few; rw [List.length_map] at h1; show y.zs.length ≤ _; omega
  · have := hS.len; have := hS.few; rw [List.length_map] at *; show S.length ≤ _; omega
  · letI := Lm.worldLo w hl.pos
    have vr : ∀ {v : Value}, (encV w v).isSome = true → Lm.VR (Lm.renOf w) (enc1 w v) v := fun {v} h => by
      obtain ⟨x, hx⟩ := Option.isSome_iff_exists.1 h
      have e1 : enc1 w v = x := by unfold enc1; rw [hx]; rfl
      rw [e1]
      exact Lm.enc_vr hl.pos hx
    have one : ∀ {v : Value}, (encV w v).isSome = true → (enc1 w v).oneCell' = true := fun {v} h => by
      obtain ⟨x, hx⟩ := Option.isSome_iff_exists.1 h
      have e1 : enc1 w v = x := by unfold enc1; rw [hx]; rfl
      rw [e1]
      exact Lm.enc_one hx
    refine Lm.VR.agg rfl (fun i x x' a b => ?_) (fun i x a => ?_)
    · have hi : i < 7 := (Array.getElem?_eq_some_iff.1 b).1
      match i, hi with
      | 0, _ => cases a; cases b; exact vr p.1
      | 1, _ => cases a; cases b; exact vr k.1
      | 2, _ => cases a; cases b; exact .int _ _
      | 3, _ => cases a; cases b; exact .int _ _
      | 4, _ => cases a; cases b; exact .int _ _
      | 5, _ => cases a; cases b; exact .int _ _
      | 6, _ => cases a; cases b; exact vr s.1
    · have hi : i < 7 := (Array.getElem?_eq_some_iff.1 a).1
      match i, hi with
      | 0, _ => cases a; exact one p.1
      | 1, _ => cases a; exact one k.1
      | 2, _ => cases a; rfl
      | 3, _ => cases a; rfl
      | 4, _ => cases a; rfl
      | 5, _ => cases a; rfl
      | 6, _ => cases a; exact one s.1
end Go.Proofs.YtcmkngajdckndaaGreatDoor
namespace Go
namespace Lm
variable {P : Program} {nv : Nat} {ih : Rec} {vs : Vs} {h : Hp} {nx : Nat}
noncomputable def opVO (nv : Nat) (x : Option Operand) (vs : Vs) : Option (Option Value) := match x with
  | none => some none
  | some x => (match opV nv x vs with | some v => some (some v) | none => none)
theorem opVO_none : opVO nv none vs = some none := rfl
theorem opVO_some (x : Operand) : opVO nv (some x) vs = match opV nv x vs with | some v => some (some v) | none => none := rfl
noncomputable def sliceO (size : Nat) (x : Option Value) (lo hi mx : Option (Option Value)) : Option Value := match x, lo, hi, mx with
  | some (.slice (some ⟨r, o, none⟩) n c), some lo, some hi, some mx => sliceOf size r o n c (Bool.rec n c (Nat.blt c HALF)) lo hi mx
  | some (.slice none 0 0), some lo, some hi, some mx => (match mx, hi with
    | some _, none => none
    | _, _ => (match bound 0 lo 0, bound 0 hi 0, bound 0 mx 0 with | some _, some _, some _ => some (.slice none 0 0) | _, _, _ => none))
  | _, _, _, _ => none
noncomputable def sliceA (n size : Nat) (x : Option Value) (lo hi mx : Option (Option Value)) : Option Value := match x, lo, hi, mx with
  | some (.pointer (some ⟨r, o, none⟩)), some lo, some hi, some mx => sliceOf size r o n n n lo hi mx
  | _, _, _, _ => none
theorem XO_is (x : Option Operand) : ∃ f, XO x nv = some f ∧ evO f vs [] = opVO nv x vs := by
  cases x with
  | none => exact ⟨none, rfl, rfl⟩
  | some x =>
    obtain ⟨f, hf⟩ := dX_some nv x
    refine ⟨some f, ?_, ?_⟩
    · unfold XO; simp only [hf]
    · show (match f vs [] with | some v => some (some v) | none => none) = (match opV nv x vs with | some v => some (some v) | none => none)
      rw [opV_of hf]
theorem o_slice (t : TypeId) (x : Operand) (lo hi mx : Option Operand) : rOp P nv ih (.slice t x lo hi mx) vs h nx = match elemF P t with
    | some (none, _, size) => outP (sliceO size (opV nv x vs) (opVO nv lo vs) (opVO nv hi vs) (opVO nv mx vs))
    | some (some n, _, size) => bif Nat.blt n HALF then outP (sliceA n size (opV nv x vs) (opVO nv lo vs) (opVO nv hi vs) (opVO nv mx vs)) else .bad
    | none => rOp P nv ih (.slice t x lo hi mx) vs h nx := by
  cases he : elemF P t with
  | none => rfl
  | some q =>
    obtain ⟨n, agg, size⟩ := q
    unfold rOp
    show runO (dSlice P nv t x lo hi mx) ih vs [] h nx = _
    unfold elemF at he
    unfold dSlice
    obtain ⟨f, hf, ef⟩ := XO_is (nv := nv) (vs := vs) lo
    obtain ⟨g, hg, eg⟩ := XO_is (nv := nv) (vs := vs) hi
    obtain ⟨e, hee, ee⟩ := XO_is (nv := nv) (vs := vs) mx
    obtain ⟨k, hk⟩ := dX_some nv x
    simp only [hf, hg, hee, ← ef, ← eg, ← ee]
    rw [← opV_of hk]
    cases hi' : ty P t with
    | none => rw [hi'] at he; cases he
    | some i =>
      rw [hi'] at he
      simp only at he ⊢
      cases hd : i.desc with
      | slice e' =>
        rw [hd] at he
        simp only at he ⊢
        cases hj : ty P e' with
        | none => rw [hj] at he; cases he
        | some j =>
          rw [hj] at he
          cases he
          simp only
          unfold pv1
          rw [hk]
          show outP (oSliceSl j.size k f g e vs []) = _
          unfold oSliceSl sliceO
          generalize k vs [] = u
          generalize evO f vs [] = u1
          generalize evO g vs [] = u2
          generalize evO e vs [] = u3
          rfl
      | array n' e' =>
        rw [hd] at he
        simp only at he ⊢
        cases hj : ty P e' with
        | none => rw [hj] at he; cases he
        | some j =>
          rw [hj] at he
          cases he
          simp only
          cases Nat.blt n' HALF with
          | false => rfl
          | true =>
            simp only [cond_true]
            unfold pv1
            rw [hk]
            rfl
      | _ => rw [hd] at he; cases he
theorem sliceA_all {n size r o : Nat} (hn : n < HALF) : sliceA n size (some (.pointer (some ⟨r, o, none⟩))) (some none) (some none) (some none) = some (.slice (some ⟨r, o, none⟩) n n) := by
  unfold sliceA sliceOf
  have e2 : Nat.blt n HALF = true := by rw [blt_eq]; simpa using hn
  simp only [bound, e2, Bool.true_or]
  unfold mkSl
  simp only [forceN_eq]
  have e5 : Nat.add o (Nat.mul 0 size) = o := by show o + 0 * size = o; omega
  rw [e5]
  cases Nat.beq n 0 <;> rfl
theorem sliceA_first {n k size r o : Nat} (hn : n < HALF) (hk : k ≤ n) : sliceA n size (some (.pointer (some ⟨r, o, none⟩))) (some none) (some (some (.int .i64 (k : Int)))) (some none) = some (.slice (some ⟨r, o, none⟩) k n) := by
  unfold sliceA sliceOf
  have e2 : Nat.blt n HALF = true := by rw [blt_eq]; simpa using hn
  have b1 : ∀ d, bound n (some (.int .i64 (k : Int))) d = some k := fun d => by
    show (Bool.rec none (some k) (Nat.ble k n) : Option Nat) = _
    rw [ble_eq']
    simp [hk]
  have b0 : ∀ m, bound m none 0 = some 0 := fun _ => rfl
  simp only [b1, b0, e2, Bool.true_or]
  unfold mkSl
  simp only [forceN_eq]
  have e5 : Nat.add o (Nat.mul 0 size) = o := by show o + 0 * size = o; omega
  rw [e5]
  cases Nat.beq n 0 <;> rfl
theorem takeL_is : ∀ (n : Nat) (l : List Value), n ≤ l.length → takeL n l = some (l.take n)
  | 0, l, _ => by cases l <;> rfl
  | n + 1, [], h => by simp at h
  | n + 1, x :: l, h => by rw [takeL_cons, takeL_is n l (by simpa using h)]; rfl
theorem app_new {r o r0 o0 n c size : Nat} {cs : List Value} {ob : Row} (hr0 : hget h r0 = some ob) (ho : ∃ cs0 b0, ob = .cells cs0 b0) (hr : rowL h r = some cs) (hn : 0 < n) (hn2 : n ≤ 65536) (hl : o + n * size ≤ cs.length) :
    appO h nx (some size) (some (.slice (some ⟨r0, o0, none⟩) 0 0)) (some (.slice (some ⟨r, o, none⟩) n c)) = .gen (.slice (some ⟨nx, 0, none⟩) n SENT) (hset h nx (.cells ((cs.drop o).take (n * size)) (some size))) (nx + 1) [] := by
  obtain ⟨cs0, b0, rfl⟩ := ho
  unfold appO appended
  simp only [hr]
  have e : takeL (Nat.mul n size) (dropL o cs) = some ((cs.drop o).take (n * size)) := by
    rw [dropL_eq]
    exact takeL_is _ _ (by rw [List.length_drop]; show n * size ≤ _; omega)
  rw [e]
  simp only
  obtain ⟨k, rfl⟩ : ∃ k, n = k + 1 := ⟨n - 1, by omega⟩
  rw [room_true]
  show appTo h nx size (.slice (some ⟨r0, o0, none⟩) 0 0) (k + 1) _ = _
  unfold appTo
  simp only [hr0, forceN_eq]
  have e1 : Nat.add 0 (k + 1) = k + 1 := Nat.zero_add _
  have e2 : Nat.blt 0 HALF = true := rfl
  have e3 : Nat.blt 0 (k + 1) = true := by rw [blt_eq]; simp
  have e4 : Nat.ble (k + 1) 65536 = true := by rw [ble_eq']; simpa using hn2
  have e5 : takeL (Nat.mul 0 size) (dropL o0 cs0) = some [] := by
    have : Nat.mul 0 size = 0 := Nat.zero_mul _
    rw [this]
    cases dropL o0 cs0 <;> rfl
  rw [e1]
  unfold small
  rw [e2, e3, e4, e5]
  rfl
end Lm
end Go
namespace Go.Proofs.YtcmkngajdckndaaGreatDoor
open Go Go.Proofs Go.Lm
theorem plS_147_1_0 : plS Tryz.prog 147 1 [0] = some ([(0, 5)], [.int .i64 0, .int .i64 0, .int .i64 0, .int .i64 0, .int .i64 0]) := by kernel_rfl
theorem plB_149_ : plB Tryz.prog 149 [] = some ([], [.int .i64 0, .int .i64 0, .int .i64 0, .int .i64 0, .int .i64 0]) := by kernel_rfl
theorem plS_24_0_ : plS Tryz.prog 24 0 [] = some ([], []) := by kernel_rfl
theorem plS_24_2_0_1 : plS Tryz.prog 24 2 [0, 1] = some ([(0, 1), (1, 1)], [.int .i64 0, .int .i64 0]) := by kernel_rfl
theorem zeroE_147 : zeroE Tryz.prog 147 = some [.int .i64 0, .int .i64 0, .int .i64 0, .int .i64 0, .int .i64 0] := by kernel_rfl
theorem appF_147 : appF Tryz.prog 147 147 = some 5 := by kernel_rfl
theorem lokx0 : lastOk [0, 1, 0, 7, 15, 0, 0, 127, 255, 511, 1023, 2047] 11 = true := rfl
theorem lokx1 : lastOk [0, 0, 3, 0, 8, 24, 56, 127, 255, 511] 9 = true := rfl
theorem lokx5 : lastOk [0, 0, 0, 6, 14, 0, 32, 0, 224, 480, 1022, 2047, 0, 0, 0, 24576, 57344, 126976, 4095, 524287] 19 = true := rfl
theorem lokx6 : lastOk [0, 0, 3, 7, 0, 0, 48, 112, 255] 8 = true := rfl
theorem lokx7 : lastOk [0, 0, 3, 7, 0, 0, 48, 112, 255, 511] 9 = true := rfl
theorem lokx8 : lastOk [0, 0, 3, 0, 0, 16, 0, 112, 240, 504, 1016, 2040, 4095, 8191] 13 = true := rfl
theorem lokx10 : lastOk [0, 0, 3, 7, 0, 0, 32, 0, 224, 480, 1008, 2047, 4095, 8191] 13 = true := rfl
def dotS : List Int → List Int → Int
  | v :: V, a :: A => v * a + dotS V A
  | _, _ => 0
def lexS : List Int → List Int → Bool
  | a :: A, b :: B => decide (a < b) || (decide (a = b) && lexS A B)
  | _, _ => false
def betS (A B : List Int) : Bool := decide (A.sum < B.sum) || (decide (A.sum = B.sum) && lexS A B)
def oneS (i : Nat) (A : List Int) : List Int := A.modify i (· + 1)
theorem lex_irr : ∀ A, lexS A A = false
  | [] => rfl
  | a :: A => by simp [lexS, lex_irr A]
theorem lex_trans : ∀ A B C, lexS A B = true → lexS B C = true → lexS A C = true
  | [], _, _, h, _ => by simp [lexS] at h
  | _ :: _, [], _, h, _ => by simp [lexS] at h
  | _ :: _, _ :: _, [], _, h => by simp [lexS] at h
  | a :: A, b :: B, c :: C, h1, h2 => by
    simp only [lexS, Bool.or_eq_true, Bool.and_eq_true, decide_eq_true_eq] at h1 h2 ⊢
    rcases h1 with h1 | ⟨h1, h3⟩ <;> rcases h2 with h2 | ⟨h2, h4⟩
    · left; omega
    · left; omega
    · left; omega
    · right; exact ⟨by omega, lex_trans A B C h3 h4⟩
theorem lex_total : ∀ A B, A.length = B.length → lexS A B = false → lexS B A = false → A = B
  | [], [], _, _, _ => rfl
  | [], _ :: _, h, _, _ => by simp at h
  | _ :: _, [], h, _, _ => by simp at h
  | a :: A, b :: B, hl, h1, h2 => by
    simp only [lexS, Bool.or_eq_false_iff, Bool.and_eq_false_iff, decide_eq_false_iff_not] at h1 h2
    have e : a = b := by omega
    subst e
    have h3 : lexS A B = false := by rcases h1.2 with h | h; exact absurd rfl h; exact h
    have h4 : lexS B A = false := by rcases h2.2 with h | h; exact absurd rfl h; exact h
    rw [lex_total A B (by simpa using hl) h3 h4]
theorem bet_irr (A) : betS A A = false := by simp [betS, lex_irr]
theorem bet_trans {A B C} (h1 : betS A B = true) (h2 : betS B C = true) : betS A C = true := by
  simp only [betS, Bool.or_eq_true, Bool.and_eq_true, decide_eq_true_eq] at h1 h2 ⊢
  rcases h1 with h1 | ⟨h1, h3⟩ <;> rcases h2 with h2 | ⟨h2, h4⟩
  · left; omega
  · left; omega
  · left; omega
  · right; exact ⟨by omega, lex_trans A B C h3 h4⟩
theorem bet_total {A B} (hl : A.length = B.length) (h1 : betS A B = false) (h2 : betS B A = false) : A = B := by
  simp only [betS, Bool.or_eq_false_iff, Bool.and_eq_false_iff, decide_eq_false_iff_not] at h1 h2
  have e : A.sum = B.sum := by omega
  exact lex_total A B hl (by rcases h1.2 with h | h; exact absurd e h; exact h) (by rcases h2.2 with h | h; exact absurd e.symm h; exact h)
theorem bet_asymm {A B} (h : betS A B = true) : betS B A = false := by
  cases h2 : betS B A
  · rfl
  · have := bet_trans h h2
    rw [bet_irr] at this; cases this
theorem one_len (i A) : (oneS i A).length = A.length := by simp [oneS]
theorem one_sum : ∀ (i : Nat) (A : List Int), i < A.length → (oneS i A).sum = A.sum + 1
  | _, [], h => by simp at h
  | 0, a :: A, _ => by simp [oneS]; omega
  | i + 1, a :: A, h => by
    have := one_sum i A (by simpa using h)
    simp only [oneS] at this
    simp [oneS, this]; omega
theorem one_dot : ∀ (i : Nat) (V A : List Int) (v : Int), V[i]? = some v → i < A.length → dotS V (oneS i A) = dotS V A + v
  | _, [], _, _, h, _ => by simp at h
  | _, _ :: _, [], _, _, h => by simp at h
  | 0, v :: V, a :: A, w, h, _ => by
    simp at h; subst h
    simp [oneS, dotS, Int.mul_add]; omega
  | i + 1, v :: V, a :: A, w, h, hl => by
    have := one_dot i V A w (by simpa using h) (by simpa using hl)
    simp only [oneS] at this
    simp [oneS, dotS, this]; omega
theorem one_lex : ∀ (i : Nat) (A B : List Int), A.length = B.length → lexS (oneS i A) (oneS i B) = lexS A B
  | _, [], [], _ => by simp [oneS, lexS]
  | _, [], _ :: _, h => by simp at h
  | _, _ :: _, [], h => by simp at h
  | 0, a :: A, b :: B, _ => by simp [oneS, lexS]
  | i + 1, a :: A, b :: B, h => by
    have := one_lex i A B (by simpa using h)
    simp only [oneS] at this
    simp [oneS, lexS, this]
theorem one_bet (i : Nat) (A B : List Int) (hl : A.length = B.length) (hi : i < A.length) : betS (oneS i A) (oneS i B) = betS A B := by
  unfold betS
  rw [one_sum i A hi, one_sum i B (by omega), one_lex i A B hl]
  have e1 : decide (A.sum + 1 < B.sum + 1) = decide (A.sum < B.sum) := decide_eq_decide.2 (by omega)
  have e2 : decide (A.sum + 1 = B.sum + 1) = decide (A.sum = B.sum) := decide_eq_decide.2 (by omega)
  rw [e1, e2]
theorem one_inv : ∀ (i : Nat) (A : List Int) (a : Int), A[i]? = some a → 0 < a → (∀ x, x ∈ A → 0 ≤ x) → ∃ B, B.length = A.length ∧ oneS i B = A ∧ ∀ x, x ∈ B → 0 ≤ x
  | _, [], _, h, _, _ => by simp at h
  | 0, a :: A, b, h, hp, hn => by
    simp at h; subst h
    refine ⟨(a - 1) :: A, by simp, by simp [oneS], fun x hx => ?_⟩
    rcases List.mem_cons.1 hx with h | h
    · omega
    · exact hn x (List.mem_cons_of_mem _ h)
  | i + 1, a :: A, b, h, hp, hn => by
    obtain ⟨B, h1, h2, h3⟩ := one_inv i A b (by simpa using h) hp (fun x hx => hn x (List.mem_cons_of_mem _ hx))
    refine ⟨a :: B, by simp [h1], by simp only [oneS] at h2; simp [oneS, h2], fun x hx => ?_⟩
    rcases List.mem_cons.1 hx with h | h
    · subst h; exact hn _ List.mem_cons_self
    · exact h3 x h
theorem one_nonneg : ∀ (i : Nat) (A : List Int), (∀ x, x ∈ A → 0 ≤ x) → ∀ x, x ∈ oneS i A → 0 ≤ x
  | _, [], _, x, hx => by simp [oneS] at hx
  | 0, a :: A, h, x, hx => by
    simp [oneS] at hx
    rcases hx with hx | hx
    · have := h a List.mem_cons_self; omega
    · exact h x (List.mem_cons_of_mem _ hx)
  | i + 1, a :: A, h, x, hx => by
    simp [oneS] at hx
    rcases hx with hx | hx
    · subst hx; exact h _ List.mem_cons_self
    · exact one_nonneg i A (fun y hy => h y (List.mem_cons_of_mem _ hy)) x (by simpa [oneS] using hx)
structure LotS (V : List Int) (w : Int) (A : List Int) : Prop where
  len : A.length = V.length
  pos : ∀ x, x ∈ A → 0 ≤ x
  worth : dotS V A = w
structure BestS (V : List Int) (w : Int) (A : List Int) : Prop where
  lot : LotS V w A
  least : ∀ B, LotS V w B → A = B ∨ betS A B = true
theorem BestS.same {V w A B} (h : BestS V w A) (h' : BestS V w B) : A = B := by
  rcases h.least B h'.lot with e | e
  · exact e
  · rcases h'.least A h.lot with e' | e'
    · exact e'.symm
    · rw [bet_asymm e] at e'; cases e'
theorem dot_nonneg : ∀ (V A : List Int), (∀ v, v ∈ V → 1 ≤ v) → (∀ x, x ∈ A → 0 ≤ x) → 0 ≤ dotS V A
  | [], _, _, _ => by simp [dotS]
  | _ :: _, [], _, _ => by simp [dotS]
  | v :: V, a :: A, h1, h2 => by
    have := dot_nonneg V A (fun x hx => h1 x (List.mem_cons_of_mem _ hx)) (fun x hx => h2 x (List.mem_cons_of_mem _ hx))
    have hv := h1 v List.mem_cons_self
    have ha := h2 a List.mem_cons_self
    have := Int.mul_nonneg (show 0 ≤ v by omega) ha
    simp only [dotS]; omega
theorem sum_nonneg : ∀ (A : List Int), (∀ x, x ∈ A → 0 ≤ x) → 0 ≤ A.sum
  | [], _ => by simp
  | a :: A, h => by
    have := sum_nonneg A (fun x hx => h x (List.mem_cons_of_mem _ hx))
    have := h a List.mem_cons_self
    simp; omega
theorem sum_le_dot : ∀ (V A : List Int), A.length = V.length → (∀ v, v ∈ V → 1 ≤ v) → (∀ x, x ∈ A → 0 ≤ x) → A.sum ≤ dotS V A
  | [], [], _, _, _ => by simp [dotS]
  | [], _ :: _, h, _, _ => by simp at h
  | _ :: _, [], h, _, _ => by simp at h
  | v :: V, a :: A, hl, h1, h2 => by
    have := sum_le_dot V A (by simpa using hl) (fun x hx => h1 x (List.mem_cons_of_mem _ hx)) (fun x hx => h2 x (List.mem_cons_of_mem _ hx))
    have hv := h1 v List.mem_cons_self
    have ha := h2 a List.mem_cons_self
    have := Int.mul_le_mul_of_nonneg_right hv ha
    simp only [dotS, List.sum_cons]; omega
theorem sum_zero : ∀ (A : List Int), (∀ x, x ∈ A → 0 ≤ x) → A.sum = 0 → A = List.replicate A.length 0
  | [], _, _ => rfl
  | a :: A, h, hs => by
    have h1 := sum_nonneg A (fun x hx => h x (List.mem_cons_of_mem _ hx))
    have h2 := h a List.mem_cons_self
    simp at hs
    have e : a = 0 := by omega
    have := sum_zero A (fun x hx => h x (List.mem_cons_of_mem _ hx)) (by omega)
    subst e
    simp only [List.length_cons, List.replicate_succ]
    rw [← this]
theorem dot_zeros : ∀ (V : List Int) (n : Nat), dotS V (List.replicate n 0) = 0
  | [], _ => by simp [dotS]
  | _ :: _, 0 => by simp [dotS]
  | v :: V, n + 1 => by simp [List.replicate_succ, dotS, dot_zeros V n]
def noS (k : Nat) : List Int := List.replicate k 0
theorem best_zero (V : List Int) (h1 : ∀ v, v ∈ V → 1 ≤ v) : BestS V 0 (noS V.length) := by
  have h0 : LotS V 0 (noS V.length) := ⟨by simp [noS], fun x hx => by rw [List.eq_of_mem_replicate hx]; exact Int.le_refl _, dot_zeros _ _⟩
  refine ⟨h0, fun B hB => .inl ?_⟩
  have hs := sum_le_dot V B hB.len h1 hB.pos
  have hs2 := sum_nonneg B hB.pos
  rw [hB.worth] at hs
  have := sum_zero B hB.pos (by omega)
  rw [this, hB.len]; rfl
theorem lot_some {V : List Int} {w : Int} {A : List Int} (h : LotS V w A) (hw : 0 < w) : ∃ i a : _, i < V.length ∧ A[i]? = some a ∧ (0 : Int) < a := by
  have : ∃ a, a ∈ A ∧ 0 < a := by
    refine Classical.byContradiction fun q => ?_
    have hz : ∀ x, x ∈ A → x = 0 := fun x hx => by
      have := h.pos x hx
      have : ¬ 0 < x := fun hp => q ⟨x, hx, hp⟩
      omega
    have e : A = List.replicate A.length 0 := List.eq_replicate_iff.2 ⟨rfl, hz⟩
    have := h.worth
    rw [e, dot_zeros] at this
    omega
  obtain ⟨a, ha, hp⟩ := this
  obtain ⟨i, hi, e⟩ := List.getElem_of_mem ha
  exact ⟨i, a, by have := h.len; omega, by rw [List.getElem?_eq_getElem hi, e], hp⟩
def UptoS (V : List Int) (w : Int) (i : Nat) (o : Option (List Int)) : Prop :=
  match o with
  | none => ∀ B, LotS V w B → ∀ j b, j < i → B[j]? = some b → ¬ (0 : Int) < b
  | some A => LotS V w A ∧ ∀ B, LotS V w B → ∀ j b, j < i → B[j]? = some b → (0 : Int) < b → A = B ∨ betS A B = true
theorem upto_zero (V w) : UptoS V w 0 none := fun _ _ _ _ h _ => absurd h (by omega)
theorem upto_skip {V : List Int} {w v : Int} {i : Nat} {o} (h : UptoS V w i o) (hv : V[i]? = some v) (hno : ∀ B, ¬ LotS V (w - v) B) : UptoS V w (i + 1) o := by
  have key : ∀ B, LotS V w B → ∀ b, B[i]? = some b → ¬ (0 : Int) < b := by
    intro B hB b hb hp
    obtain ⟨C, h1, h2, h3⟩ := one_inv i B b hb hp hB.pos
    have hi : i < C.length := by
      have := (List.getElem?_eq_some_iff.1 hb).1; omega
    refine hno C ⟨h1.trans hB.len, h3, ?_⟩
    have := one_dot i V C v hv hi
    rw [h2, hB.worth] at this
    omega
  cases o with
  | none =>
    intro B hB j b hj hb
    by_cases e : j = i
    · subst e; exact key B hB b hb
    · exact h B hB j b (by omega) hb
  | some A =>
    refine ⟨h.1, fun B hB j b hj hb hp => ?_⟩
    by_cases e : j = i
    · subst e; exact absurd hp (key B hB b hb)
    · exact h.2 B hB j b (by omega) hb hp
def stepO (l : List Int) (o : Option (List Int)) : Option (List Int) := match o with | none => some l | some C => if betS l C then some l else some C
theorem upto_one {V : List Int} {w v : Int} {i : Nat} {o : Option (List Int)} {A : List Int} (h : UptoS V w i o) (hv : V[i]? = some v) (hA : BestS V (w - v) A) :
    UptoS V w (i + 1) (stepO (oneS i A) o) := by
  have hiV : i < V.length := (List.getElem?_eq_some_iff.1 hv).1
  have hiA : i < A.length := by rw [hA.lot.len]; exact hiV
  have hl : LotS V w (oneS i A) := ⟨(one_len i A).trans hA.lot.len, one_nonneg i A hA.lot.pos, by rw [one_dot i V A v hv hiA, hA.lot.worth]; omega⟩
  have key : ∀ B, LotS V w B → ∀ b, B[i]? = some b → (0 : Int) < b → oneS i A = B ∨ betS (oneS i A) B = true := by
    intro B hB b hb hp
    obtain ⟨C, h1, h2, h3⟩ := one_inv i B b hb hp hB.pos
    have hi : i < C.length := by
      have := (List.getElem?_eq_some_iff.1 hb).1; omega
    have hC : LotS V (w - v) C := ⟨h1.trans hB.len, h3, by
      have := one_dot i V C v hv hi
      rw [h2, hB.worth] at this
      omega⟩
    rcases hA.least C hC with e | e
    · left; rw [e, h2]
    · right; rw [← h2, one_bet i A C (by rw [hA.lot.len, hC.len]) hiA]; exact e
  cases o with
  | none =>
    refine ⟨hl, fun B hB j b hj hb hp => ?_⟩
    by_cases e : j = i
    · subst e; exact key B hB b hb hp
    · exact absurd hp (h B hB j b (by omega) hb)
  | some C =>
    show UptoS V w (i + 1) (if betS (oneS i A) C then some (oneS i A) else some C)
    have hlen : (oneS i A).length = C.length := by rw [hl.len, h.1.len]
    split
    · rename_i hb1
      refine ⟨hl, fun B hB j b hj hb hp => ?_⟩
      by_cases e : j = i
      · subst e; exact key B hB b hb hp
      · right
        rcases h.2 B hB j b (by omega) hb hp with e2 | e2
        · rw [← e2]; exact hb1
        · exact bet_trans hb1 e2
    · rename_i hb1
      have hb1 : betS (oneS i A) C = false := by simpa using hb1
      refine ⟨h.1, fun B hB j b hj hb hp => ?_⟩
      by_cases e : j = i
      · subst e
        cases hb2 : betS C (oneS j A)
        · rw [← bet_total hlen hb1 hb2]; exact key B hB b hb hp
        · right
          rcases key B hB b hb hp with e2 | e2
          · rw [← e2]; exact hb2
          · exact bet_trans hb2 e2
      · exact h.2 B hB j b (by omega) hb hp
theorem upto_all {V : List Int} {w : Int} {o} (hw : 0 < w) (h : UptoS V w V.length o) : match o with | none => ∀ B, ¬ LotS V w B | some A => BestS V w A := by
  cases o with
  | none =>
    intro B hB
    obtain ⟨i, a, h1, h2, h3⟩ := lot_some hB hw
    exact h B hB i a h1 h2 h3
  | some A =>
    refine ⟨h.1, fun B hB => ?_⟩
    obtain ⟨i, a, h1, h2, h3⟩ := lot_some hB hw
    exact h.2 B hB i a h1 h2 h3
theorem lot_ne {V w A} (h : LotS V w A) (hw : 0 < w) : A ≠ noS V.length := by
  intro e
  have := h.worth
  rw [e] at this
  unfold noS at this
  rw [dot_zeros] at this
  omega
def StampsQ (V : List Int) (c : Int) (A : List Int) : Prop := ∃ W, c ≤ W ∧ BestS V W A ∧ ∀ w, c ≤ w → w < W → ∀ B, ¬ LotS V w B
theorem StampsQ.same {V c A B} (h : StampsQ V c A) (h' : StampsQ V c B) : A = B := by
  obtain ⟨W, h1, h2, h3⟩ := h
  obtain ⟨W', h1', h2', h3'⟩ := h'
  have : W = W' := by
    rcases Int.lt_trichotomy W W' with q | q | q
    · exact absurd h2.lot (h3' W h1 q _)
    · exact q
    · exact absurd h2'.lot (h3 W' h1' q _)
  subst this
  exact h2.same h2'
theorem few_neg {V : List Int} {w : Int} (h1 : ∀ v, v ∈ V → 1 ≤ v) (hw : w < 0) : ∀ B, ¬ LotS V w B := fun B hB => by
  have := dot_nonneg V B h1 hB.pos
  rw [hB.worth] at this
  omega
theorem lot_first {v : Int} {V : List Int} {c : Int} (hv : 1 ≤ v) (hc : 0 ≤ c) : ∃ w, c ≤ w ∧ w < c + v ∧ ∃ A, LotS (v :: V) w A := by
  obtain ⟨q, hq⟩ : ∃ q, q = (c + v - 1) / v := ⟨_, rfl⟩
  have h1 := Int.mul_ediv_add_emod (c + v - 1) v
  have h2 := Int.emod_nonneg (c + v - 1) (show v ≠ 0 by omega)
  have h3 := Int.emod_lt_of_pos (c + v - 1) (show 0 < v by omega)
  rw [← hq] at h1
  have hq0 : 0 ≤ q := by rw [hq]; exact Int.ediv_nonneg (by omega) (by omega)
  refine ⟨v * q, by omega, by omega, q :: noS V.length, by simp [noS], fun x hx => ?_, by simp only [dotS, noS]; rw [dot_zeros]; omega⟩
  rcases List.mem_cons.1 hx with e | e
  · rw [e]; exact hq0
  · rw [List.eq_of_mem_replicate e]; exact Int.le_refl _
set_option maxRecDepth 10000
set_option maxHeartbeats 16000000
def cmpI (x y : Int) : Int := if x < y then -1 else if y < x then 1 else 0
section
variable {S : Kn} (hS : S.Only [22]) {m : Nat} {h : Hp} {nx : Nat}
include hS
theorem c152 (hm : 1 ≤ m) (x : Int) : callF 152 [vi x] (execL Tryz.prog vmL S m) h nx = .gen (.bool false) h nx [] := by
  refine fun152.ground (hS _ _ _ _ (by decide)) (by omega) rfl (by simp) ?_
  simp (maxSteps := 10000000) (implicitDefEqProofs := false) (disch := omega) only [s152, bne_self_eq_false, bz, put_none2, Nat.reduceEqDiff, Nat.reduceLT, Nat.reduceAdd]
  exact ⟨_, _, rfl⟩
theorem c154 (hm : 1 ≤ m) (x : Int) : callF 154 [vi x] (execL Tryz.prog vmL S m) h nx = .gen (vi x) h nx [] := by
  refine fun154.ground (hS _ _ _ _ (by decide)) (by omega) rfl (by simp) ?_
  simp (maxSteps := 10000000) (implicitDefEqProofs := false) (disch := omega) only [s154, bz, put_none2, Nat.reduceEqDiff, Nat.reduceLT, Nat.reduceAdd]
  exact ⟨_, _, rfl⟩
theorem c146 (hm : 2 ≤ m) (x y : Int) : callF 146 [vi x, vi y] (execL Tryz.prog vmL S m) h nx = .gen (vi (cmpI x y)) h nx [] := by
  refine fun146.ground (hS _ _ _ _ (by decide)) (by omega) rfl (by simp) ?_
  have k152 := fun (h : Hp) (nx : Nat) (x : Int) => c152 hS (m := m - 1) (h := h) (nx := nx) (by omega) x
  unfold cmpI
  by_cases q1 : x < y
  · simp (maxSteps := 10000000) (implicitDefEqProofs := false) (disch := omega) only [s146, k152, q1, if_true, bz, put_none2, Nat.reduceEqDiff, Nat.reduceLT, Nat.reduceAdd]
    exact ⟨_, _, rfl⟩
  · by_cases q2 : y < x
    · simp (maxSteps := 10000000) (implicitDefEqProofs := false) (disch := omega) only [s146, k152, q1, q2, gt_iff_lt, if_true, if_false, bz, put_none2, Nat.reduceEqDiff, Nat.reduceLT, Nat.reduceAdd]
      exact ⟨_, _, rfl⟩
    · simp (maxSteps := 10000000) (implicitDefEqProofs := false) (disch := omega) only [s146, k152, q1, q2, gt_iff_lt, if_true, if_false, bz, put_none2, Nat.reduceEqDiff, Nat.reduceLT, Nat.reduceAdd]
      exact ⟨_, _, rfl⟩
end
theorem int_at {h : Hp} {nx : Nat} {v : Value} {zs : List Int} (hv : Lst h nx 1 v (ints zs)) {i : Nat} (hi : i < zs.length) : ∃ rr o cs c, v = .slice (some ⟨rr, o, none⟩) zs.length c ∧ rowL h rr = some cs ∧ rr < nx ∧ part1 false 1 cs (o + i * 1) = some (vi zs[i]) := by
  obtain ⟨a, c, rfl, _⟩ := hv.form
  have hil : (ints zs).length = zs.length := by simp [ints]
  rw [hil] at hv ⊢
  obtain ⟨_, rr, o, row, cs, rfl, hrn, hrow, hrl, hcs, ho, hseg⟩ := hv.load (i := i) hi
  have hrw : row = [vi zs[i]] := by
    unfold ints at hrow
    rw [List.getElem?_map, List.getElem?_eq_getElem hi] at hrow
    exact (Option.some.inj hrow).symm
  subst hrw
  exact ⟨rr, o, cs, c, rfl, hcs, hrn, part1_el (row := []) hseg⟩
theorem sum_take {zs : List Int} {i : Nat} (h : i < zs.length) : (zs.take (i + 1)).sum = (zs.take i).sum + zs[i] := by
  rw [List.take_add_one, List.getElem?_eq_getElem h, Option.toList_some, List.sum_append]
  simp
theorem sum_bound {zs : List Int} (hB : ∀ z, z ∈ zs → -1000000000 ≤ z ∧ z ≤ 1000000000) : ∀ i : Nat, -(1000000000 * (i : Int)) ≤ (zs.take i).sum ∧ (zs.take i).sum ≤ 1000000000 * (i : Int) := by
  intro i
  induction i with
  | zero => simp
  | succ i ih =>
    by_cases h : i < zs.length
    · have := hB _ (List.getElem_mem h)
      rw [sum_take h]; omega
    · rw [List.take_of_length_le (by omega)]
      rw [List.take_of_length_le (by omega)] at ih
      omega
theorem loop153 {ih : Rec} {zs : List Int} {z : Z} {vs : Vs} {h : Hp} {nx : Nat} {v : Value} (hl : zs.length ≤ 1000) (hv : Lst h nx 1 v (ints zs)) (hB : ∀ z, z ∈ zs → -1000000000 ≤ z ∧ z ≤ 1000000000)
    (hp : ∀ x, callF 154 [vi x] ih h nx = .gen (vi x) h nx [])
    (g0 : vs 0 = some (.func (.func 154) #[] #[])) (g5 : vs 5 = some (vi 0)) (g8 : vs 8 = some v) (g9 : vs 9 = some (vi zs.length)) (g10 : vs 10 = some (vi 0)) {r : R} (hr : loopR (sC Tryz.prog 21 21 ih l153_0) z vs h nx = r) :
    ∃ vs', r = .exi 0 z vs' h nx ∧ vs' 5 = some (vi zs.sum) := by
  subst hr
  refine loop_rule (Post := fun r => ∃ vs', r = .exi 0 z vs' h nx ∧ vs' 5 = some (vi zs.sum))
    (fun i z' vs' h' nx' => i ≤ zs.length ∧ z' = z ∧ nx' = nx ∧ h' = h ∧ vs' 0 = some (.func (.func 154) #[] #[]) ∧ vs' 5 = some (vi (zs.take i).sum) ∧ vs' 8 = some v ∧ vs' 9 = some (vi zs.length) ∧ vs' 10 = some (vi (i : Int))) zs.length (by omega)
    ⟨Nat.zero_le _, rfl, rfl, rfl, g0, g5, g8, g9, g10⟩ ?_
  rintro i z' vs' h' nx' ⟨hi, rfl, rfl, rfl, e0, e5, e8, e9, e10⟩
  by_cases hlt : i < zs.length
  · left
    obtain ⟨rr, o, cs, c, rfl, hcs, hrn, hel⟩ := int_at hv hlt
    have h1 : ((i : Int) < (zs.length : Int)) := by omega
    have b1 := sum_bound hB i
    have b2 := hB _ (List.getElem_mem hlt)
    have hw := sum_take hlt
    generalize zs[i] = x at *
    refine ⟨hlt, z', _, _, _, (by simp (maxSteps := 10000000) (implicitDefEqProofs := false) (disch := omega) only [l153_0, e0, e5, e8, e9, e10, h1, hcs, hel, hp, o_callT, List.nil_append, List.append_nil, List.cons_append, plS_24_0_, plS_24_2_0_1, bz, put_none2, Nat.reduceEqDiff, Nat.reduceLT, Nat.reduceAdd]; exact rfl), by omega, rfl, rfl, rfl, ?_, ?_, ?_, ?_, ?_⟩
    · simp only [pq, Nat.reduceEqDiff, e0]
    · simp only [pq, Nat.reduceEqDiff, hw]
    · simp only [pq, Nat.reduceEqDiff, e8]
    · simp only [pq, Nat.reduceEqDiff, e9]
    · simp only [pq, Nat.reduceEqDiff]; rfl
  · right
    have h1 : ¬ ((i : Int) < (zs.length : Int)) := by omega
    have hie : i = zs.length := by omega
    have e : ∃ vs2, sC Tryz.prog 21 21 ih l153_0 z' vs' h' nx' = .exi 0 z' vs2 h' nx' ∧ vs2 5 = vs' 5 := by
      refine ⟨_, by simp (maxSteps := 10000000) (implicitDefEqProofs := false) (disch := omega) only [l153_0, e0, e5, e8, e9, e10, h1, plS_24_0_, plS_24_2_0_1, bz, put_none2, Nat.reduceEqDiff, Nat.reduceLT, Nat.reduceAdd]; exact rfl, ?_⟩
      simp only [pg, Nat.reduceEqDiff]
    obtain ⟨vs2, e, q5⟩ := e
    rw [e]
    rw [hie, List.take_length] at e5
    exact ⟨trivial, vs2, rfl, q5.trans e5⟩
theorem c153 {S : Kn} (hS : S.Only [22]) {m : Nat} (hm : 2 ≤ m) {zs : List Int} {h : Hp} {nx : Nat} {v : Value} (hl : zs.length ≤ 1000) (hv : Lst h nx 1 v (ints zs)) (hB : ∀ z, z ∈ zs → -1000000000 ≤ z ∧ z ≤ 1000000000) :
    callF 153 [.func (.func 154) #[] #[], v] (execL Tryz.prog vmL S m) h nx = .gen (vi zs.sum) h nx [] := by
  refine fun153.ground (hS _ _ _ _ (by decide)) (by omega) rfl (by simp) ?_
  obtain ⟨a, c, e1, _⟩ := hv.form
  rw [ints_len] at e1
  simp (maxSteps := 10000000) (implicitDefEqProofs := false) (disch := omega) only [s153, s_loop, e1, plS_24_0_, plS_24_2_0_1, bz, put_none2, Nat.reduceEqDiff, Nat.reduceLT, Nat.reduceAdd]
  generalize hr : loopR _ _ _ _ _ = r
  obtain ⟨vs', rfl, e5⟩ := loop153 hl hv hB (fun x => c154 hS (by omega) x) rfl rfl (by rw [e1]; rfl) rfl rfl hr
  simp (maxSteps := 10000000) (implicitDefEqProofs := false) (disch := omega) only [e5, plS_24_0_, plS_24_2_0_1, bz, put_none2, Nat.reduceEqDiff, Nat.reduceLT, Nat.reduceAdd]
  exact ⟨_, _, rfl⟩
open Go Go.Proofs Go.Lm
set_option maxRecDepth 10000
set_option maxHeartbeats 16000000
def lotV (A : List Int) : List Value := A.map vi
theorem lotV_len (A : List Int) : (lotV A).length = A.length := by simp [lotV]
def orI : List Int → Int
  | [] => 0
  | x :: l => if x = 0 then orI l else x
def lexI : List Int → List Int → Int
  | a :: A, b :: B => if cmpI a b = 0 then lexI A B else cmpI a b
  | _, _ => 0
theorem cmpI_lt (x y : Int) : cmpI x y < 0 ↔ x < y := by
  unfold cmpI
  by_cases h : x < y
  · rw [if_pos h]; omega
  · rw [if_neg h]
    by_cases h2 : y < x
    · rw [if_pos h2]; omega
    · rw [if_neg h2]; omega
theorem cmpI_zero (x y : Int) : cmpI x y = 0 ↔ x = y := by
  unfold cmpI
  by_cases h : x < y
  · rw [if_pos h]; omega
  · rw [if_neg h]
    by_cases h2 : y < x
    · rw [if_pos h2]; omega
    · rw [if_neg h2]; omega
theorem lexI_lt : ∀ (A B : List Int), lexI A B < 0 ↔ lexS A B = true
  | [], _ => by simp [lexI, lexS]
  | _ :: _, [] => by simp [lexI, lexS]
  | a :: A, b :: B => by
    have ih := lexI_lt A B
    simp only [lexI, lexS, Bool.or_eq_true, Bool.and_eq_true, decide_eq_true_eq]
    by_cases h : cmpI a b = 0
    · have e := (cmpI_zero a b).1 h
      rw [if_pos h, ih]
      constructor
      · intro q; exact .inr ⟨e, q⟩
      · rintro (q | ⟨_, q⟩)
        · omega
        · exact q
    · rw [if_neg h, cmpI_lt]
      have hne : ¬ a = b := fun q => h ((cmpI_zero a b).2 q)
      constructor
      · intro q; exact .inl q
      · rintro (q | ⟨q, _⟩)
        · exact q
        · exact absurd q hne
theorem orI_bet (A B : List Int) : orI [cmpI A.sum B.sum, lexI A B] < 0 ↔ betS A B = true := by
  unfold betS
  simp only [Bool.or_eq_true, Bool.and_eq_true, decide_eq_true_eq]
  rw [← cmpI_lt A.sum B.sum, ← cmpI_zero A.sum B.sum, ← lexI_lt A B]
  show (if cmpI A.sum B.sum = 0 then (if lexI A B = 0 then 0 else lexI A B) else cmpI A.sum B.sum) < 0 ↔ _
  by_cases e : cmpI A.sum B.sum = 0
  · rw [if_pos e]
    by_cases q : lexI A B = 0
    · rw [if_pos q]; omega
    · rw [if_neg q]; omega
  · rw [if_neg e]; omega
theorem loop145 {ih : Rec} {zs : List Int} {z : Z} {vs : Vs} {h : Hp} {nx : Nat} {v : Value} (hl : zs.length ≤ 1000) (hv : Lst h nx 1 v (ints zs))
    (g3 : vs 3 = some (vi 0)) (g6 : vs 6 = some v) (g7 : vs 7 = some (vi zs.length)) (g8 : vs 8 = some (vi 0)) {r : R} (hr : loopR (sC Tryz.prog 18 18 ih l145_0) z vs h nx = r) :
    (orI zs = 0 ∧ ∃ vs', r = .exi 0 z vs' h nx ∧ vs' 3 = some (vi 0)) ∨ (∃ vs', r = .ret z vs' h nx ∧ vs' 2 = some (vi (orI zs))) := by
  subst hr
  refine loop_rule (Post := fun r => (orI zs = 0 ∧ ∃ vs', r = .exi 0 z vs' h nx ∧ vs' 3 = some (vi 0)) ∨ (∃ vs', r = .ret z vs' h nx ∧ vs' 2 = some (vi (orI zs))))
    (fun i z' vs' h' nx' => i ≤ zs.length ∧ z' = z ∧ nx' = nx ∧ h' = h ∧ vs' 3 = some (vi 0) ∧ vs' 6 = some v ∧ vs' 7 = some (vi zs.length) ∧ vs' 8 = some (vi (i : Int)) ∧ orI zs = orI (zs.drop i)) zs.length (by omega)
    ⟨Nat.zero_le _, rfl, rfl, rfl, g3, g6, g7, g8, rfl⟩ ?_
  rintro i z' vs' h' nx' ⟨hi, rfl, rfl, rfl, e3, e6, e7, e8, eo⟩
  by_cases hlt : i < zs.length
  · obtain ⟨rr, o, cs, c, rfl, hcs, hrn, hel⟩ := int_at hv hlt
    have h1 : ((i : Int) < (zs.length : Int)) := by omega
    rw [List.drop_eq_getElem_cons hlt] at eo
    simp only [orI] at eo
    generalize zs[i] = x at *
    by_cases hx : x = 0
    · left
      subst hx
      rw [if_pos rfl] at eo
      have hb : ((0 : Int) != 0) = false := rfl
      refine ⟨hlt, z', _, _, _, (by simp (maxSteps := 10000000) (implicitDefEqProofs := false) (disch := omega) only [l145_0, e3, e6, e7, e8, h1, hcs, hel, hb, plS_24_0_, plS_24_2_0_1, bz, put_none2, Nat.reduceEqDiff, Nat.reduceLT, Nat.reduceAdd]; exact rfl), by omega, rfl, rfl, rfl, ?_, ?_, ?_, ?_, eo⟩
      · simp only [pq, Nat.reduceEqDiff, e3]
      · simp only [pq, Nat.reduceEqDiff, e6]
      · simp only [pq, Nat.reduceEqDiff, e7]
      · simp only [pq, Nat.reduceEqDiff]; rfl
    · right
      rw [if_neg hx] at eo
      have hb : (x == 0) = false := by simpa using hx
      have e : ∃ vs2, sC Tryz.prog 18 18 ih l145_0 z' vs' h' nx' = .ret z' vs2 h' nx' ∧ vs2 2 = some (vi x) := by
        refine ⟨_, by simp (maxSteps := 10000000) (implicitDefEqProofs := false) (disch := omega) only [l145_0, e3, e6, e7, e8, h1, hcs, hel, hb, Bool.not_false, plS_24_0_, plS_24_2_0_1, bz, put_none2, Nat.reduceEqDiff, Nat.reduceLT, Nat.reduceAdd]; exact rfl, ?_⟩
        simp only [pg, Nat.reduceEqDiff]
      obtain ⟨vs2, e, q2⟩ := e
      rw [e]
      exact ⟨trivial, .inr ⟨vs2, rfl, by rw [eo]; exact q2⟩⟩
  · right
    have h1 : ¬ ((i : Int) < (zs.length : Int)) := by omega
    have hie : i = zs.length := by omega
    have e : ∃ vs2, sC Tryz.prog 18 18 ih l145_0 z' vs' h' nx' = .exi 0 z' vs2 h' nx' ∧ vs2 3 = vs' 3 := by
      refine ⟨_, by simp (maxSteps := 10000000) (implicitDefEqProofs := false) (disch := omega) only [l145_0, e3, e6, e7, e8, h1, plS_24_0_, plS_24_2_0_1, bz, put_none2, Nat.reduceEqDiff, Nat.reduceLT, Nat.reduceAdd]; exact rfl, ?_⟩
      simp only [pg, Nat.reduceEqDiff]
    obtain ⟨vs2, e, q3⟩ := e
    rw [e]
    refine ⟨trivial, .inl ⟨?_, vs2, rfl, q3.trans e3⟩⟩
    rw [eo, List.drop_of_length_le (by omega)]; rfl
theorem c145 {S : Kn} (hS : S.Only [22]) {m : Nat} (hm : 1 ≤ m) {zs : List Int} {h : Hp} {nx : Nat} {v : Value} (hl : zs.length ≤ 1000) (hv : Lst h nx 1 v (ints zs)) :
    callF 145 [v] (execL Tryz.prog vmL S m) h nx = .gen (vi (orI zs)) h nx [] := by
  refine fun145.ground (hS _ _ _ _ (by decide)) (by omega) rfl (by simp) ?_
  obtain ⟨a, c, e1, _⟩ := hv.form
  rw [ints_len] at e1
  simp (maxSteps := 10000000) (implicitDefEqProofs := false) (disch := omega) only [s145, s_loop, e1, plS_24_0_, plS_24_2_0_1, bz, put_none2, Nat.reduceEqDiff, Nat.reduceLT, Nat.reduceAdd]
  generalize hr : loopR _ _ _ _ _ = r
  rcases loop145 hl hv rfl (by rw [e1]; rfl) rfl rfl hr with ⟨eo, vs', rfl, q⟩ | ⟨vs', rfl, q⟩
  · rw [eo]
    simp (maxSteps := 10000000) (implicitDefEqProofs := false) (disch := omega) only [q, plS_24_0_, plS_24_2_0_1, bz, put_none2, Nat.reduceEqDiff, Nat.reduceLT, Nat.reduceAdd]
    exact ⟨_, _, rfl⟩
  · simp (maxSteps := 10000000) (implicitDefEqProofs := false) (disch := omega) only [q, plS_24_0_, plS_24_2_0_1, bz, put_none2, Nat.reduceEqDiff, Nat.reduceLT, Nat.reduceAdd]
    exact ⟨_, _, rfl⟩
theorem loop148 {ih : Rec} {A B : List Int} {z : Z} {vs : Vs} {h : Hp} {nx : Nat} {v w : Value} (hl : A.length ≤ 1000) (hAB : A.length = B.length) (hv : Lst h nx 1 v (ints A)) (hw : Lst h nx 1 w (ints B))
    (hp : ∀ x y, callF 146 [vi x, vi y] ih h nx = .gen (vi (cmpI x y)) h nx [])
    (g0 : vs 0 = some v) (g1 : vs 1 = some w) (g9 : vs 9 = some v) (g10 : vs 10 = some (vi A.length)) (g11 : vs 11 = some (vi 0)) {r : R} (hr : loopR (sC Tryz.prog 36 36 ih l148_0) z vs h nx = r) :
    (lexI A B = 0 ∧ ∃ vs', r = .exi 0 z vs' h nx ∧ vs' 0 = some v ∧ vs' 1 = some w) ∨ (∃ vs', r = .ret z vs' h nx ∧ vs' 4 = some (vi (lexI A B))) := by
  subst hr
  refine loop_rule (Post := fun r => (lexI A B = 0 ∧ ∃ vs', r = .exi 0 z vs' h nx ∧ vs' 0 = some v ∧ vs' 1 = some w) ∨ (∃ vs', r = .ret z vs' h nx ∧ vs' 4 = some (vi (lexI A B))))
    (fun i z' vs' h' nx' => i ≤ A.length ∧ z' = z ∧ nx' = nx ∧ h' = h ∧ vs' 0 = some v ∧ vs' 1 = some w ∧ vs' 9 = some v ∧ vs' 10 = some (vi A.length) ∧ vs' 11 = some (vi (i : Int)) ∧ lexI A B = lexI (A.drop i) (B.drop i)) A.length (by omega)
    ⟨Nat.zero_le _, rfl, rfl, rfl, g0, g1, g9, g10, g11, rfl⟩ ?_
  rintro i z' vs' h' nx' ⟨hi, rfl, rfl, rfl, e0, e1, e9, e10, e11, eo⟩
  obtain ⟨wa, wc, hwf, _⟩ := hw.form
  rw [ints_len, ← hAB] at hwf
  by_cases hlt : i < A.length
  · obtain ⟨rr, o, cs, c, hv2, hcs, hrn, hel⟩ := int_at hv hlt
    obtain ⟨rr2, o2, cs2, c2, hw2, hcs2, hrn2, hel2⟩ := int_at hw (i := i) (by omega)
    rw [← hAB] at hw2
    have h1 : ((i : Int) < (A.length : Int)) := by omega
    have h2 : ¬ ((A.length : Int) ≤ (i : Int)) := by omega
    rw [List.drop_eq_getElem_cons hlt, List.drop_eq_getElem_cons (show i < B.length by omega)] at eo
    simp only [lexI] at eo
    generalize A[i] = x at *
    generalize B[i] = y at *
    rw [hv2] at e0 e9
    rw [hw2] at e1
    have hcc := hp x y
    by_cases hx : cmpI x y = 0
    · left
      rw [if_pos hx] at eo
      rw [hx] at hcc
      have hb : ((0 : Int) != 0) = false := rfl
      refine ⟨hlt, z', _, _, _, (by simp (maxSteps := 10000000) (implicitDefEqProofs := false) (disch := omega) only [l148_0, e0, e1, e9, e10, e11, h1, h2, ge_iff_le, hcs, hel, hcs2, hel2, hcc, hb, plS_24_0_, plS_24_2_0_1, bz, put_none2, Nat.reduceEqDiff, Nat.reduceLT, Nat.reduceAdd]; exact rfl), by omega, rfl, rfl, rfl, ?_, ?_, ?_, ?_, ?_, eo⟩
      · rw [hv2]; simp only [pq, Nat.reduceEqDiff, e0]
      · rw [hw2]; simp only [pq, Nat.reduceEqDiff, e1]
      · rw [hv2]; simp only [pq, Nat.reduceEqDiff, e9]
      · simp only [pq, Nat.reduceEqDiff, e10]
      · simp only [pq, Nat.reduceEqDiff]; rfl
    · right
      rw [if_neg hx] at eo
      generalize cmpI x y = q at *
      have hb : (q == 0) = false := by simpa using hx
      have e : ∃ vs2, sC Tryz.prog 36 36 ih l148_0 z' vs' h' nx' = .ret z' vs2 h' nx' ∧ vs2 4 = some (vi q) := by
        refine ⟨_, by simp (maxSteps := 10000000) (implicitDefEqProofs := false) (disch := omega) only [l148_0, e0, e1, e9, e10, e11, h1, h2, ge_iff_le, hcs, hel, hcs2, hel2, hcc, hb, Bool.not_false, plS_24_0_, plS_24_2_0_1, bz, put_none2, Nat.reduceEqDiff, Nat.reduceLT, Nat.reduceAdd]; exact rfl, ?_⟩
        simp only [pg, Nat.reduceEqDiff]
      obtain ⟨vs2, e, q2⟩ := e
      rw [e]
      exact ⟨trivial, .inr ⟨vs2, rfl, by rw [eo]; exact q2⟩⟩
  · right
    have h1 : ¬ ((i : Int) < (A.length : Int)) := by omega
    have e : ∃ vs2, sC Tryz.prog 36 36 ih l148_0 z' vs' h' nx' = .exi 0 z' vs2 h' nx' ∧ vs2 0 = vs' 0 ∧ vs2 1 = vs' 1 := by
      refine ⟨_, by simp (maxSteps := 10000000) (implicitDefEqProofs := false) (disch := omega) only [l148_0, e0, e1, e9, e10, e11, h1, plS_24_0_, plS_24_2_0_1, bz, put_none2, Nat.reduceEqDiff, Nat.reduceLT, Nat.reduceAdd]; exact rfl, ?_, ?_⟩ <;>
      simp only [pg, Nat.reduceEqDiff]
    obtain ⟨vs2, e, q0, q1⟩ := e
    rw [e]
    refine ⟨trivial, .inl ⟨?_, vs2, rfl, q0.trans e0, q1.trans e1⟩⟩
    rw [eo, List.drop_of_length_le (by omega)]; rfl
theorem c148 {S : Kn} (hS : S.Only [22]) {m : Nat} (hm : 3 ≤ m) {A B : List Int} {h : Hp} {nx : Nat} {v w : Value} (hl : A.length ≤ 1000) (hAB : A.length = B.length) (hv : Lst h nx 1 v (ints A)) (hw : Lst h nx 1 w (ints B)) :
    callF 148 [v, w] (execL Tryz.prog vmL S m) h nx = .gen (vi (lexI A B)) h nx [] := by
  refine fun148.ground (hS _ _ _ _ (by decide)) (by omega) rfl (by simp) ?_
  obtain ⟨a, c, e1, _⟩ := hv.form
  obtain ⟨a2, c2, e2, _⟩ := hw.form
  rw [ints_len] at e1 e2
  rw [← hAB] at e2
  simp (maxSteps := 10000000) (implicitDefEqProofs := false) (disch := omega) only [s148, s_loop, e1, e2, plS_24_0_, plS_24_2_0_1, bz, put_none2, Nat.reduceEqDiff, Nat.reduceLT, Nat.reduceAdd]
  generalize hr : loopR _ _ _ _ _ = r
  rcases loop148 hl hAB hv hw (fun x y => c146 hS (by omega) x y) (by rw [e1]; rfl) (by rw [e2]; rfl) (by rw [e1]; rfl) rfl rfl hr with ⟨eo, vs', rfl, q0, q1⟩ | ⟨vs', rfl, q⟩
  · rw [eo]
    rw [e1] at q0
    rw [e2] at q1
    simp (maxSteps := 10000000) (implicitDefEqProofs := false) (disch := omega) only [q0, q1, Int.lt_irrefl, plS_24_0_, plS_24_2_0_1, bz, put_none2, Nat.reduceEqDiff, Nat.reduceLT, Nat.reduceAdd]
    exact ⟨_, _, rfl⟩
  · simp (maxSteps := 10000000) (implicitDefEqProofs := false) (disch := omega) only [q, plS_24_0_, plS_24_2_0_1, bz, put_none2, Nat.reduceEqDiff, Nat.reduceLT, Nat.reduceAdd]
    exact ⟨_, _, rfl⟩
theorem eq149n (x y : Operand) (a b c d e : Nat) : binV Tryz.prog .eql 149 x y (.agg #[vi (a : Int), vi (b : Int), vi (c : Int), vi (d : Int), vi (e : Int)]) (.agg #[vi 0, vi 0, vi 0, vi 0, vi 0]) = some (.bool (Nat.beq a 0 && (Nat.beq b 0 && (Nat.beq c 0 && (Nat.beq d 0 && Nat.beq e 0))))) := by
  cases a <;> cases b <;> cases c <;> cases d <;> cases e <;> (as_aux_lemma => kernel_rfl)
theorem neq149n (x y : Operand) (a b c d e : Nat) : binV Tryz.prog .neq 149 x y (.agg #[vi (a : Int), vi (b : Int), vi (c : Int), vi (d : Int), vi (e : Int)]) (.agg #[vi 0, vi 0, vi 0, vi 0, vi 0]) = some (.bool (!(Nat.beq a 0 && (Nat.beq b 0 && (Nat.beq c 0 && (Nat.beq d 0 && Nat.beq e 0)))))) := by
  cases a <;> cases b <;> cases c <;> cases d <;> cases e <;> (as_aux_lemma => kernel_rfl)
def noneQ (L : List Int) : Bool := decide (L = [0, 0, 0, 0, 0])
theorem noneQ_is (a b c d e : Nat) : noneQ [(a : Int), b, c, d, e] = (Nat.beq a 0 && (Nat.beq b 0 && (Nat.beq c 0 && (Nat.beq d 0 && Nat.beq e 0)))) := by
  unfold noneQ
  have hb : ∀ n : Nat, Nat.beq n 0 = decide (n = 0) := fun n => by cases n <;> rfl
  simp only [hb]
  by_cases h1 : a = 0 <;> by_cases h2 : b = 0 <;> by_cases h3 : c = 0 <;> by_cases h4 : d = 0 <;> by_cases h5 : e = 0 <;> simp [h1, h2, h3, h4, h5]
theorem five {L : List Int} (h : L.length = 5) : ∃ a b c d e, L = [a, b, c, d, e] := by
  match L, h with
  | [a, b, c, d, e], _ => exact ⟨a, b, c, d, e, rfl⟩
theorem eq149 (x y : Operand) {L : List Int} (h : L.length = 5) (hp : ∀ z, z ∈ L → 0 ≤ z) : binV Tryz.prog .eql 149 x y (.agg (lotV L).toArray) (.agg #[vi 0, vi 0, vi 0, vi 0, vi 0]) = some (.bool (noneQ L)) ∧ binV Tryz.prog .neq 149 x y (.agg (lotV L).toArray) (.agg #[vi 0, vi 0, vi 0, vi 0, vi 0]) = some (.bool (!noneQ L)) := by
  obtain ⟨a, b, c, d, e, rfl⟩ := five h
  simp only [List.mem_cons, List.not_mem_nil, or_false, forall_eq_or_imp, forall_eq] at hp
  obtain ⟨h1, h2, h3, h4, h5⟩ := hp
  obtain ⟨a, rfl⟩ := Int.eq_ofNat_of_zero_le h1
  obtain ⟨b, rfl⟩ := Int.eq_ofNat_of_zero_le h2
  obtain ⟨c, rfl⟩ := Int.eq_ofNat_of_zero_le h3
  obtain ⟨d, rfl⟩ := Int.eq_ofNat_of_zero_le h4
  obtain ⟨e, rfl⟩ := Int.eq_ofNat_of_zero_le h5
  rw [noneQ_is]
  exact ⟨eq149n x y a b c d e, neq149n x y a b c d e⟩
theorem lot_row {h : Hp} {nx r : Nat} {L : List Int} (hl : L.length = 5) (hr : r < nx) (hc : rowL h r = some (lotV L)) : Lst h nx 1 (.slice (some ⟨r, 0, none⟩) 5 5) (ints L) := by
  have := lst_rowc (h := h) (l := lotV L) 5 hr hc
  rw [lotV_len, hl] at this
  have e : (lotV L).map (fun x => [x]) = ints L := by unfold lotV ints; rw [List.map_map]; rfl
  rw [e] at this
  exact this
theorem sl5 (r : Nat) : sliceA 5 1 (some (.pointer (some ⟨r, 0, none⟩))) (some none) (some none) (some none) = some (.slice (some ⟨r, 0, none⟩) 5 5) := sliceA_all (by decide)
theorem blt5 : Nat.blt 5 HALF = true := rfl
theorem c147 {S : Kn} (hS : S.Only [22]) {m : Nat} (hm : 3 ≤ m) {L : List Int} {h : Hp} {nx : Nat} (hl : L.length = 5) (hB : ∀ z, z ∈ L → -1000000000 ≤ z ∧ z ≤ 1000000000) :
    callF 147 [.agg (lotV L).toArray] (execL Tryz.prog vmL S m) h nx = .gen (vi L.sum) h nx [] := by
  refine fun147.ground (hS _ _ _ _ (by decide)) (by omega) rfl (by simp) ?_
  have hr : rowL (hset h nx (.cells (lotV L) none)) nx = some (lotV L) := rowL_hset_same _ _
  have k153 := c153 hS (m := m - 1) (by omega) (zs := L) (by omega) (lot_row (nx := nx + 1) hl (by omega) hr) hB
  simp (maxSteps := 10000000) (implicitDefEqProofs := false) (disch := omega) only [s147, o_slice, opVO_none, sl5, blt5, k153, plB_149_, plS_24_0_, plS_24_2_0_1, bz, put_none2, Nat.reduceEqDiff, Nat.reduceLT, Nat.reduceAdd]
  exact ⟨_, _, rfl⟩
theorem c127 {S : Kn} (hS : S.Only [22]) {m : Nat} (hm : 4 ≤ m) {A B : List Int} {h : Hp} {nx : Nat} (hA : A.length = 5) (hB : B.length = 5) (bA : ∀ z, z ∈ A → -1000000000 ≤ z ∧ z ≤ 1000000000) (bB : ∀ z, z ∈ B → -1000000000 ≤ z ∧ z ≤ 1000000000) :
    callF 127 [.agg (lotV A).toArray, .agg (lotV B).toArray] (execL Tryz.prog vmL S m) h nx = .gen (.bool (betS A B)) h nx [] := by
  refine fun127.ground (hS _ _ _ _ (by decide)) (by omega) rfl (by simp) ?_
  obtain ⟨G, eG⟩ : ∃ x, x = hset (hset h nx (.cells (lotV A) none)) (nx + 1) (.cells (lotV B) none) := ⟨_, rfl⟩
  have r0 : rowL G nx = some (lotV A) := by rw [eG, rowL_hset_other _ (by omega)]; exact rowL_hset_same _ _
  have r1 : rowL G (nx + 1) = some (lotV B) := by rw [eG]; exact rowL_hset_same _ _
  have pA : part1 true 5 (lotV A) 0 = some (.agg (lotV A).toArray) := by
    have := part1_row (cs := lotV A) (row := lotV A) (o := 0) (n := 5) (by rw [lotV_len]; omega) (by rw [List.drop_zero, List.take_of_length_le (by rw [lotV_len]; omega)])
    exact this
  have pB : part1 true 5 (lotV B) 0 = some (.agg (lotV B).toArray) := by
    have := part1_row (cs := lotV B) (row := lotV B) (o := 0) (n := 5) (by rw [lotV_len]; omega) (by rw [List.drop_zero, List.take_of_length_le (by rw [lotV_len]; omega)])
    exact this
  have k147 := fun (h : Hp) (nx : Nat) => c147 hS (m := m - 1) (h := h) (nx := nx) (by omega) hA bA
  have k147' := fun (h : Hp) (nx : Nat) => c147 hS (m := m - 1) (h := h) (nx := nx) (by omega) hB bB
  have k146 := fun (h : Hp) (nx : Nat) (x y : Int) => c146 hS (m := m - 1) (h := h) (nx := nx) (by omega) x y
  have k148 := c148 hS (m := m - 1) (h := G) (nx := nx + 1 + 1) (by omega) (A := A) (B := B) (by omega) (by omega) (lot_row hA (by omega) r0) (lot_row hB (by omega) r1)
  have k145 : callF 145 [.slice (some ⟨nx + 1 + 1, 0, none⟩) 2 2] (execL Tryz.prog vmL S (m - 1)) (hset G (nx + 1 + 1) (.cells [vi (cmpI A.sum B.sum), vi (lexI A B)] none)) (nx + 1 + 1 + 1) = .gen (vi (orI [cmpI A.sum B.sum, lexI A B])) (hset G (nx + 1 + 1) (.cells [vi (cmpI A.sum B.sum), vi (lexI A B)] none)) (nx + 1 + 1 + 1) [] := c145 hS (m := m - 1) (h := hset G (nx + 1 + 1) (.cells [vi (cmpI A.sum B.sum), vi (lexI A B)] none)) (nx := nx + 1 + 1 + 1) (by omega) (zs := [cmpI A.sum B.sum, lexI A B]) (by simp) (lst_row (by omega) (rowL_hset_same _ _))
  have hlt : decide (orI [cmpI A.sum B.sum, lexI A B] < 0) = betS A B := by
    cases hb : betS A B with
    | true => exact decide_eq_true ((orI_bet A B).2 hb)
    | false => exact decide_eq_false fun q => by rw [(orI_bet A B).1 q] at hb; cases hb
  obtain ⟨q, eq⟩ : ∃ q, q = orI [cmpI A.sum B.sum, lexI A B] := ⟨_, rfl⟩
  rw [← eq] at k145 hlt
  simp (maxSteps := 10000000) (implicitDefEqProofs := false) (disch := omega) only [s127, lokx0, o_slice, opVO_none, sl5, blt5, ← eG, r0, r1, pA, pB, k147, k147', k146, k148, k145, hlt, g_un, gq_un, plS_147_1_0, plB_149_, plS_24_0_, plS_24_2_0_1, zeroE_147, appF_147, bz, put_none2, Nat.reduceEqDiff, Nat.reduceLT, Nat.reduceAdd]
  exact ⟨_, _, rfl⟩
set_option maxHeartbeats 32000000
theorem one_set : ∀ (i : Nat) (L : List Int) (h : i < L.length), oneS i L = L.set i (L[i] + 1)
  | _, [], h => by simp at h
  | 0, a :: L, _ => by simp [oneS]
  | i + 1, a :: L, h => by
    have := one_set i L (by simpa using h)
    simp only [oneS] at this
    simp [oneS, this]
theorem splice_set {L : List Int} {i : Nat} (h : i < L.length) (y : Int) : splice (lotV L) i [vi y] = some (lotV (L.set i y)) := by
  rw [splice_mid _ _ _ (by rw [lotV_len]; simp; omega)]
  unfold lotV
  rw [List.set_eq_take_append_cons_drop, if_pos h]
  simp
theorem c126 {S : Kn} (hS : S.Only [22]) {m : Nat} (hm : 1 ≤ m) {L : List Int} {h : Hp} {nx i : Nat} (hl : L.length = 5) (hi : i < 5) (hB : ∀ z, z ∈ L → -1000000000 ≤ z ∧ z ≤ 1000000000) :
    callF 126 [.agg (lotV L).toArray, vi (i : Int)] (execL Tryz.prog vmL S m) h nx = .gen (.agg (lotV (oneS i L)).toArray) h nx [] := by
  refine fun126.same (hS _ _ _ _ (by decide)) (by omega) (fun h1 => cmp3_agg (fun v hv => ?_) _) (by simp) ?_
  · obtain ⟨x, _, rfl⟩ := List.mem_map.1 hv
    exact rfl
  have hb := hB _ (List.getElem_mem (show i < L.length by omega))
  rw [one_set i L (by omega)]
  have hx : (lotV L)[i]? = some (vi L[i]) := by unfold lotV; rw [List.getElem?_map, List.getElem?_eq_getElem (by omega)]; rfl
  have hel : part1 false 1 (lotV L) (i * 1) = some (vi L[i]) := by rw [part1_one, Nat.mul_one]; exact hx
  have hsp : splice (lotV L) (i * 1) [.int .i64 (L[i] + 1)] = some (lotV (L.set i (L[i] + 1))) := by rw [Nat.mul_one]; exact splice_set (by omega) _
  have hix : idxOf 5 (.int .i64 (i : Int)) = some i := idx_nat 5 .i64 i hi
  have pA : ∀ B : List Int, B.length = 5 → part1 true 5 (lotV B) 0 = some (.agg (lotV B).toArray) := fun B hB => by
    have := part1_row (cs := lotV B) (row := lotV B) (o := 0) (n := 5) (by rw [lotV_len]; omega) (by rw [List.drop_zero, List.take_of_length_le (by rw [lotV_len]; omega)])
    exact this
  have pB := pA (L.set i (L[i] + 1)) (by simp [hl])
  have hsz : splice [.int .i64 0, .int .i64 0, .int .i64 0, .int .i64 0, .int .i64 0] 0 (lotV (L.set i (L[i] + 1))) = some (lotV (L.set i (L[i] + 1))) := splice_all _ _ (by rw [lotV_len, List.length_set, hl]; rfl)
  have hbq : Nat.beq (lotV (L.set i (L[i] + 1))).length 5 = true := by rw [lotV_len, List.length_set, hl]; rfl
  simp (maxSteps := 10000000) (implicitDefEqProofs := false) (disch := omega) only [s126, hix, hel, hsp, hsz, pB, hbq, log_own, plB_149_, bz, put_none2, Nat.reduceEqDiff, Nat.reduceLT, Nat.reduceAdd]
  exact ⟨_, _, rfl⟩
set_option maxHeartbeats 64000000
def zero5 : List Int := [0, 0, 0, 0, 0]
def pad5 (A : List Int) : List Int := A ++ List.replicate (5 - A.length) 0
theorem pad_len {A : List Int} (h : A.length ≤ 5) : (pad5 A).length = 5 := by unfold pad5; rw [List.length_append, List.length_replicate]; omega
theorem pad_mem {A : List Int} {x : Int} (h : x ∈ pad5 A) : x ∈ A ∨ x = 0 := by
  rcases List.mem_append.1 h with h | h
  · exact .inl h
  · exact .inr (List.eq_of_mem_replicate h)
theorem sum_zeros : ∀ n : Nat, (List.replicate n (0 : Int)).sum = 0
  | 0 => rfl
  | n + 1 => by simp [List.replicate_succ, sum_zeros n]
theorem pad_sum (A : List Int) : (pad5 A).sum = A.sum := by unfold pad5; rw [List.sum_append, sum_zeros]; omega
theorem lex_app : ∀ (A B C : List Int), A.length = B.length → lexS (A ++ C) (B ++ C) = lexS A B
  | [], [], C, _ => by rw [List.nil_append, lex_irr]; rfl
  | [], _ :: _, _, h => by simp at h
  | _ :: _, [], _, h => by simp at h
  | a :: A, b :: B, C, h => by
    simp only [List.cons_append, lexS]
    rw [lex_app A B C (by simpa using h)]
theorem pad_bet {A B : List Int} (h : A.length = B.length) : betS (pad5 A) (pad5 B) = betS A B := by
  unfold betS
  rw [pad_sum, pad_sum]
  unfold pad5
  rw [h, lex_app A B _ h]
theorem one_app : ∀ (i : Nat) (A C : List Int), i < A.length → oneS i (A ++ C) = oneS i A ++ C
  | _, [], _, h => by simp at h
  | 0, a :: A, C, _ => by simp [oneS]
  | i + 1, a :: A, C, h => by
    have := one_app i A C (by simpa using h)
    simp only [oneS] at this
    simp [oneS, this]
theorem pad_one {A : List Int} {i : Nat} (h : i < A.length) : oneS i (pad5 A) = pad5 (oneS i A) := by
  unfold pad5
  rw [one_len]
  exact one_app i A _ h
theorem pad_zero (k : Nat) (hk : k ≤ 5) : pad5 (noS k) = zero5 := by
  unfold pad5 noS zero5
  rw [List.length_replicate, List.replicate_append_replicate, show k + (5 - k) = 5 by omega]
  rfl
theorem pad_inj {A B : List Int} (hl : A.length = B.length) (h : pad5 A = pad5 B) : A = B := by
  unfold pad5 at h
  exact (List.append_inj h hl).1
def RowS (V : List Int) (j : Int) (L : List Int) : Prop := (∃ A, BestS V j A ∧ L = pad5 A) ∨ ((∀ B, ¬ LotS V j B) ∧ L = zero5)
theorem mem_le_sum {A : List Int} (h : ∀ x, x ∈ A → 0 ≤ x) {x : Int} (hx : x ∈ A) : x ≤ A.sum := by
  induction A with
  | nil => cases hx
  | cons a A ih =>
    have h1 := sum_nonneg A (fun y hy => h y (List.mem_cons_of_mem _ hy))
    have h2 := h a List.mem_cons_self
    rw [List.sum_cons]
    rcases List.mem_cons.1 hx with e | e
    · omega
    · have := ih (fun y hy => h y (List.mem_cons_of_mem _ hy)) e; omega
theorem lot_bound {V A : List Int} {w : Int} (h1 : ∀ v, v ∈ V → 1 ≤ v) (h : LotS V w A) : ∀ x, x ∈ A → 0 ≤ x ∧ x ≤ w := fun x hx => by
  have := mem_le_sum h.pos hx
  have := sum_le_dot V A h.len h1 h.pos
  rw [h.worth] at this
  exact ⟨h.pos x hx, by omega⟩
theorem pad_bound {V A : List Int} {w : Int} (h1 : ∀ v, v ∈ V → 1 ≤ v) (h : LotS V w A) (hw : 0 ≤ w) : ∀ x, x ∈ pad5 A → 0 ≤ x ∧ x ≤ w := fun x hx => by
  rcases pad_mem hx with h' | h'
  · exact lot_bound h1 h x h'
  · omega
theorem row_bound {V L : List Int} {w : Int} (h1 : ∀ v, v ∈ V → 1 ≤ v) (hw : 0 ≤ w) (h5 : V.length ≤ 5) (h : RowS V w L) : L.length = 5 ∧ ∀ x, x ∈ L → 0 ≤ x ∧ x ≤ w := by
  rcases h with ⟨A, hA, rfl⟩ | ⟨_, rfl⟩
  · exact ⟨pad_len (by rw [hA.lot.len]; exact h5), pad_bound h1 hA.lot hw⟩
  · refine ⟨rfl, fun x hx => ?_⟩
    simp only [zero5, List.mem_cons, List.not_mem_nil, or_false, or_self] at hx
    omega
def oL (o : Option (List Int)) : List Int := match o with | none => zero5 | some A => pad5 A
theorem upto_lot {V : List Int} {w : Int} {i : Nat} {C : List Int} (h : UptoS V w i (some C)) : LotS V w C := h.1
theorem noneQ_lot {V C : List Int} {w : Int} (h : LotS V w C) (hw : 0 < w) (h5 : V.length ≤ 5) : noneQ (pad5 C) = false := by
  unfold noneQ
  refine decide_eq_false fun e => lot_ne h hw ?_
  have : pad5 C = pad5 (noS V.length) := by rw [pad_zero _ h5]; exact e
  exact pad_inj (by rw [h.len]; simp [noS]) this
theorem lot_el {h : Hp} {nx : Nat} {v : Value} {Ls : List (List Int)} (hv : Lst h nx 5 v (Ls.map lotV)) {j : Nat} (hj : j < Ls.length) : ∃ rr o cs c, v = .slice (some ⟨rr, o, none⟩) Ls.length c ∧ rowL h rr = some cs ∧ rr < nx ∧ part1 true 5 cs (o + j * 5) = some (.agg (lotV Ls[j]).toArray) := by
  obtain ⟨a, c, rfl, _⟩ := hv.form
  have hil : (Ls.map lotV).length = Ls.length := by simp
  rw [hil] at hv ⊢
  obtain ⟨_, rr, o, row, cs, rfl, hrn, hrow, hrl, hcs, ho, hseg⟩ := hv.load (i := j) hj
  have hrw : row = lotV Ls[j] := by
    rw [List.getElem?_map, List.getElem?_eq_getElem hj] at hrow
    exact (Option.some.inj hrow).symm
  subst hrw
  exact ⟨rr, o, cs, c, rfl, hcs, hrn, part1_row ho hseg⟩
theorem lot_p1 {B : List Int} (hB : B.length = 5) : part1 true 5 (lotV B) 0 = some (.agg (lotV B).toArray) := by
  have := part1_row (cs := lotV B) (row := lotV B) (o := 0) (n := 5) (by rw [lotV_len]; omega) (by rw [List.drop_zero, List.take_of_length_le (by rw [lotV_len]; omega)])
  exact this
theorem lot_sp {B C : List Int} (hB : B.length = 5) (hC : C.length = 5) : splice (lotV C) 0 (lotV B) = some (lotV B) := splice_all _ _ (by rw [lotV_len, lotV_len, hB, hC])
theorem lot_bq {B : List Int} (hB : B.length = 5) : Nat.beq (lotV B).length 5 = true := by rw [lotV_len, hB]; rfl
theorem loop97 {S : Kn} (hS : S.Only [22]) {m : Nat} (hm : 5 ≤ m) {V : List Int} {Ls : List (List Int)} {z : Z} {vs : Vs} {h : Hp} {nx n0 p5 : Nat} {sv v1 : Value}
    (h1V : ∀ v, v ∈ V → 1 ≤ v) (h2V : ∀ v, v ∈ V → v ≤ 1000) (h5 : V.length ≤ 5) (hL0 : 0 < Ls.length) (hLl : Ls.length ≤ 30000) (hL : ∀ (j : Nat) L, Ls[j]? = some L → RowS V j L)
    (hn0 : z.n0 = n0) (hsv : Lst h n0 1 sv (ints V)) (hv1 : Lst h n0 5 v1 (Ls.map lotV)) (hp5 : n0 ≤ p5) (hp5n : p5 < nx) (hp5r : hget h p5 = some (.cells (lotV zero5) none))
    (g1 : vs 1 = some v1) (g5 : vs 5 = some (pt p5)) (g12 : vs 12 = some sv) (g13 : vs 13 = some (vi V.length)) (g14 : vs 14 = some (vi 0)) {r : R} (hr : loopR (sC Tryz.prog 54 54 (execL Tryz.prog vmL S m) l97_0) z vs h nx = r) :
    ∃ vs' h' nx' L, r = .exi 0 z vs' h' nx' ∧ RowS V Ls.length L ∧ hget h' p5 = some (.cells (lotV L) none) ∧ vs' 5 = some (pt p5) ∧ vs' 4 = vs 4 ∧ (∀ s, s < nx → s ≠ p5 → hget h' s = hget h s) := by
  subst hr hn0
  refine loop_rule (Post := fun r => ∃ vs' h' nx' L, r = .exi 0 z vs' h' nx' ∧ RowS V Ls.length L ∧ hget h' p5 = some (.cells (lotV L) none) ∧ vs' 5 = some (pt p5) ∧ vs' 4 = vs 4 ∧ (∀ s, s < nx → s ≠ p5 → hget h' s = hget h s))
    (fun i z' vs' h' nx' => i ≤ V.length ∧ z' = z ∧ nx ≤ nx' ∧ (∀ s, s < nx → s ≠ p5 → hget h' s = hget h s) ∧ vs' 1 = some v1 ∧ vs' 4 = vs 4 ∧ vs' 5 = some (pt p5) ∧ vs' 12 = some sv ∧ vs' 13 = some (vi V.length) ∧ vs' 14 = some (vi (i : Int)) ∧ ∃ o, UptoS V Ls.length i o ∧ hget h' p5 = some (.cells (lotV (oL o)) none)) V.length (by omega)
    ⟨Nat.zero_le _, rfl, Nat.le_refl _, fun _ _ _ => rfl, g1, rfl, g5, g12, g13, g14, none, upto_zero _ _, hp5r⟩ ?_
  rintro i z' vs' h' nx' ⟨hi, rfl, hnx, hkeep, e1, e4, e5, e12, e13, e14, o, ho, hrow⟩
  have hs : Same z'.n0 h h' := fun s hs => hkeep s (by omega) (by omega)
  have hsv' := hsv.same hs (Nat.le_refl _)
  have hv1' := hv1.same hs (Nat.le_refl _)
  obtain ⟨la, lc, hlf, _⟩ := hv1.form
  rw [List.length_map] at hlf
  rw [hlf] at e1
  have hrowp : rowL h' p5 = some (lotV (oL o)) := by unfold rowL; rw [hrow]
  by_cases hlt : i < V.length
  · left
    obtain ⟨rr, ro, cs, c, rfl, hcs, hrn, hel⟩ := int_at hsv' hlt
    have h1 : ((i : Int) < (V.length : Int)) := by omega
    have hvi : V[i]? = some V[i] := List.getElem?_eq_getElem hlt
    have hx1 := h1V _ (List.getElem_mem hlt)
    have hx2 := h2V _ (List.getElem_mem hlt)
    generalize V[i] = x at *
    by_cases hneg : (Ls.length : Int) - x < 0
    · have hu := upto_skip ho hvi (few_neg h1V hneg)
      refine ⟨hlt, z', _, _, _, (by simp (maxSteps := 10000000) (implicitDefEqProofs := false) (disch := omega) only [l97_0, e1, e5, e12, e13, e14, h1, hcs, hel, hneg, g_un, plS_147_1_0, plB_149_, plS_24_0_, plS_24_2_0_1, zeroE_147, appF_147, bz, put_none2, Nat.reduceEqDiff, Nat.reduceLT, Nat.reduceAdd]; exact rfl), by omega, rfl, hnx, hkeep, ?_, ?_, ?_, ?_, ?_, ?_, o, hu, hrow⟩
      · rw [hlf]; simp only [pq, Nat.reduceEqDiff, e1]
      · simp only [pq, Nat.reduceEqDiff, e4]
      · simp only [pq, Nat.reduceEqDiff, e5]
      · simp only [pq, Nat.reduceEqDiff, e12]
      · simp only [pq, Nat.reduceEqDiff, e13]
      · simp only [pq, Nat.reduceEqDiff]; rfl
    · obtain ⟨j, hj⟩ : ∃ j : Nat, (Ls.length : Int) - x = j := ⟨((Ls.length : Int) - x).toNat, by omega⟩
      have hjl : j < Ls.length := by omega
      have hLj := hL j _ (List.getElem?_eq_getElem hjl)
      obtain ⟨r2, o2, cs2, c2, hv2, hcs2, hrn2, hel2⟩ := lot_el hv1' hjl
      rw [hlf] at hv2
      injection hv2 with e_1 e_2 e_3
      subst e_1 e_3
      generalize Ls[j] = L at *
      obtain ⟨hL5, hLb⟩ := row_bound h1V (show (0 : Int) ≤ j by omega) h5 hLj
      rw [hj] at hneg
      have kz := fun y w => (eq149 y w hL5 (fun z hz => (hLb z hz).1)).1
      by_cases hskip : (0 : Int) < (j : Int) ∧ noneQ L = true
      · have hno : ∀ B, ¬ LotS V ((Ls.length : Int) - x) B := by
          rw [hj]
          rcases hLj with ⟨A, hA, rfl⟩ | ⟨hno, _⟩
          · have := noneQ_lot hA.lot hskip.1 h5
            rw [hskip.2] at this; cases this
          · exact hno
        have hu := upto_skip ho hvi hno
        have hg := hskip.1
        rw [hskip.2] at kz
        refine ⟨hlt, z', _, _, _, (by simp (maxSteps := 10000000) (implicitDefEqProofs := false) (disch := omega) only [l97_0, e1, e5, e12, e13, e14, h1, hcs, hel, hj, hneg, hg, gt_iff_lt, hcs2, hel2, kz, g_un, plS_147_1_0, plB_149_, plS_24_0_, plS_24_2_0_1, zeroE_147, appF_147, bz, put_none2, Nat.reduceEqDiff, Nat.reduceLT, Nat.reduceAdd]; exact rfl), by omega, rfl, hnx, hkeep, ?_, ?_, ?_, ?_, ?_, ?_, o, hu, hrow⟩
        · rw [hlf]; simp only [pq, Nat.reduceEqDiff, e1]
        · simp only [pq, Nat.reduceEqDiff, e4]
        · simp only [pq, Nat.reduceEqDiff, e5]
        · simp only [pq, Nat.reduceEqDiff, e12]
        · simp only [pq, Nat.reduceEqDiff, e13]
        · simp only [pq, Nat.reduceEqDiff]; rfl
      · obtain ⟨A, hA, hLA⟩ : ∃ A, BestS V (j : Int) A ∧ L = pad5 A := by
          rcases hLj with hA | ⟨hno, hz⟩
          · exact hA
          · by_cases hj0 : (0 : Int) < (j : Int)
            · exact absurd ⟨hj0, by rw [hz]; rfl⟩ hskip
            · have : j = 0 := by omega
              subst this
              exact absurd (best_zero V h1V).lot (hno _)
        have hu := upto_one ho hvi (by rw [hj]; exact hA)
        have hAi : i < A.length := by rw [hA.lot.len]; exact hlt
        have h1L : (oneS i L).length = 5 := by rw [one_len]; exact hL5
        have h1nn := one_nonneg i L (fun z hz => (hLb z hz).1)
        have h1b : ∀ z, z ∈ oneS i L → -1000000000 ≤ z ∧ z ≤ 1000000000 := fun z hz => by
          have h0 := h1nn z hz
          have h2 := mem_le_sum h1nn hz
          rw [one_sum i L (by omega), hLA, pad_sum] at h2
          have h3 := sum_le_dot V A hA.lot.len h1V hA.lot.pos
          rw [hA.lot.worth] at h3
          omega
        obtain ⟨Q, hQ⟩ : ∃ Q, Q = oL o := ⟨_, rfl⟩
        have hQ5 : Q.length = 5 ∧ (∀ z, z ∈ Q → 0 ≤ z ∧ z ≤ 1000000) := by
          rw [hQ]
          cases o with
          | none => exact ⟨rfl, fun z hz => by simp only [oL, zero5, List.mem_cons, List.not_mem_nil, or_false, or_self] at hz; omega⟩
          | some C => exact ⟨pad_len (by rw [(upto_lot ho).len]; exact h5), fun z hz => by have := pad_bound h1V (upto_lot ho) (by omega) z hz; omega⟩
        rw [← hQ] at hrow hrowp
        have kq := fun y w => (eq149 y w hQ5.1 (fun z hz => (hQ5.2 z hz).1)).1
        have k126 := fun (h : Hp) (nx : Nat) => c126 hS (m := m) (h := h) (nx := nx) (by omega) hL5 (show i < 5 by omega) (fun z hz => by have := hLb z hz; omega)
        have k127 := fun (h : Hp) (nx : Nat) => c127 hS (m := m) (h := h) (nx := nx) (by omega) h1L hQ5.1 h1b (fun z hz => by have := hQ5.2 z hz; omega)
        obtain ⟨t, ht⟩ : ∃ t, noneQ Q = t := ⟨_, rfl⟩
        obtain ⟨b, hb⟩ : ∃ b, betS (oneS i L) Q = b := ⟨_, rfl⟩
        rw [ht] at kq
        rw [hb] at k127
        have hstep : oL (stepO (oneS i A) o) = if (t || b) = true then oneS i L else Q := by
          cases o with
          | none =>
            have : t = true := by rw [← ht, hQ]; rfl
            rw [this]
            show pad5 (oneS i A) = oneS i L
            rw [hLA, pad_one hAi]
          | some C =>
            have hC := upto_lot ho
            have h1 : t = false := by rw [← ht, hQ]; exact noneQ_lot hC (by omega) h5
            have h2 : betS (oneS i A) C = b := by rw [← hb, hQ, hLA, pad_one hAi]; exact (pad_bet (by rw [one_len, hA.lot.len, hC.len])).symm
            show oL (if betS (oneS i A) C then some (oneS i A) else some C) = _
            rw [h1, h2]
            cases b with
            | true => show pad5 (oneS i A) = oneS i L; rw [hLA, pad_one hAi]
            | false => exact hQ.symm
        have hnp : p5 ≠ nx' := by omega
        have hsz : ∀ B : List Int, B.length = 5 → splice [.int .i64 0, .int .i64 0, .int .i64 0, .int .i64 0, .int .i64 0] 0 (lotV B) = some (lotV B) := fun B hB => lot_sp hB (C := zero5) rfl
        have hsz1 := hsz _ h1L
        have hsq : splice (lotV Q) 0 (lotV (oneS i L)) = some (lotV (oneS i L)) := lot_sp h1L hQ5.1
        have hbq := lot_bq h1L
        have hp1 := lot_p1 h1L
        have hpq := lot_p1 hQ5.1
        have hrow1 : ∀ X, rowL (hset h' nx' X) p5 = some (lotV Q) := fun X => by rw [rowL_hset_other _ hnp]; exact hrowp
        have hget1 : ∀ X, hget (hset h' nx' X) p5 = some (.cells (lotV Q) none) := fun X => by rw [hget_other _ hnp]; exact hrow
        have hsk : (0 : Int) < (j : Int) → noneQ L = false := fun q => by
          cases hq : noneQ L with
          | false => rfl
          | true => exact absurd ⟨q, hq⟩ hskip
        generalize hw : oneS i L = L1 at *
        have hgg : ((0 : Int) < (j : Int) ∧ noneQ L = false) ∨ ¬ (0 : Int) < (j : Int) := by
          by_cases q : (0 : Int) < (j : Int)
          · exact .inl ⟨q, hsk q⟩
          · exact .inr q
        rcases hgg with ⟨hg, hnl⟩ | hg
        all_goals (first | rw [hnl] at kz | skip)
        all_goals (
          rcases Bool.eq_false_or_eq_true t with ht' | ht' <;> rcases Bool.eq_false_or_eq_true b with hb' | hb' <;> rw [ht'] at kq hstep <;> rw [hb'] at k127 hstep
          all_goals (
            refine ⟨hlt, z', _, _, _, (by simp (maxSteps := 10000000) (implicitDefEqProofs := false) (disch := omega) only [l97_0, e1, e5, e12, e13, e14, h1, hcs, hel, hj, hneg, hg, gt_iff_lt, hcs2, hel2, kz, kq, k126, k127, hsz1, hsq, hbq, hp1, hpq, hrow1, hget1, log_own, g_un, plS_147_1_0, plB_149_, plS_24_0_, plS_24_2_0_1, zeroE_147, appF_147, bz, put_none2, Nat.reduceEqDiff, Nat.reduceLT, Nat.reduceAdd]; exact rfl), by omega, rfl, ?_, ?_, ?_, ?_, ?_, ?_, ?_, ?_, _, hu, ?_⟩
            rotate_left 2
            · rw [hlf]; simp only [pq, Nat.reduceEqDiff, e1]
            · simp only [pq, Nat.reduceEqDiff, e4]
            · simp only [pq, Nat.reduceEqDiff, e5]
            · simp only [pq, Nat.reduceEqDiff, e12]
            · simp only [pq, Nat.reduceEqDiff, e13]
            · simp only [pq, Nat.reduceEqDiff]; rfl
            · rw [hstep]
              simp only [Bool.or_true, Bool.or_false, Bool.true_or, Bool.false_eq_true, if_true, if_false]
              first | exact hget_same _ _ | exact hget1 _ | (rw [hget_other _ hnp]; exact hget1 _)
            · omega
            · intro s q1 q2
              first
                | (rw [hget_other _ (by omega), hget_other _ (by omega), hget_other _ (by omega)]; exact hkeep s q1 q2)
                | (rw [hget_other _ (by omega), hget_other _ (by omega)]; exact hkeep s q1 q2)
                | (rw [hget_other _ (by omega)]; exact hkeep s q1 q2)))
  · right
    have h1 : ¬ ((i : Int) < (V.length : Int)) := by omega
    have e : ∃ vs2, sC Tryz.prog 54 54 (execL Tryz.prog vmL S m) l97_0 z' vs' h' nx' = .exi 0 z' vs2 h' nx' ∧ vs2 5 = vs' 5 ∧ vs2 4 = vs' 4 := by
      refine ⟨_, by simp (maxSteps := 10000000) (implicitDefEqProofs := false) (disch := omega) only [l97_0, e13, e14, h1, plS_147_1_0, plB_149_, plS_24_0_, plS_24_2_0_1, zeroE_147, appF_147, bz, put_none2, Nat.reduceEqDiff, Nat.reduceLT, Nat.reduceAdd]; exact rfl, ?_, ?_⟩ <;>
      simp only [pg, Nat.reduceEqDiff]
    obtain ⟨vs2, e, q5, q4⟩ := e
    rw [e]
    have hie : i = V.length := by omega
    rw [hie] at ho
    have hu := upto_all (show (0 : Int) < Ls.length by omega) ho
    refine ⟨trivial, vs2, h', nx', oL o, rfl, ?_, hrow, q5.trans e5, q4.trans e4, hkeep⟩
    cases o with
    | none => exact .inr ⟨hu, rfl⟩
    | some A => exact .inl ⟨A, hu, rfl⟩
set_option maxHeartbeats 32000000
theorem fine_v {b : Bk} (hF : b.Fine) : (∀ v, v ∈ b.S → 1 ≤ v) ∧ ∀ v, v ∈ b.S → v ≤ 1000 := by
  have := hF.so
  rw [List.all_eq_true] at this
  exact ⟨fun v hv => (inB_iff (this v hv)).1, fun v hv => (inB_iff (this v hv)).2⟩
theorem c97 {S : Kn} (hS : S.Only [22]) {m : Nat} (hm : 6 ≤ m) {b : Bk} {h : Hp} {nx : Nat} (hF : b.Fine) (hb : b.At h nx) {Ls : List (List Int)} {v1 : Value} (hL0 : 0 < Ls.length) (hLl : Ls.length ≤ 30000) (hL : ∀ (j : Nat) L, Ls[j]? = some L → RowS b.S j L) (hv1 : Lst h nx 5 v1 (Ls.map lotV)) :
    ∃ L, callF 97 [.agg b.cells.toArray, v1] (execL Tryz.prog vmL S m) h nx = .gen (.agg (lotV L).toArray) h nx [] ∧ RowS b.S Ls.length L := by
  obtain ⟨V1, V2⟩ := fine_v hF
  have key : ∃ L, RowS b.S Ls.length L ∧ ∃ h1 n1, doneR Tryz.prog 54 [.cell 4 149] (sC Tryz.prog 54 54 (execL Tryz.prog vmL S (m - 1)) s97 ⟨nx, none, [], []⟩ (enum [.agg b.cells.toArray, v1] 0) h nx) = .val (.agg (lotV L).toArray) h1 n1 [] := by
    obtain ⟨G, eG⟩ : ∃ x, x = hset (hset (hset h nx (.cells b.cells none)) (nx + 1) (.cells [.int .i64 0, .int .i64 0, .int .i64 0, .int .i64 0, .int .i64 0] none)) (nx + 1 + 1) (.cells [.int .i64 0, .int .i64 0, .int .i64 0, .int .i64 0, .int .i64 0] none) := ⟨_, rfl⟩
    have hsm : Same nx h G := by rw [eG]; exact (((Same.refl nx h).set (Nat.le_refl _) _).set (by omega) _).set (by omega) _
    have r0 : rowL G nx = some b.cells := by rw [eG, rowL_hset_other _ (by omega), rowL_hset_other _ (by omega)]; exact rowL_hset_same _ _
    have r1 : hget G (nx + 1) = some (.cells (lotV zero5) none) := by rw [eG, hget_other _ (by omega)]; exact hget_same _ _
    have r2 : hget G (nx + 1 + 1) = some (.cells (lotV zero5) none) := by rw [eG]; exact hget_same _ _
    obtain ⟨sa, sc, hsv, _⟩ := hb.s.form
    rw [ints_len] at hsv
    have x6 : part1 false 1 b.cells 6 = some b.sv := rfl
    rw [hsv] at x6
    simp (maxSteps := 10000000) (implicitDefEqProofs := false) (disch := omega) only [s97, s_loop, ← eG, r0, x6, hb_21, hb_31, plB_149_, plS_24_0_, plS_24_2_0_1, bz, put_none2, Nat.reduceEqDiff, Nat.reduceLT, Nat.reduceAdd]
    generalize hr : loopR _ _ _ _ _ = r
    obtain ⟨vs', h', nx', L, rfl, hRow, hp5, q5, q4, hk⟩ := loop97 hS (m := m - 1) (by omega) (V := b.S) (n0 := nx) (p5 := nx + 1 + 1) V1 V2 hF.s5 hL0 hLl hL rfl (hb.s.same hsm (Nat.le_refl _)) (hv1.same hsm (Nat.le_refl _)) (by omega) (by omega) r2 rfl rfl (by rw [hsv]; rfl) rfl rfl hr
    obtain ⟨hL5, _⟩ := row_bound V1 (show (0 : Int) ≤ Ls.length by omega) hF.s5 hRow
    have hp1 := lot_p1 hL5
    have hr5 : rowL h' (nx + 1 + 1) = some (lotV L) := by unfold rowL; rw [hp5]
    have hr4 : hget h' (nx + 1) = some (.cells (lotV zero5) none) := by rw [hk (nx + 1) (by omega) (by omega)]; exact r1
    have hsp : splice (lotV zero5) 0 (lotV L) = some (lotV L) := lot_sp hL5 rfl
    have hbq := lot_bq hL5
    have q4' : vs' 4 = some (pt (nx + 1)) := q4
    refine ⟨L, hRow, ?_⟩
    simp (maxSteps := 10000000) (implicitDefEqProofs := false) (disch := omega) only [q4', q5, hr5, hp1, hr4, hsp, hbq, log_own, hb_21, hb_31, plB_149_, plS_24_0_, plS_24_2_0_1, bz, put_none2, Nat.reduceEqDiff, Nat.reduceLT, Nat.reduceAdd]
    exact ⟨_, _, rfl⟩
  obtain ⟨L, hRow, hx⟩ := key
  refine ⟨L, fun97.same (hS _ _ _ _ (by decide)) (by omega) (fun h1 => cmp3_agg (fun v hv => ?_) _) (by simp) hx, hRow⟩
  obtain ⟨x, _, rfl⟩ := List.mem_map.1 hv
  exact rfl
theorem c72 {S : Kn} (hS : S.Only [22]) {m : Nat} {h : Hp} {nx : Nat} (hm : 2 ≤ m) (hn : 1 ≤ nx) (hlim : rowL h 0 = some limL) (x : Int) : callF 72 [vi x] (execL Tryz.prog vmL S m) h nx = .gen (.bool (inB 0 20000 x)) h nx [] := by
  refine fun72.ground (hS _ _ _ _ (by decide)) (by omega) rfl (by simp) ?_
  have k85 := fun (h : Hp) (nx : Nat) (lo hi x : Int) => c85 hS (m := m - 1) (h := h) (nx := nx) (by omega) lo hi x
  simp (maxSteps := 10000000) (implicitDefEqProofs := false) (disch := omega) only [s72, k85, hlim, Nat.reduceMul, Int.reduceToNat, bz, put_none2, Nat.reduceEqDiff, Nat.reduceLT, Nat.reduceAdd]
  exact ⟨_, _, rfl⟩
set_option maxHeartbeats 64000000
theorem sl_nil (x y : Operand) (r o n c : Nat) : binV Tryz.prog .eql 24 x y (.slice (some ⟨r, o, none⟩) n c) (.slice none 0 0) = some (.bool false) := by rfl
theorem c98 {S : Kn} (hS : S.Only [22]) {m : Nat} (hm : 1 ≤ m) {h : Hp} {nx r o n c : Nat} {cs : List Value} (hr : rowL h r = some cs) (hrn : r < nx) (hn : 0 < n) (hn2 : n ≤ 65536) (hl : o + n * 1 ≤ cs.length) (hf : flatL ((cs.drop o).take (n * 1))) :
    callF 98 [.slice (some ⟨r, o, none⟩) n c] (execL Tryz.prog vmL S m) h nx = .gen (.slice (some ⟨nx, 0, none⟩) n SENT) (hset h nx (.cells ((cs.drop o).take (n * 1)) (some 1))) (nx + 1) [] := by
  refine fun98.fresh (hS _ _ _ _ (by decide)) hm (by simp) (flat_groundL hf) ?_
  have ap := app_new (h := hset h nx (.cells [] none)) (nx := nx + 1) (r := r) (o := o) (r0 := nx) (o0 := 0) (n := n) (c := c) (size := 1) (hget_same _ _) ⟨_, _, rfl⟩ (by rw [rowL_hset_other _ (by omega)]; exact hr) hn hn2 hl
  simp (maxSteps := 10000000) (implicitDefEqProofs := false) (disch := omega) only [s98, sl_nil, ap, appF_24, plS_24_0_, plS_24_2_0_1, bz, put_none2, Nat.reduceEqDiff, Nat.reduceLT, Nat.reduceAdd]
  exact ⟨_, _, nx + 1, by omega, hget_same _ _, rfl⟩
def flatS (Ls : List (List Int)) : List Value := (Ls.map lotV).flatten
theorem flatS_len : ∀ {Ls : List (List Int)}, (∀ L, L ∈ Ls → L.length = 5) → (flatS Ls).length = Ls.length * 5
  | [], _ => rfl
  | L :: Ls, h => by
    have ih := flatS_len (Ls := Ls) fun L hL => h L (List.mem_cons_of_mem _ hL)
    show (lotV L ++ flatS Ls).length = _
    rw [List.length_append, ih, lotV_len, h L List.mem_cons_self, List.length_cons]; omega
theorem flatS_seg : ∀ {Ls : List (List Int)} (i : Nat) {L : List Int}, (∀ L, L ∈ Ls → L.length = 5) → Ls[i]? = some L → ((flatS Ls).drop (i * 5)).take 5 = lotV L
  | [], _, _, _, h => by simp at h
  | L :: Ls, 0, M, h, hi => by
    simp at hi; subst hi
    show ((lotV L ++ flatS Ls).drop 0).take 5 = _
    have := h L List.mem_cons_self
    rw [List.drop_zero, List.take_append_of_le_length (by rw [lotV_len]; omega), List.take_of_length_le (by rw [lotV_len]; omega)]
  | L :: Ls, i + 1, M, h, hi => by
    have ih := flatS_seg i (fun L hL => h L (List.mem_cons_of_mem _ hL)) (show Ls[i]? = some M by simpa using hi)
    have h5 := h L List.mem_cons_self
    show ((lotV L ++ flatS Ls).drop ((i + 1) * 5)).take 5 = _
    have e : (lotV L ++ flatS Ls).drop ((i + 1) * 5) = (flatS Ls).drop (i * 5) := by
      rw [show (i + 1) * 5 = (lotV L).length + i * 5 by rw [lotV_len, h5]; omega, List.drop_length_add_append]
    rw [e, ih]
theorem lst_room {Ls : List (List Int)} {C : List Value} {h : Hp} {q nx : Nat} (cap : Nat) (h5 : ∀ L, L ∈ Ls → L.length = 5) (hq : q < nx) (hc : rowL h q = some C) (ht : C.take (Ls.length * 5) = flatS Ls) (hl : Ls.length * 5 ≤ C.length) : Lst h nx 5 (.slice (some ⟨q, 0, none⟩) Ls.length cap) (Ls.map lotV) := by
  refine ⟨_, _, by rw [List.length_map], fun i row hi => ?_⟩
  rw [List.getElem?_map] at hi
  cases hx : Ls[i]? with
  | none => rw [hx] at hi; cases hi
  | some L =>
    rw [hx] at hi
    have hi : lotV L = row := Option.some.inj hi
    subst hi
    have hlt : i < Ls.length := (List.getElem?_eq_some_iff.1 hx).1
    refine ⟨by rw [lotV_len, h5 L (List.mem_of_getElem? hx)], q, 0, C, rfl, hq, hc, by omega, ?_⟩
    have := flatS_seg i h5 hx
    rw [← ht, List.drop_take, List.take_take, Nat.min_eq_left (by omega)] at this
    rw [Nat.zero_add]; exact this
theorem rep_len5 : ∀ (n : Nat) (z : List Value), (repL n z []).length = n * z.length
  | 0, z => by rw [Nat.zero_mul]; rfl
  | n + 1, z => by
    show (z ++ repL n z []).length = _
    rw [List.length_append, rep_len5 n z, Nat.succ_mul]; omega
theorem makeO_one {h : Hp} {nx k : Nat} {z : List Value} (hk1 : 1 ≤ k) (hk : k ≤ 65536) : makeO h nx (some z) (some (.int .i64 1)) (some (vi k)) = .new (.slice (some ⟨nx, 0, none⟩) 1 k) (hset h nx (.cells (repL k z []) none)) (nx + 1) := by
  unfold makeO
  have e1 : natOf (vi k) = some k := rfl
  have e0 : natOf (.int .i64 1) = some 1 := rfl
  simp only [e0, e1]
  have b1 : Nat.ble k 65536 = true := by rw [ble_eq']; simp; omega
  have b2 : Nat.ble 1 k = true := by rw [ble_eq']; simp; omega
  rw [b1, b2]
  rfl
theorem all5 {V : List Int} {Ls : List (List Int)} (h1 : ∀ v, v ∈ V → 1 ≤ v) (h5 : V.length ≤ 5) (hL : ∀ (j : Nat) L, Ls[j]? = some L → RowS V j L) : ∀ L, L ∈ Ls → L.length = 5 := by
  intro L hm
  obtain ⟨j, hj, rfl⟩ := List.getElem_of_mem hm
  exact (row_bound h1 (show (0 : Int) ≤ j by omega) h5 (hL j _ (List.getElem?_eq_getElem hj))).1
structure Told (V : List Int) (c : Int) (Ls : List (List Int)) (l : Nat) : Prop where
  pos : l < Ls.length
  rows : ∀ (j : Nat) L, Ls[j]? = some L → RowS V j L
  best : ∃ A, BestS V l A ∧ Ls[l]? = some (pad5 A)
  after : ∀ w : Int, l < w → w < Ls.length → ∀ B, ¬ LotS V w B
  before : ∀ w : Int, c ≤ w → w < l → ∀ B, ¬ LotS V w B
theorem told_zero (V : List Int) (c : Int) (h1 : ∀ v, v ∈ V → 1 ≤ v) (h5 : V.length ≤ 5) (hc : 0 ≤ c) : Told V c [zero5] 0 := by
  have hb := best_zero V h1
  refine ⟨by simp, fun j L h => ?_, ⟨_, hb, by rw [pad_zero _ h5]; rfl⟩, fun w h1 h2 => by simp at h2; omega, fun w h1 h2 => by omega⟩
  cases j with
  | zero => simp at h; subst h; exact .inl ⟨_, hb, (pad_zero _ h5).symm⟩
  | succ j => simp at h
theorem told_add {V : List Int} {c : Int} {Ls : List (List Int)} {l : Nat} {L : List Int} (h1 : ∀ v, v ∈ V → 1 ≤ v) (h5 : V.length ≤ 5) (h : Told V c Ls l) (hlc : (l : Int) < c) (hL : RowS V Ls.length L) : Told V c (Ls ++ [L]) (if noneQ L = true then l else Ls.length) := by
  have hrows : ∀ (j : Nat) M, (Ls ++ [L])[j]? = some M → RowS V j M := fun j M hj => by
    by_cases q : j < Ls.length
    · rw [List.getElem?_append_left q] at hj; exact h.rows j M hj
    · rw [List.getElem?_append_right (by omega)] at hj
      have : j - Ls.length = 0 := by
        have := (List.getElem?_eq_some_iff.1 hj).1; simp at this; omega
      rw [this] at hj
      simp at hj; subst hj
      rw [show j = Ls.length by omega]; exact hL
  have hp := h.pos
  have hlen : (Ls ++ [L]).length = Ls.length + 1 := by simp
  cases hn : noneQ L with
  | true =>
    simp only [if_true]
    have hno : ∀ B, ¬ LotS V Ls.length B := by
      rcases hL with ⟨A, hA, rfl⟩ | ⟨hno, _⟩
      · have := noneQ_lot hA.lot (by omega) h5
        rw [hn] at this; cases this
      · exact hno
    refine ⟨by rw [hlen]; omega, hrows, ?_, fun w q1 q2 => ?_, h.before⟩
    · obtain ⟨A, hA, e⟩ := h.best
      exact ⟨A, hA, by rw [List.getElem?_append_left hp]; exact e⟩
    · rw [hlen] at q2
      by_cases q : w < Ls.length
      · exact h.after w q1 q
      · rw [show w = Ls.length by omega]; exact hno
  | false =>
    simp only [Bool.false_eq_true, if_false]
    rcases hL with ⟨A, hA, rfl⟩ | ⟨_, rfl⟩
    · refine ⟨by rw [hlen]; omega, hrows, ⟨A, hA, by simp⟩, fun w q1 q2 => by rw [hlen] at q2; omega, fun w q1 q2 => h.after w (by omega) q2⟩
    · cases hn
theorem told_end {V : List Int} {c : Int} {Ls : List (List Int)} {l : Nat} (h : Told V c Ls l) (hlc : ¬ (l : Int) < c) : ∃ A, StampsQ V c A ∧ A.length = V.length ∧ Ls[l]? = some (pad5 A) := by
  obtain ⟨A, hA, e⟩ := h.best
  exact ⟨A, ⟨l, by omega, hA, h.before⟩, hA.lot.len, e⟩
theorem told_room {V : List Int} {c : Int} {Ls : List (List Int)} {l : Nat} {w : Int} (h : Told V c Ls l) (hlc : (l : Int) < c) (hw : c ≤ w) (hA : ∃ A, LotS V w A) : (Ls.length : Int) ≤ w := by
  obtain ⟨A, hA⟩ := hA
  refine Int.not_lt.1 fun q => ?_
  exact h.after w (by omega) q A hA
theorem loop73 {S : Kn} (hS : S.Only [22]) {m : Nat} (hm : 6 ≤ m) {b : Bk} {z : Z} {vs : Vs} {h : Hp} {nx q p2 cap W : Nat} {c : Int} {C0 : List Value} (hF : b.Fine) (hb : b.At h nx) (hW : c ≤ W) (hWc : W < cap) (hWl : ∃ A, LotS b.S W A) (hcap : cap ≤ 30000)
    (hz : z.n0 ≤ q) (hqn : q < nx) (hz2 : z.n0 ≤ p2) (hpn : p2 < nx) (hpq : p2 ≠ q) (hb0 : b.At h z.n0) (hp2 : rowL h p2 = some b.cells) (hq : hget h q = some (.cells C0 none)) (hC0 : C0.length = cap * 5) (hC5 : C0.take 5 = lotV zero5) (h0c : 0 ≤ c)
    (g1 : vs 1 = some (vi c)) (g2 : vs 2 = some (pt p2)) (g5 : vs 5 = some (.slice (some ⟨q, 0, none⟩) 1 cap)) (g6 : vs 6 = some (vi 0)) (g7 : vs 7 = some (vi 1)) {r : R} (hr : loopR (sC Tryz.prog 49 49 (execL Tryz.prog vmL S m) l73_0) z vs h nx = r) :
    ∃ vs' h' nx' Ls l C, r = .exi 0 z vs' h' nx' ∧ nx ≤ nx' ∧ Told b.S c Ls l ∧ ¬ (l : Int) < c ∧ Ls.length ≤ cap ∧ hget h' q = some (.cells C none) ∧ C.length = cap * 5 ∧ C.take (Ls.length * 5) = flatS Ls ∧ (∀ s, s < nx → s ≠ q → hget h' s = hget h s) ∧ vs' 2 = some (pt p2) ∧ vs' 5 = some (.slice (some ⟨q, 0, none⟩) Ls.length cap) ∧ vs' 6 = some (vi (l : Int)) := by
  subst hr
  obtain ⟨V1, V2⟩ := fine_v hF
  refine loop_rule (Post := fun r => ∃ vs' h' nx' Ls l C, r = .exi 0 z vs' h' nx' ∧ nx ≤ nx' ∧ Told b.S c Ls l ∧ ¬ (l : Int) < c ∧ Ls.length ≤ cap ∧ hget h' q = some (.cells C none) ∧ C.length = cap * 5 ∧ C.take (Ls.length * 5) = flatS Ls ∧ (∀ s, s < nx → s ≠ q → hget h' s = hget h s) ∧ vs' 2 = some (pt p2) ∧ vs' 5 = some (.slice (some ⟨q, 0, none⟩) Ls.length cap) ∧ vs' 6 = some (vi (l : Int)))
    (fun i z' vs' h' nx' => z' = z ∧ nx ≤ nx' ∧ (∀ s, s < nx → s ≠ q → hget h' s = hget h s) ∧ vs' 1 = some (vi c) ∧ vs' 2 = some (pt p2) ∧ ∃ Ls l C, Told b.S c Ls l ∧ Ls.length = i + 1 ∧ Ls.length ≤ cap ∧ hget h' q = some (.cells C none) ∧ C.length = cap * 5 ∧ C.take (Ls.length * 5) = flatS Ls ∧ vs' 5 = some (.slice (some ⟨q, 0, none⟩) Ls.length cap) ∧ vs' 6 = some (vi (l : Int)) ∧ vs' 7 = some (vi (Ls.length : Int))) cap (by omega)
    ⟨rfl, Nat.le_refl _, fun _ _ _ => rfl, g1, g2, [zero5], 0, C0, told_zero _ _ V1 hF.s5 h0c, rfl, by show 1 ≤ cap; omega, hq, hC0, by rw [show [zero5].length * 5 = 5 from rfl, hC5]; rfl, g5, g6, g7⟩ ?_
  rintro i z' vs' h' nx' ⟨rfl, hnx, hkeep, e1, e2, Ls, l, C, ht, hLl, hLc, hqC, hCl, hCt, e5, e6, e7⟩
  have hs : Same z'.n0 h h' := fun s hs => hkeep s (by omega) (by omega)
  have hb' := hb0.same hs (nx' := nx') (by omega)
  have h5L := all5 V1 hF.s5 ht.rows
  have hpos := ht.pos
  by_cases hlt : (l : Int) < c
  · left
    have hroom := told_room ht hlt hW hWl
    have hqr : rowL h' q = some C := by unfold rowL; rw [hqC]
    have hp2' : rowL h' p2 = some b.cells := by unfold rowL at hp2 ⊢; rw [hkeep p2 hpn hpq]; exact hp2
    obtain ⟨L, k97, hRow⟩ := c97 hS (m := m) (by omega) (h := h') (nx := nx') hF hb' (by omega) (by omega) ht.rows (lst_room cap h5L (by omega) hqr hCt (by omega))
    obtain ⟨hL5, hLb⟩ := row_bound V1 (show (0 : Int) ≤ Ls.length by omega) hF.s5 hRow
    have hadd := told_add V1 hF.s5 ht hlt hRow
    have hst : storeAt 5 (hset h' nx' (.cells [.int .i64 0, .int .i64 0, .int .i64 0, .int .i64 0, .int .i64 0] none)) nx' 0 (.agg (lotV L).toArray) = .wr (hset h' nx' (.cells (lotV L) none)) nx' := by
      have := store_all (h := hset h' nx' (.cells [.int .i64 0, .int .i64 0, .int .i64 0, .int .i64 0, .int .i64 0] none)) (r := nx') (l := lotV L) (cs := [.int .i64 0, .int .i64 0, .int .i64 0, .int .i64 0, .int .i64 0]) (b := none) (hget_same _ _) (by rw [lotV_len, hL5]; rfl)
      rw [hset_twice] at this
      exact this
    have hp1 := lot_p1 hL5
    have kq := fun y w => (eq149 y w hL5 (fun z hz => (hLb z hz).1)).2
    have hp7 : part1 true 7 b.cells 0 = some (.agg b.cells.toArray) := rfl
    have hfill : fillL [((0, 5), .agg (lotV L).toArray)] [.int .i64 0, .int .i64 0, .int .i64 0, .int .i64 0, .int .i64 0] = some (lotV L) := by
      obtain ⟨x1, x2, x3, x4, x5, rfl⟩ := five hL5
      rfl
    have hsp : splice C (0 + Ls.length * 5) (lotV L) = some (C.take (Ls.length * 5) ++ (lotV L ++ C.drop (Ls.length * 5 + 5))) := by
      rw [Nat.zero_add, splice_mid _ _ _ (by rw [lotV_len, hL5, hCl]; omega), lotV_len, hL5]
    have happ := app_in (nx := nx' + 1 + 1) (h := hset (hset h' nx' (.cells (lotV L) none)) (nx' + 1) (.cells (lotV L) none)) (r := q) (o := 0) (len := Ls.length) (cap := cap) (size := 5) (cs := C) (b := none) (x := .slice (some ⟨nx' + 1, 0, none⟩) 1 1)
      (by rw [hget_other _ (by omega), hget_other _ (by omega)]; exact hqC) (appended_row (rowL_hset_same _ _) (by rw [lotV_len, hL5])) (by unfold HALF; omega) (by omega) (by omega) hsp
    have hlen : (Ls ++ [L]).length = Ls.length + 1 := by simp
    have hdl : (C.take (Ls.length * 5) ++ (lotV L ++ C.drop (Ls.length * 5 + 5))).length = cap * 5 := by
      simp only [List.length_append, List.length_take, List.length_drop, lotV_len, hL5, hCl]; omega
    have hdt : (C.take (Ls.length * 5) ++ (lotV L ++ C.drop (Ls.length * 5 + 5))).take ((Ls ++ [L]).length * 5) = flatS (Ls ++ [L]) := by
      have e1 : flatS (Ls ++ [L]) = flatS Ls ++ lotV L := by simp [flatS]
      rw [e1, hlen, hCt, ← List.append_assoc]
      have e2 : (flatS Ls ++ lotV L).length = (Ls.length + 1) * 5 := by rw [List.length_append, flatS_len h5L, lotV_len, hL5]; omega
      rw [← e2, List.take_left]
    have hw1 : ∀ X, rowL (hset (hset (hset h' nx' (.cells (lotV L) none)) (nx' + 1) (.cells (lotV L) none)) q X) nx' = some (lotV L) := fun X => by
      rw [rowL_hset_other _ (by omega), rowL_hset_other _ (by omega)]; exact rowL_hset_same _ _
    rcases Bool.eq_false_or_eq_true (noneQ L) with hn | hn <;> rw [hn] at kq hadd
    all_goals (
      refine ⟨by omega, z', _, _, _, (by simp (maxSteps := 10000000) (implicitDefEqProofs := false) (disch := omega) only [l73_0, e1, e2, e5, e6, e7, hlt, hp2', hp7, k97, hst, storeO, hp1, hfill, happ, hw1, kq, log_own, Bool.not_true, Bool.not_false, hb_21, hb_31, plS_147_1_0, plB_149_, plS_24_0_, plS_24_2_0_1, zeroE_147, appF_147, bl, put_none2, Nat.reduceEqDiff, Nat.reduceLT, Nat.reduceAdd]; exact rfl), rfl, by omega, ?_, ?_, ?_, _, _, _, hadd, by rw [hlen, hLl], by rw [hlen]; omega, ?_, hdl, hdt, ?_, ?_, ?_⟩)
    all_goals (
      (try simp only [Bool.false_eq_true, if_true, if_false])
      first
        | (intro s q1 q2; rw [hget_other _ (by omega), hget_other _ (by omega), hget_other _ (by omega)]; exact hkeep s q1 q2)
        | exact hget_same _ _
        | (rw [hlen]; simp only [pq, Nat.reduceEqDiff, e1, e2, e6, e7]; done)
        | (rw [hlen]; simp only [pq, Nat.reduceEqDiff, e1, e2, e6, e7]; rfl)
        | (simp only [pq, Nat.reduceEqDiff, e1, e2, e6, e7]; done)
        | (simp only [pq, Nat.reduceEqDiff, e1, e2, e6, e7]; rfl))
  · right
    have e : ∃ vs2, sC Tryz.prog 49 49 (execL Tryz.prog vmL S m) l73_0 z' vs' h' nx' = .exi 0 z' vs2 h' nx' ∧ vs2 2 = vs' 2 ∧ vs2 5 = vs' 5 ∧ vs2 6 = vs' 6 := by
      refine ⟨_, by simp (maxSteps := 10000000) (implicitDefEqProofs := false) (disch := omega) only [l73_0, e1, e6, hlt, hb_21, hb_31, plS_147_1_0, plB_149_, plS_24_0_, plS_24_2_0_1, zeroE_147, appF_147, bz, put_none2, Nat.reduceEqDiff, Nat.reduceLT, Nat.reduceAdd]; exact rfl, ?_, ?_, ?_⟩ <;>
      simp only [pg, Nat.reduceEqDiff]
    obtain ⟨vs2, e, q2, q5, q6⟩ := e
    rw [e]
    exact ⟨trivial, vs2, h', nx', Ls, l, C, rfl, hnx, ht, hlt, hLc, hqC, hCl, hCt, hkeep, q2.trans e2, q5.trans e5, q6.trans e6⟩
theorem slice3_sent {r k : Nat} (hk : 0 < k) (hk2 : k ≤ 65536) : slice3O 1 (some (.slice (some ⟨r, 0, none⟩) k SENT)) (some (vi (k : Int))) (some (vi (k : Int))) = some (.slice (some ⟨r, 0, none⟩) k k) := by
  have hl : (repL k [vi 0] []).length = k * 1 := rep_len5 k [vi 0]
  have a : OwnL (hset (Lv.nil _ _) r (.cells (repL k [vi 0] []) (some 1))) r (r + 1) 1 (.slice (some ⟨r, 0, none⟩) k SENT) (repL k [vi 0] []) := ⟨.inr ⟨r, k, Nat.le_refl _, by omega, rfl, hget_same _ _, hl, hk⟩⟩
  rcases a.cut hl (by decide) hk2 with ⟨q1, _, _, _⟩ | ⟨r', _, _, q3, _, q5⟩
  · rw [q1] at hl; simp at hl; omega
  · injection q3 with e1 _ _
    injection e1 with e1
    injection e1 with e1 _ _
    subst e1
    exact q5
theorem rep_take5 {n : Nat} {z : List Value} (hn : 1 ≤ n) (hz : z.length = 5) : (repL n z []).take 5 = z := by
  obtain ⟨k, rfl⟩ : ∃ k, n = k + 1 := ⟨n - 1, by omega⟩
  show (z ++ repL k z []).take 5 = z
  rw [List.take_append_of_le_length (by omega), List.take_of_length_le (by omega)]
theorem lotV_flat (A : List Int) : flatL (lotV A) := fun v hv => by
  obtain ⟨x, _, rfl⟩ := List.mem_map.1 hv
  rfl
theorem c73 {S : Kn} (hS : S.Only [22]) {m : Nat} (hm : 7 ≤ m) {b : Bk} {h : Hp} {nx : Nat} {c : Int} (hF : b.Fine) (hb : b.At h nx) (h0c : 0 ≤ c) (hc2 : c ≤ 20000) :
    ∃ A, StampsQ b.S c A ∧ ∃ u h' nx', callF 73 [.agg b.cells.toArray, vi c] (execL Tryz.prog vmL S m) h nx = .gen u h' nx' [] ∧ NewL h nx h' nx' 1 u (lotV A) := by
  obtain ⟨V1, V2⟩ := fine_v hF
  have hl1 := hF.s1
  have key : ∃ A, StampsQ b.S c A ∧ ∃ v h1 n1, ListOut nx h1 1 v (lotV A) ∧ doneR Tryz.prog 49 [.tmp 4] (sC Tryz.prog 49 49 (execL Tryz.prog vmL S (m - 1)) s73 ⟨nx, none, [], []⟩ (enum [.agg b.cells.toArray, vi c] 0) h nx) = .val v h1 n1 [] := by
    obtain ⟨v0, V, hVV⟩ : ∃ v0 V, b.S = v0 :: V := by
      cases hbs : b.S with
      | nil => rw [hbs] at hl1; simp at hl1
      | cons v0 V => exact ⟨v0, V, rfl⟩
    have hv0 := V1 v0 (by rw [hVV]; exact List.mem_cons_self)
    have hv02 := V2 v0 (by rw [hVV]; exact List.mem_cons_self)
    obtain ⟨cap, hcap⟩ : ∃ cap : Nat, c + v0 = cap := ⟨(c + v0).toNat, by omega⟩
    obtain ⟨wi, hw1, hw2, hwl⟩ := lot_first (V := V) hv0 h0c
    obtain ⟨W, rfl⟩ : ∃ W : Nat, wi = W := ⟨wi.toNat, by omega⟩
    rw [← hVV] at hwl
    obtain ⟨G, eG⟩ : ∃ x, x = hset (hset h nx (.cells b.cells none)) (nx + 1) (.cells (repL cap [.int .i64 0, .int .i64 0, .int .i64 0, .int .i64 0, .int .i64 0] []) none) := ⟨_, rfl⟩
    have hsm0 : Same nx h (hset h nx (.cells b.cells none)) := (Same.refl nx h).set (Nat.le_refl _) _
    have hsm : Same nx h G := by rw [eG]; exact hsm0.set (by omega) _
    obtain ⟨rr, o, cs, sc, hsv, hcs, hrn, hel⟩ := int_at (hb.s.same hsm0 (nx' := nx + 1) (by omega)) (i := 0) (by omega)
    have hV0 : b.S[0]'(by omega) = v0 := by simp only [hVV, List.getElem_cons_zero]
    rw [hV0, Nat.zero_mul, Nat.add_zero] at hel
    have x6 : part1 false 1 b.cells 6 = some b.sv := rfl
    rw [hsv] at x6
    have hls : (0 : Int) < (b.S.length : Int) := by omega
    have hmk := fun (h : Hp) (nx : Nat) => makeO_one (h := h) (nx := nx) (k := cap) (z := [.int .i64 0, .int .i64 0, .int .i64 0, .int .i64 0, .int .i64 0]) (by omega) (by omega)
    have hix : idxOf b.S.length (.int .i64 0) = some 0 := idx_nat b.S.length .i64 0 (by omega)
    simp (maxSteps := 10000000) (implicitDefEqProofs := false) (disch := omega) only [s73, s_loop, x6, hcs, hel, hix, hcap, hmk, ← eG, Nat.zero_mul, hb_13, hb_14, hb_16, hb_17, hb_18, hb_19, hb_20, hb_21, hb_31, lok17, plS_147_1_0, plB_149_, plS_24_0_, plS_24_2_0_1, zeroE_147, appF_147, bz, put_none2, Nat.reduceEqDiff, Nat.reduceLT, Nat.reduceAdd]
    generalize hr : loopR _ _ _ _ _ = r
    have r0 : rowL G nx = some b.cells := by rw [eG, rowL_hset_other _ (by omega)]; exact rowL_hset_same _ _
    have r1 : hget G (nx + 1) = some (.cells (repL cap [.int .i64 0, .int .i64 0, .int .i64 0, .int .i64 0, .int .i64 0] []) none) := by rw [eG]; exact hget_same _ _
    obtain ⟨vs', h', nx', Ls, l, C, rfl, hnx, ht, hlc, hLc, hqC, hCl, hCt, hkeep, q2, q5, q6⟩ := loop73 hS (m := m - 1) (by omega) (b := b) (c := c) (q := nx + 1) (p2 := nx) (cap := cap) (W := W) hF (hb.same hsm (by omega)) hw1 (by omega) hwl (by omega) (show nx ≤ nx + 1 by omega) (by omega) (Nat.le_refl _) (by omega) (by omega) (hb.same hsm (Nat.le_refl _)) r0 r1 (rep_len5 _ _) (rep_take5 (by omega) rfl) h0c rfl rfl rfl rfl rfl hr
    obtain ⟨A, hA, hAl, hAe⟩ := told_end ht hlc
    have h5L := all5 V1 hF.s5 ht.rows
    have hpos := ht.pos
    have hseg := flatS_seg l h5L hAe
    rw [← hCt, List.drop_take, List.take_take, Nat.min_eq_left (by omega)] at hseg
    have hs5 := hF.s5
    have hAA : (C.drop (l * 5)).take (b.S.length * 1) = lotV A := by
      have e1 : (C.drop (l * 5)).take (b.S.length * 1) = (lotV (pad5 A)).take (b.S.length * 1) := by
        rw [← hseg, List.take_take, Nat.min_eq_left (by omega)]
      rw [e1]
      unfold lotV pad5
      rw [List.map_append, Nat.mul_one, List.take_append_of_le_length (by simp [hAl]), List.take_of_length_le (by simp [hAl])]
    have hrq : rowL h' (nx + 1) = some C := by unfold rowL; rw [hqC]
    have r0' : rowL h' nx = some b.cells := by unfold rowL at r0 ⊢; rw [hkeep nx (by omega) (by omega)]; exact r0
    have k98 := c98 hS (m := m - 1) (h := h') (nx := nx') (r := nx + 1) (o := l * 5) (n := b.S.length) (c := 5) (cs := C) (by omega) hrq (by omega) (by omega) (by omega) (by rw [hCl]; omega) (by rw [hAA]; exact lotV_flat A)
    rw [hAA] at k98
    have os := fun (nv : Nat) (ih : Rec) (vs : Vs) (h : Hp) (nx : Nat) (x y : Operand) => o_slice (P := Tryz.prog) (nv := nv) (ih := ih) (vs := vs) (h := h) (nx := nx) 149 x none (some y) none
    have sa := sliceA_first (n := 5) (k := b.S.length) (size := 1) (r := nx + 1) (o := l * 5) (by decide) hs5
    have s3 := fun r => slice3_sent (r := r) (k := b.S.length) (by omega) (by omega)
    have hlls : (l : Int) < (Ls.length : Int) := by omega
    have hixl : idxOf Ls.length (.int .i64 (l : Int)) = some l := idx_nat Ls.length .i64 l (by omega)
    have hlen : (lotV A).length = b.S.length * 1 := by rw [lotV_len, hAl]; omega
    refine ⟨A, hA, .slice (some ⟨nx', 0, none⟩) b.S.length b.S.length, hset h' nx' (.cells (lotV A) (some 1)), nx' + 1, .inr ⟨nx', b.S.length, b.S.length, some 1, by omega, rfl, hget_same _ _, hlen, by omega⟩, ?_⟩
    simp (maxSteps := 10000000) (implicitDefEqProofs := false) (disch := omega) only [q2, q5, q6, lokx1, hixl, r0', x6, os, opVO_none, opVO_some, blt5, sa, k98, s3, g_un, gq_un, hb_13, hb_14, hb_16, hb_17, hb_18, hb_19, hb_20, hb_21, hb_31, lok17, plS_147_1_0, plB_149_, plS_24_0_, plS_24_2_0_1, zeroE_147, appF_147, bz, put_none2, Nat.reduceEqDiff, Nat.reduceLT, Nat.reduceAdd]
  obtain ⟨A, hA, hx⟩ := key
  exact ⟨A, hA, fun73.list (sz := 1) (hS _ _ _ _ (by decide)) (by omega) (by simp) (flat_groundL (lotV_flat A)) hx⟩
def SaidS (b : Bk) (c : Int) (zs : List Int) : Prop := if (b.valid && inB 0 20000 c) = true then StampsQ b.S c zs else zs = []
theorem said_f {b : Bk} {c : Int} (h : (b.valid && inB 0 20000 c) = false) : SaidS b c [] := by unfold SaidS; rw [h]; rfl
theorem said_t {b : Bk} {c : Int} {zs : List Int} (h : (b.valid && inB 0 20000 c) = true) (hz : StampsQ b.S c zs) : SaidS b c zs := by unfold SaidS; rw [if_pos h]; exact hz
theorem new_out {h h1 : Hp} {nx nx' sz n0 : Nat} {u : Value} {cells : List Value} (a : NewL h nx h1 nx' sz u cells) (hn : n0 ≤ nx) : ListOut n0 h1 sz u cells := by
  rcases a.is with ⟨q1, q2, _, _⟩ | ⟨n, c, b2, q1, q2, _, q4, q5⟩
  · exact .inl ⟨q1, q2⟩
  · exact .inr ⟨_, n, c, b2, hn, q1, by rw [q2]; exact hget_same _ _, q4, q5⟩
theorem c30 {S : Kn} (hS : S.Only [22]) {m : Nat} (hm : 15 ≤ m) {b : Bk} {h : Hp} {nx : Nat} {c : Int} (hb : b.At h nx) :
    ∃ zs, SaidS b c zs ∧ ∃ u h' nx', callF 30 [.agg b.cells.toArray, vi c] (execL Tryz.prog vmL S m) h nx = .gen (.tuple #[u, vi (checkI b.valid (inB 0 20000 c))]) h' nx' [] ∧ NewL h nx h' nx' 1 u (lotV zs) := by
  obtain ⟨h3, eh3⟩ : ∃ x, x = hset (hset h nx (.cells b.cells none)) (nx + 1) (.cells b.cells none) := ⟨_, rfl⟩
  obtain ⟨h4, eh4⟩ : ∃ x, x = hset h3 (nx + 1 + 1) (.cells [.func (.func 72) #[vi c] #[]] none) := ⟨_, rfl⟩
  have hsm : Same nx h h4 := by rw [eh4, eh3]; exact (((Same.refl nx h).set (Nat.le_refl _) _).set (by omega) _).set (by omega) _
  have hb' := hb.same hsm (nx' := nx + 1 + 1 + 1) (by omega)
  have hrow : rowL h4 (nx + 1 + 1) = some [.func (.func 72) #[vi c] #[]] := by rw [eh4]; exact rowL_hset_same _ _
  have r1 : rowL h4 (nx + 1) = some b.cells := by rw [eh4, rowL_hset_other _ (by omega), eh3]; exact rowL_hset_same _ _
  have k52 := c52 hS (m := m - 1) (by omega) hb' (F := [⟨72, [vi c], [], inB 0 20000 c⟩]) (by simp) (lst_row (by omega) hrow) (fun hv f hf h' nx' hn hs => by
    have hf' : f = ⟨72, [vi c], [], inB 0 20000 c⟩ := by simpa using hf
    subst hf'
    exact c72 hS (by omega) (by omega) (hb'.same hs hn).lim c)
  rw [show ([⟨72, [vi c], [], inB 0 20000 c⟩] : List Fu).all Fu.y = inB 0 20000 c from Bool.and_true _] at k52
  have hp7 : part1 true 7 b.cells 0 = some (.agg b.cells.toArray) := rfl
  have key : ∃ zs, SaidS b c zs ∧ ∃ v h1 n1, ListOut nx h1 1 v (lotV zs) ∧ doneR Tryz.prog 21 [.tmp 4, .tmp 5] (sC Tryz.prog 21 21 (execL Tryz.prog vmL S (m - 1)) s30 ⟨nx, none, [], []⟩ (enum [.agg b.cells.toArray, vi c] 0) h nx) = .val (.tuple #[v, vi (checkI b.valid (inB 0 20000 c))]) h1 n1 [] := by
    rcases Bool.eq_false_or_eq_true b.valid with hv | hv
    · rcases Bool.eq_false_or_eq_true (inB 0 20000 c) with hq | hq
      · rw [hv, hq, checkI_tt] at k52
        obtain ⟨hc0, hc2⟩ := inB_iff hq
        obtain ⟨A, hA, u, h2, n2, k73, hnew⟩ := c73 hS (m := m - 1) (by omega) (Bk.fine hv) hb' hc0 hc2
        refine ⟨A, said_t (by rw [hv, hq]; rfl) hA, u, h2, n2, new_out hnew (by omega), ?_⟩
        rw [hv, hq, checkI_tt]
        simp only [eh4, eh3, Bk.cells, List.length_cons, List.length_nil, Nat.zero_add] at k52 k73
        simp (maxSteps := 10000000) (implicitDefEqProofs := false) (disch := omega) only [s30, Bk.cells, k52, k73, hset_twice, pA9, log_own, storeO, show ((0 : Int) != 0) = false from rfl, show ((0 : Int) == 0) = true from rfl, bz, put_none2, Nat.reduceEqDiff, Nat.reduceLT, Nat.reduceAdd]
      · rw [hv, hq, checkI_tf] at k52
        have hs := said_f (b := b) (c := c) (by rw [hv, hq]; rfl)
        rw [hv, hq, checkI_tf]
        simp only [eh4, eh3, Bk.cells, List.length_cons, List.length_nil, Nat.zero_add] at k52
        refine ⟨[], hs, _, _, _, .inl ⟨rfl, rfl⟩, by simp (maxSteps := 10000000) (implicitDefEqProofs := false) (disch := omega) only [s30, Bk.cells, k52, hset_twice, pA9, log_own, storeO, show ((61 : Int) == 0) = false from rfl, bz, put_none2, Nat.reduceEqDiff, Nat.reduceLT, Nat.reduceAdd]; rfl⟩
    · rw [hv, checkI_f] at k52
      have hs := said_f (b := b) (c := c) (by rw [hv]; rfl)
      rw [hv, checkI_f]
      simp only [eh4, eh3, Bk.cells, List.length_cons, List.length_nil, Nat.zero_add] at k52
      refine ⟨[], hs, _, _, _, .inl ⟨rfl, rfl⟩, by simp (maxSteps := 10000000) (implicitDefEqProofs := false) (disch := omega) only [s30, Bk.cells, k52, hset_twice, pA9, log_own, storeO, show ((60 : Int) == 0) = false from rfl, bz, put_none2, Nat.reduceEqDiff, Nat.reduceLT, Nat.reduceAdd]; rfl⟩
  obtain ⟨zs, hz, hx⟩ := key
  exact ⟨zs, hz, fun30.listT (sz := 1) rfl (hS _ _ _ _ (by decide)) (by omega) (by simp) (flat_groundL (lotV_flat zs)) hx⟩
end Go.Proofs.YtcmkngajdckndaaGreatDoor
namespace Go
namespace Lm
variable {P : Program} {nv : Nat} {ih : Rec} {vs : Vs} {h : Hp} {nx : Nat}
end Lm
end Go
namespace Go.Proofs.YtcmkngajdckndaaGreatDoor
open Go Go.Proofs Go.Lm
set_option maxRecDepth 10000
set_option maxHeartbeats 64000000
structure OutL (h : Hp) (n0 nx : Nat) (v : Value) (cells : List Value) : Prop where
  is : ∃ r len cap b, n0 ≤ r ∧ r < nx ∧ v = .slice (some ⟨r, 0, none⟩) len cap ∧ hget h r = some (.cells cells b) ∧ cells.length = len ∧ 0 < len ∧ ((cap = SENT ∧ b = some 1) ∨ cap = len)
theorem OutL.app {h : Hp} {n0 nx : Nat} {v x y : Value} {cells : List Value} (a : OutL h n0 nx v cells) (hn : n0 ≤ nx) (hx : appended h 1 x = some (1, [y])) (hk2 : cells.length + 1 ≤ 65536) :
    ∃ v' h' M, appO h nx (some 1) (some v) (some x) = .gen v' h' (nx + 1) M ∧ (∀ z : Z, z.n0 ≤ n0 → logZ z M = z) ∧ OutL h' n0 (nx + 1) v' (cells ++ [y]) ∧ (∀ s, s < n0 → hget h' s = hget h s) := by
  obtain ⟨r, len, cap, b, h1, h2, rfl, h4, h5, h6, h7⟩ := a.is
  rcases h7 with ⟨rfl, rfl⟩ | rfl
  · have ow : OwnL h n0 nx 1 (.slice (some ⟨r, 0, none⟩) len SENT) cells := ⟨.inr ⟨r, len, h1, h2, rfl, h4, by omega, h6⟩⟩
    obtain ⟨v', h', M, ap, lg, own, fr, _⟩ := ow.app (k := cells.length) hn hx rfl (by decide) (by omega) hk2
    refine ⟨v', h', M, ap, lg, ⟨?_⟩, fr⟩
    rcases own.is with ⟨q, _⟩ | ⟨r', len', q1, q2, q3, q4, q5, q6⟩
    · simp at q
    · exact ⟨r', len', SENT, some 1, q1, q2, q3, q4, by omega, q6, .inl ⟨rfl, rfl⟩⟩
  · refine ⟨.slice (some ⟨nx, 0, none⟩) (cap + 1) SENT, hset h nx (.cells (cells ++ [y]) (some 1)), [], ?_, fun z _ => rfl, ⟨nx, cap + 1, SENT, some 1, hn, by omega, rfl, hget_same _ _, by rw [List.length_append, h5]; rfl, by omega, .inl ⟨rfl, rfl⟩⟩, fun s hs => hget_other _ (by omega)⟩
    unfold appO
    simp only [hx, room_true]
    show appTo h nx 1 (.slice (some ⟨r, 0, none⟩) cap cap) 1 [y] = _
    unfold appTo
    simp only [h4, forceN_eq]
    have e1 : Nat.add cap 1 = cap + 1 := rfl
    have e2 : Nat.blt cap HALF = true := by rw [blt_eq]; have : (65536 : Nat) < HALF := by decide
                                            simp; omega
    have e3 : Nat.blt cap (cap + 1) = true := by rw [blt_eq]; simp
    have e4 : Nat.ble (cap + 1) 65536 = true := by rw [ble_eq']; simp; omega
    have e5 : takeL (Nat.mul cap 1) (dropL 0 cells) = some cells := by
      have : Nat.mul cap 1 = cap := Nat.mul_one cap
      rw [this, dropL_eq, List.drop_zero, takeL_is _ _ (by omega), List.take_of_length_le (by omega)]
    rw [e1]
    unfold small
    rw [e2, e3, e4, e5]
    rfl
theorem OutL.same {h h' : Hp} {n0 nx nx' : Nat} {v : Value} {cells : List Value} (a : OutL h n0 nx v cells) (hn : nx ≤ nx') (hs : Same nx h h') : OutL h' n0 nx' v cells := by
  obtain ⟨r, len, cap, b, h1, h2, h3, h4, h5⟩ := a.is
  exact ⟨r, len, cap, b, h1, by omega, h3, by rw [hs r h2]; exact h4, h5⟩
set_option maxHeartbeats 16000000
theorem un_neg (a : Int) : unV Tryz.prog .neg (.int .i64 a) = some (.int .i64 (IntKind.wrap .i64 (-a))) := by
  rw [show -a = 0 - a by omega]
  show gr (pureOf Tryz.prog (Op.intArith .sub .i64 0 a)) = _
  rfl
theorem quo_b {n k : Int} (hk : 1 ≤ k) (hn : -1000000000000 ≤ n) (hn2 : n ≤ 1000000000000) : -1000000000000 ≤ n / k ∧ n / k ≤ 1000000000000 := by
  refine ⟨Int.le_ediv_of_mul_le (by omega) (by omega), ?_⟩
  have : n / k < 1000000000001 := Int.ediv_lt_of_lt_mul (by omega) (by omega)
  omega
section
variable {S : Kn} (hS : S.Only [22]) {m : Nat} {h : Hp} {nx : Nat}
include hS
theorem c80 (hm : 2 ≤ m) (n k : Int) (hk : 1 ≤ k) (hk2 : k ≤ 1000000000) (hn : -1000000000000 ≤ n) (hn2 : n ≤ 1000000000000) : callF 80 [vi n, vi k] (execL Tryz.prog vmL S m) h nx = .gen (vi (n / k)) h nx [] := by
  refine fun80.ground (hS _ _ _ _ (by decide)) (by omega) rfl (by simp) ?_
  have k34 := c34 hS (m := m - 1) (h := h) (nx := nx) (by omega) n k hk hk2
  have h0 : k ≠ 0 := by omega
  have hx := Int.emod_nonneg n h0
  have hx2 := Int.emod_lt_of_pos n (show 0 < k by omega)
  have hq : (n - n % k).tdiv k = n / k := by
    have : n - n % k = k * (n / k) := by have := Int.emod_def n k; omega
    rw [this, Int.mul_tdiv_cancel_left _ h0]
  obtain ⟨b1, b2⟩ := quo_b hk hn hn2
  generalize n / k = q at *
  generalize n % k = x at *
  simp (maxSteps := 10000000) (implicitDefEqProofs := false) (disch := omega) only [s80, k34, hq, hb_34, bz, put_none2, Nat.reduceEqDiff, Nat.reduceLT, Nat.reduceAdd]
  exact ⟨_, _, rfl⟩
theorem c48 (hm : 3 ≤ m) (n k : Int) (hk : 1 ≤ k) (hk2 : k ≤ 1000000000) (hn : -1000000000000 ≤ n) (hn2 : n ≤ 1000000000000) : callF 48 [vi n, vi k] (execL Tryz.prog vmL S m) h nx = .gen (vi (-((-n) / k))) h nx [] := by
  refine fun48.ground (hS _ _ _ _ (by decide)) (by omega) rfl (by simp) ?_
  have k80 := c80 hS (m := m - 1) (h := h) (nx := nx) (by omega) (-n) k hk hk2 (by omega) (by omega)
  obtain ⟨b1, b2⟩ := quo_b hk (show -1000000000000 ≤ -n by omega) (by omega)
  generalize -n / k = q at *
  simp (maxSteps := 10000000) (implicitDefEqProofs := false) (disch := omega) only [s48, k80, un_neg, hb_80, bz, put_none2, Nat.reduceEqDiff, Nat.reduceLT, Nat.reduceAdd]
  exact ⟨_, _, rfl⟩
end
open Go Go.Proofs Go.Lm
set_option maxRecDepth 10000
set_option maxHeartbeats 16000000
set_option maxHeartbeats 32000000
set_option maxHeartbeats 64000000
theorem new_lotL {h h' : Hp} {nx nx' : Nat} {u : Value} {F : List Int} (a : NewL h nx h' nx' 1 u (lotV F)) : Lst h' nx' 1 u (ints F) := by
  rcases a.is with ⟨q, rfl, _, _⟩ | ⟨n, c, b, rfl, rfl, rfl, q, _⟩
  · have : F = [] := by unfold lotV at q; simpa using q
    subst this
    exact lst_none
  · have := lst_rowc (h := hset h nx (.cells (lotV F) b)) (nx := nx + 1) (l := lotV F) c (by omega) (rowL_hset_same _ _)
    rw [show (lotV F).length = n by omega] at this
    have e : (lotV F).map (fun x => [x]) = ints F := by unfold lotV ints; rw [List.map_map]; rfl
    rw [e] at this
    exact this
theorem c34w {S : Kn} (hS : S.Only [22]) {m : Nat} {h : Hp} {nx : Nat} (hm : 1 ≤ m) (n k : Int) (hk : 1 ≤ k) (hk2 : k ≤ 1000000000000000) : callF 34 [vi n, vi k] (execL Tryz.prog vmL S m) h nx = .gen (vi (n % k)) h nx [] := by
  refine fun34.ground (hS _ _ _ _ (by decide)) hm rfl (by simp) ?_
  have h1 : ¬ k < 1 := by omega
  have h0 : k ≠ 0 := by omega
  have hb := bin_rem (P := Tryz.prog) 3 (.tmp 8) (.tmp 9) n k h0
  have hr := Int.tmod_lt_of_pos n (show 0 < k by omega)
  have hr2 : -k < n.tmod k := by
    have := Int.tmod_lt_of_pos (-n) (show 0 < k by omega)
    rw [Int.neg_tmod] at this
    omega
  by_cases h2 : n.tmod k < 0
  · have e : n % k = n.tmod k + k := by
      rw [Int.emod_eq_tmod]
      have : ¬ (0 ≤ n ∨ k ∣ n) := by
        rintro (q | q)
        · have := Int.tmod_nonneg k q; omega
        · have := Int.tmod_eq_zero_of_dvd q; omega
      rw [if_neg this]
      have : k.natAbs = k.toNat := by omega
      omega
    rw [e]
    simp (maxSteps := 10000000) (implicitDefEqProofs := false) (disch := omega) only [s34, h1, hb, h2, bz, put_none2, Nat.reduceEqDiff, Nat.reduceLT, Nat.reduceAdd]
    exact ⟨_, _, rfl⟩
  · have e : n % k = n.tmod k := by
      have h3 := Int.tmod_add_mul_tdiv n k
      have h4 : (n.tmod k + k * n.tdiv k) % k = n.tmod k := by
        rw [Int.add_mul_emod_self_left]
        exact Int.emod_eq_of_lt (by omega) hr
      rw [h3] at h4
      exact h4
    rw [e]
    simp (maxSteps := 10000000) (implicitDefEqProofs := false) (disch := omega) only [s34, h1, hb, h2, bz, put_none2, Nat.reduceEqDiff, Nat.reduceLT, Nat.reduceAdd]
    exact ⟨_, _, rfl⟩
def takeQ (l : List Int) (n : Int) : Int := if l.length = 0 then 0 else l.getD (n % (l.length : Int)).toNat 0
theorem c47 {S : Kn} (hS : S.Only [22]) {m : Nat} (hm : 2 ≤ m) {l : List Int} {h : Hp} {nx : Nat} {v : Value} (n : Int) (hl : l.length ≤ 140737488355328) (hv : Lst h nx 1 v (ints l)) : callF 47 [v, vi n] (execL Tryz.prog vmL S m) h nx = .gen (vi (takeQ l n)) h nx [] := by
  refine fun47.ground (hS _ _ _ _ (by decide)) (by omega) rfl (by simp) ?_
  obtain ⟨a, c, hf, _⟩ := hv.form
  rw [ints_len] at hf
  by_cases h0 : l.length = 0
  · have hb : (((l.length : Nat) : Int) == 0) = true := by rw [h0]; rfl
    unfold takeQ
    rw [if_pos h0, hf]
    simp (maxSteps := 10000000) (implicitDefEqProofs := false) (disch := omega) only [s47, hb, plS_24_0_, plS_24_2_0_1, bz, put_none2, Nat.reduceEqDiff, Nat.reduceLT, Nat.reduceAdd]
    exact ⟨_, _, rfl⟩
  · have hb : (((l.length : Nat) : Int) == 0) = false := by simpa using h0
    have hm1 := Int.emod_nonneg n (show (l.length : Int) ≠ 0 by omega)
    have hm2 := Int.emod_lt_of_pos n (show (0 : Int) < l.length by omega)
    obtain ⟨j, hj⟩ : ∃ j : Nat, n % (l.length : Int) = j := ⟨(n % (l.length : Int)).toNat, by omega⟩
    obtain ⟨rr, o, cs, c2, hv2, hcs, hrn, hel⟩ := int_at hv (i := j) (by omega)
    have k34 := fun (h : Hp) (nx : Nat) => c34w hS (m := m - 1) (h := h) (nx := nx) (by omega) n l.length (by omega) (by omega)
    rw [hj] at k34
    have hj1 : (j : Int) < (l.length : Int) := by omega
    have e : takeQ l n = l[j]'(by omega) := by
      unfold takeQ
      rw [if_neg h0, hj, Int.toNat_natCast, List.getD_eq_getElem?_getD, List.getElem?_eq_getElem (by omega)]; rfl
    rw [e, hv2]
    generalize l[j]'(by omega) = x at *
    simp (maxSteps := 10000000) (implicitDefEqProofs := false) (disch := omega) only [s47, hb, k34, hj1, hcs, hel, hb_34, plS_24_0_, plS_24_2_0_1, bz, put_none2, Nat.reduceEqDiff, Nat.reduceLT, Nat.reduceAdd]
    exact ⟨_, _, rfl⟩
theorem loop49 {ih : Rec} {A B : List Int} {z : Z} {vs : Vs} {h : Hp} {nx : Nat} {v w : Value} (hl : A.length ≤ 1000) (hAB : A.length = B.length) (hv : Lst h nx 1 v (ints A)) (hw : Lst h nx 1 w (ints B))
    (g0 : vs 0 = some v) (g1 : vs 1 = some w) (g5 : vs 5 = some (vi 0)) {r : R} (hr : loopR (sC Tryz.prog 41 41 ih l49_0) z vs h nx = r) :
    (lexS A B = false ∧ ∃ vs', r = .exi 0 z vs' h nx ∧ vs' 0 = some v ∧ vs' 1 = some w) ∨ (∃ vs', r = .ret z vs' h nx ∧ vs' 4 = some (.bool (lexS A B))) := by
  subst hr
  refine loop_rule (Post := fun r => (lexS A B = false ∧ ∃ vs', r = .exi 0 z vs' h nx ∧ vs' 0 = some v ∧ vs' 1 = some w) ∨ (∃ vs', r = .ret z vs' h nx ∧ vs' 4 = some (.bool (lexS A B))))
    (fun i z' vs' h' nx' => i ≤ A.length ∧ z' = z ∧ nx' = nx ∧ h' = h ∧ vs' 0 = some v ∧ vs' 1 = some w ∧ vs' 5 = some (vi (i : Int)) ∧ lexS A B = lexS (A.drop i) (B.drop i)) A.length (by omega)
    ⟨Nat.zero_le _, rfl, rfl, rfl, g0, g1, g5, rfl⟩ ?_
  rintro i z' vs' h' nx' ⟨hi, rfl, rfl, rfl, e0, e1, e5, eo⟩
  obtain ⟨va, vc, hvf, _⟩ := hv.form
  rw [ints_len] at hvf
  obtain ⟨wa, wc, hwf, _⟩ := hw.form
  rw [ints_len, ← hAB] at hwf
  by_cases hlt : i < A.length
  · obtain ⟨rr, o, cs, c, hv2, hcs, hrn, hel⟩ := int_at hv hlt
    obtain ⟨rr2, o2, cs2, c2, hw2, hcs2, hrn2, hel2⟩ := int_at hw (i := i) (by omega)
    rw [← hAB] at hw2
    have h1 : ((i : Int) < (A.length : Int)) := by omega
    rw [List.drop_eq_getElem_cons hlt, List.drop_eq_getElem_cons (show i < B.length by omega)] at eo
    simp only [lexS] at eo
    generalize A[i] = x at *
    generalize B[i] = y at *
    rw [hv2] at e0
    rw [hw2] at e1
    by_cases hx : x = y
    · left
      subst hx
      have hq : lexS A B = lexS (A.drop (i + 1)) (B.drop (i + 1)) := by rw [eo]; simp
      have hb : (x == x) = true := beq_self_eq_true _
      refine ⟨hlt, z', _, _, _, (by simp (maxSteps := 10000000) (implicitDefEqProofs := false) (disch := omega) only [l49_0, e0, e1, e5, h1, hcs, hel, hcs2, hel2, hb, bne_self_eq_false, Bool.not_true, g_un, gq_un, plS_24_0_, plS_24_2_0_1, lokx6, lokx7, bz, put_none2, Nat.reduceEqDiff, Nat.reduceLT, Nat.reduceAdd]; exact rfl), by omega, rfl, rfl, rfl, ?_, ?_, ?_, hq⟩
      · rw [hv2]; simp only [pq, Nat.reduceEqDiff, e0]
      · rw [hw2]; simp only [pq, Nat.reduceEqDiff, e1]
      · simp only [pq, Nat.reduceEqDiff]; rfl
    · right
      have hb : (x == y) = false := by simpa using hx
      rw [decide_eq_false hx, Bool.false_and, Bool.or_false] at eo
      have e : ∃ vs2, sC Tryz.prog 41 41 ih l49_0 z' vs' h' nx' = .ret z' vs2 h' nx' ∧ vs2 4 = some (.bool (decide (x < y))) := by
        refine ⟨_, by simp (maxSteps := 10000000) (implicitDefEqProofs := false) (disch := omega) only [l49_0, e0, e1, e5, h1, hcs, hel, hcs2, hel2, hb, Bool.not_false, g_un, gq_un, plS_24_0_, plS_24_2_0_1, lokx6, lokx7, bz, put_none2, Nat.reduceEqDiff, Nat.reduceLT, Nat.reduceAdd]; exact rfl, ?_⟩
        simp only [pg, Nat.reduceEqDiff]
      obtain ⟨vs2, e, q2⟩ := e
      rw [e]
      exact ⟨trivial, .inr ⟨vs2, rfl, by rw [eo]; exact q2⟩⟩
  · right
    have h1 : ¬ ((i : Int) < (A.length : Int)) := by omega
    rw [hvf] at e0
    have e : ∃ vs2, sC Tryz.prog 41 41 ih l49_0 z' vs' h' nx' = .exi 0 z' vs2 h' nx' ∧ vs2 0 = vs' 0 ∧ vs2 1 = vs' 1 := by
      refine ⟨_, by simp (maxSteps := 10000000) (implicitDefEqProofs := false) (disch := omega) only [l49_0, e0, e1, e5, h1, g_un, plS_24_0_, plS_24_2_0_1, lokx6, lokx7, bz, put_none2, Nat.reduceEqDiff, Nat.reduceLT, Nat.reduceAdd]; exact rfl, ?_, ?_⟩ <;>
      simp only [pg, Nat.reduceEqDiff]
    obtain ⟨vs2, e, q0, q1⟩ := e
    rw [e]
    refine ⟨trivial, .inl ⟨?_, vs2, rfl, (q0.trans e0).trans (by rw [hvf]), q1.trans e1⟩⟩
    rw [eo, List.drop_of_length_le (by omega)]; rfl
theorem c49 {S : Kn} (hS : S.Only [22]) {m : Nat} (hm : 1 ≤ m) {A B : List Int} {h : Hp} {nx : Nat} {v w : Value} (hl : A.length ≤ 1000) (hAB : A.length = B.length) (hv : Lst h nx 1 v (ints A)) (hw : Lst h nx 1 w (ints B)) :
    callF 49 [v, w] (execL Tryz.prog vmL S m) h nx = .gen (.bool (lexS A B)) h nx [] := by
  refine fun49.ground (hS _ _ _ _ (by decide)) (by omega) rfl (by simp) ?_
  obtain ⟨a, c, e1, _⟩ := hv.form
  obtain ⟨a2, c2, e2, _⟩ := hw.form
  rw [ints_len] at e1 e2
  rw [← hAB] at e2
  simp (maxSteps := 10000000) (implicitDefEqProofs := false) (disch := omega) only [s49, s_loop, e1, e2, plS_24_0_, plS_24_2_0_1, bz, put_none2, Nat.reduceEqDiff, Nat.reduceLT, Nat.reduceAdd]
  generalize hr : loopR _ _ _ _ _ = r
  rcases loop49 hl hAB hv hw (by rw [e1]; rfl) (by rw [e2]; rfl) rfl hr with ⟨eo, vs', rfl, q0, q1⟩ | ⟨vs', rfl, q⟩
  · rw [eo]
    rw [e1] at q0
    rw [e2] at q1
    simp (maxSteps := 10000000) (implicitDefEqProofs := false) (disch := omega) only [q0, q1, Int.lt_irrefl, plS_24_0_, plS_24_2_0_1, bz, put_none2, Nat.reduceEqDiff, Nat.reduceLT, Nat.reduceAdd]
    exact ⟨_, _, rfl⟩
  · simp (maxSteps := 10000000) (implicitDefEqProofs := false) (disch := omega) only [q, plS_24_0_, plS_24_2_0_1, bz, put_none2, Nat.reduceEqDiff, Nat.reduceLT, Nat.reduceAdd]
    exact ⟨_, _, rfl⟩
theorem dot_take : ∀ {V A : List Int} {i : Nat} (hv : i < V.length) (ha : i < A.length), dotS (V.take (i + 1)) (A.take (i + 1)) = dotS (V.take i) (A.take i) + A[i] * V[i]
  | [], _, _, hv, _ => by simp at hv
  | _ :: _, [], _, _, ha => by simp at ha
  | v :: V, a :: A, 0, _, _ => by simp [dotS, Int.mul_comm]
  | v :: V, a :: A, i + 1, hv, ha => by
    have := dot_take (V := V) (A := A) (i := i) (by simpa using hv) (by simpa using ha)
    simp only [List.take_succ_cons, dotS, List.getElem_cons_succ]
    omega
theorem dot_bound {V A : List Int} (h1 : ∀ v, v ∈ V → 1 ≤ v) (h2 : ∀ v, v ∈ V → v ≤ 1000) (hB : ∀ x, x ∈ A → 0 ≤ x ∧ x ≤ 20000) (hl : A.length = V.length) : ∀ i : Nat, i ≤ V.length → 0 ≤ dotS (V.take i) (A.take i) ∧ dotS (V.take i) (A.take i) ≤ 20000000 * i := by
  intro i
  induction i with
  | zero => intro _; simp [dotS]
  | succ i ih =>
    intro hi
    have hv : i < V.length := by omega
    have ha : i < A.length := by omega
    rw [dot_take hv ha]
    have b := ih (by omega)
    have a1 := hB _ (List.getElem_mem ha)
    have v1 := h1 _ (List.getElem_mem hv)
    have v2 := h2 _ (List.getElem_mem hv)
    have m1 := Int.mul_nonneg a1.1 (show 0 ≤ V[i] by omega)
    have m2 : A[i] * V[i] ≤ 20000 * 1000 := Int.mul_le_mul a1.2 v2 (by omega) (by omega)
    omega
theorem loop46 {S : Kn} (hS : S.Only [22]) {m : Nat} (hm : 2 ≤ m) {b : Bk} {zs : List Int} {z : Z} {vs : Vs} {h : Hp} {nx p2 : Nat} {v : Value} (hF : b.Fine) (hb : b.At h nx) (hl : zs.length = b.S.length) (hB : ∀ x, x ∈ zs → 0 ≤ x ∧ x ≤ 20000) (hv : Lst h nx 1 v (ints zs)) (hp2 : rowL h p2 = some b.cells)
    (g1 : vs 1 = some v) (g2 : vs 2 = some (pt p2)) (g7 : vs 7 = some (vi 0)) (g8 : vs 8 = some (vi 0)) (g9 : vs 9 = some (vi 0)) {r : R} (hr : loopR (sC Tryz.prog 42 42 (execL Tryz.prog vmL S m) l46_0) z vs h nx = r) :
    ∃ vs', r = .exi 0 z vs' h nx ∧ vs' 7 = some (vi (dotS b.S zs)) ∧ vs' 8 = some (vi zs.sum) := by
  subst hr
  obtain ⟨V1, V2⟩ := fine_v hF
  have hs5 := hF.s5
  refine loop_rule (Post := fun r => ∃ vs', r = .exi 0 z vs' h nx ∧ vs' 7 = some (vi (dotS b.S zs)) ∧ vs' 8 = some (vi zs.sum))
    (fun i z' vs' h' nx' => i ≤ zs.length ∧ z' = z ∧ nx' = nx ∧ h' = h ∧ vs' 1 = some v ∧ vs' 2 = some (pt p2) ∧ vs' 7 = some (vi (dotS (b.S.take i) (zs.take i))) ∧ vs' 8 = some (vi (zs.take i).sum) ∧ vs' 9 = some (vi (i : Int))) zs.length (by omega)
    ⟨Nat.zero_le _, rfl, rfl, rfl, g1, g2, by rw [g7]; simp [dotS], by rw [g8]; simp, g9⟩ ?_
  rintro i z' vs' h' nx' ⟨hi, rfl, rfl, rfl, e1, e2, e7, e8, e9⟩
  obtain ⟨va, vc, hvf, _⟩ := hv.form
  rw [ints_len] at hvf
  rw [hvf] at e1
  by_cases hlt : i < zs.length
  · left
    have h1 : ((i : Int) < (zs.length : Int)) := by omega
    obtain ⟨rr, o, cs, c, hv2, hcs, hrn, hel⟩ := int_at hv hlt
    rw [hvf] at hv2
    cases hv2
    have hlt2 : i < b.S.length := by omega
    obtain ⟨r1, o1, cs1, c1, hsv, hcs1, hrn1, hel1⟩ := int_at hb.s hlt2
    have x6 : part1 false 1 b.cells 6 = some b.sv := rfl
    rw [hsv] at x6
    have h2 : ((i : Int) < (b.S.length : Int)) := by omega
    have hd := dot_take hlt2 hlt
    have hsu := sum_take hlt
    have db := dot_bound V1 V2 hB hl i (by omega)
    have sb := sum_bound (zs := zs) (fun z hz => by have := hB z hz; omega) i
    have a1 := hB _ (List.getElem_mem hlt)
    have v1 := V1 _ (List.getElem_mem hlt2)
    have v2 := V2 _ (List.getElem_mem hlt2)
    have m1 := Int.mul_nonneg a1.1 (show 0 ≤ b.S[i] by omega)
    have m2 : zs[i] * b.S[i] ≤ 20000 * 1000 := Int.mul_le_mul a1.2 v2 (by omega) (by omega)
    have k40 := fun (h : Hp) (nx : Nat) => c40 hS (m := m) (h := h) (nx := nx) (by omega) zs[i] 0 20000
    rw [inB_true a1.1 a1.2] at k40
    generalize dotS (b.S.take i) (zs.take i) = D at *
    generalize (zs.take i).sum = E at *
    generalize zs[i] = x at *
    generalize b.S[i] = y at *
    refine ⟨hlt, z', _, _, _, (by simp (maxSteps := 10000000) (implicitDefEqProofs := false) (disch := omega) only [l46_0, lokx5, e1, e2, e7, e8, e9, h1, h2, hcs, hel, hp2, x6, hcs1, hel1, k40, hb_40, Bool.not_true, g_un, gq_un, hb_21, hb_31, plS_24_0_, plS_24_2_0_1, bz, put_none2, Nat.reduceEqDiff, Nat.reduceLT, Nat.reduceAdd]; exact rfl), by omega, rfl, rfl, rfl, ?_, ?_, ?_, ?_, ?_⟩
    · rw [hvf]; simp only [pq, Nat.reduceEqDiff, e1]
    · simp only [pq, Nat.reduceEqDiff, e2]
    · rw [hd]; simp only [pq, Nat.reduceEqDiff]
    · rw [hsu]; simp only [pq, Nat.reduceEqDiff]
    · simp only [pq, Nat.reduceEqDiff]; rfl
  · right
    have h1 : ¬ ((i : Int) < (zs.length : Int)) := by omega
    have e : ∃ vs2, sC Tryz.prog 42 42 (execL Tryz.prog vmL S m) l46_0 z' vs' h' nx' = .exi 0 z' vs2 h' nx' ∧ vs2 7 = vs' 7 ∧ vs2 8 = vs' 8 := by
      refine ⟨_, by simp (maxSteps := 10000000) (implicitDefEqProofs := false) (disch := omega) only [l46_0, e1, e9, h1, hb_21, hb_31, plS_24_0_, plS_24_2_0_1, bz, put_none2, Nat.reduceEqDiff, Nat.reduceLT, Nat.reduceAdd]; exact rfl, ?_, ?_⟩ <;>
      simp only [pg, Nat.reduceEqDiff]
    obtain ⟨vs2, e, q7, q8⟩ := e
    rw [e]
    have hil : i = zs.length := by omega
    subst hil
    rw [List.take_length] at e7 e8
    rw [List.take_of_length_le (by omega)] at e7
    exact ⟨trivial, vs2, rfl, q7.trans e7, q8.trans e8⟩
theorem c46 {S : Kn} (hS : S.Only [22]) {m : Nat} (hm : 3 ≤ m) {b : Bk} {zs : List Int} {h : Hp} {nx : Nat} {v : Value} (hF : b.Fine) (hb : b.At h nx) (hl : zs.length = b.S.length) (hB : ∀ x, x ∈ zs → 0 ≤ x ∧ x ≤ 20000) (hv : Lst h nx 1 v (ints zs)) :
    callF 46 [.agg b.cells.toArray, v] (execL Tryz.prog vmL S m) h nx = .gen (.tuple #[vi (dotS b.S zs), vi zs.sum, .bool true]) h nx [] := by
  refine fun46.ground (hS _ _ _ _ (by decide)) (by omega) rfl (by simp) ?_
  have hsm : Same nx h (hset h nx (.cells b.cells none)) := (Same.refl nx h).set (Nat.le_refl _) _
  simp (maxSteps := 10000000) (implicitDefEqProofs := false) (disch := omega) only [s46, s_loop, bz, put_none2, Nat.reduceEqDiff, Nat.reduceLT, Nat.reduceAdd]
  generalize hr : loopR _ _ _ _ _ = r
  obtain ⟨vs', rfl, q7, q8⟩ := loop46 hS (m := m - 1) (by omega) (v := v) hF (hb.same hsm (nx' := nx + 1) (by omega)) hl hB (hv.same hsm (by omega)) (rowL_hset_same _ _) rfl rfl rfl rfl rfl hr
  simp (maxSteps := 10000000) (implicitDefEqProofs := false) (disch := omega) only [q7, q8, bz, put_none2, Nat.reduceEqDiff, Nat.reduceLT, Nat.reduceAdd]
  exact ⟨_, _, rfl⟩
theorem inc_head : ∀ {V : List Int} {v : Int}, (∀ i : Nat, ∀ (h : i + 1 < (v :: V).length), (v :: V)[i] < (v :: V)[i + 1]) → ∀ i (h : i < (v :: V).length), v + (i : Int) ≤ (v :: V)[i] := by
  intro V v hi i
  induction i with
  | zero => intro h; simp
  | succ i ih =>
    intro h
    have a := ih (by omega)
    have b := hi i h
    omega
theorem le_of_mul {x s c : Int} (hx : 0 ≤ x) (hs : 1 ≤ s) (hc : 0 ≤ c) (h : x * s ≤ c + s - 1) : x ≤ c := by
  refine Int.not_lt.1 fun q => ?_
  have h1 : (c + 1) * s ≤ x * s := Int.mul_le_mul_of_nonneg_right (by omega) (by omega)
  have h2 : c * 1 ≤ c * s := Int.mul_le_mul_of_nonneg_left hs hc
  rw [Int.add_mul] at h1
  omega
theorem le_of_mul2 {x s c : Int} (hx : 0 ≤ x) (hs : 2 ≤ s) (hs2 : s ≤ 1000) (hc : 0 ≤ c) (hc2 : c ≤ 20000) (h : x * s ≤ c + 2 * s) : x ≤ 20000 := by
  refine Int.not_lt.1 fun q => ?_
  have h1 : x * 2 ≤ x * s := Int.mul_le_mul_of_nonneg_left hs hx
  omega
theorem mem_mul_le_dot : ∀ {V A : List Int} (_ : ∀ v, v ∈ V → 1 ≤ v) (_ : ∀ x, x ∈ A → 0 ≤ x) (i : Nat) (hv : i < V.length) (ha : i < A.length), A[i] * V[i] ≤ dotS V A
  | [], _, _, _, _, hv, _ => by simp at hv
  | _ :: _, [], _, _, _, _, ha => by simp at ha
  | v :: V, a :: A, h1, h2, 0, _, _ => by
    have := dot_nonneg V A (fun y hy => h1 y (List.mem_cons_of_mem _ hy)) (fun y hy => h2 y (List.mem_cons_of_mem _ hy))
    simp only [dotS, List.getElem_cons_zero]
    rw [Int.mul_comm a v]; omega
  | v :: V, a :: A, h1, h2, i + 1, hv, ha => by
    have ih := mem_mul_le_dot (fun y hy => h1 y (List.mem_cons_of_mem _ hy)) (fun y hy => h2 y (List.mem_cons_of_mem _ hy)) i (by simpa using hv) (by simpa using ha)
    have := Int.mul_nonneg (show 0 ≤ v by have := h1 v List.mem_cons_self; omega) (h2 a List.mem_cons_self)
    simp only [dotS, List.getElem_cons_succ]
    omega
theorem told_le {b : Bk} (hF : b.Fine) {c : Int} (hc : 0 ≤ c) {zs : List Int} (h : StampsQ b.S c zs) : (∀ x, x ∈ zs → 0 ≤ x ∧ x ≤ c) ∧ c ≤ dotS b.S zs ∧ zs.length = b.S.length := by
  obtain ⟨V1, V2⟩ := fine_v hF
  have hl1 := hF.s1
  obtain ⟨W, hW, hA, hno⟩ := h
  have hlen := hA.lot.len
  obtain ⟨v0, V, hVV⟩ : ∃ v0 V, b.S = v0 :: V := by
    cases hbs : b.S with
    | nil => rw [hbs] at hl1; simp at hl1
    | cons v0 V => exact ⟨v0, V, rfl⟩
  have hv0 := V1 v0 (by rw [hVV]; exact List.mem_cons_self)
  obtain ⟨w, hw1, hw2, hwl⟩ := lot_first (V := V) hv0 hc
  rw [← hVV] at hwl
  have hWw : W ≤ w := by
    refine Int.not_lt.1 fun q => ?_
    obtain ⟨B, hB⟩ := hwl
    exact hno w hw1 q B hB
  have hmin : ∀ i (hi : i < b.S.length), v0 ≤ b.S[i] := by
    have hinc := hF.si
    intro i hi
    have := inc_head (V := V) (v := v0) (by
      intro i h
      rw [hVV] at hinc
      exact (incB_iff _).1 hinc i _ _ (List.getElem?_eq_getElem (by omega)) (List.getElem?_eq_getElem h)) i (by rw [← hVV]; exact hi)
    simp only [hVV]
    omega
  refine ⟨fun x hx => ?_, by rw [hA.lot.worth]; exact hW, hlen⟩
  have h0 := hA.lot.pos x hx
  obtain ⟨i, hi, rfl⟩ := List.getElem_of_mem hx
  have hi' : i < b.S.length := by omega
  have hm := mem_mul_le_dot V1 hA.lot.pos i hi' hi
  rw [hA.lot.worth] at hm
  have := hmin i hi'
  exact ⟨h0, le_of_mul h0 (V1 _ (List.getElem_mem hi')) hc (by omega)⟩
theorem told_less {V zs : List Int} {c : Int} (h : StampsQ V c zs) (h1 : ∀ v, v ∈ V → 1 ≤ v) {i : Nat} (hi : i < zs.length) (hiV : i < V.length) (hp : 0 < zs[i]) : dotS V zs - V[i] < c := by
  obtain ⟨W, hW, hA, hno⟩ := h
  refine Int.not_le.1 fun q => ?_
  obtain ⟨B, b1, b2, b3⟩ := one_inv i zs zs[i] (List.getElem?_eq_getElem hi) hp hA.lot.pos
  have hd := one_dot i V B V[i] (List.getElem?_eq_getElem hiV) (by omega)
  rw [b2] at hd
  have hv := h1 _ (List.getElem_mem hiV)
  rw [hA.lot.worth] at q hd
  exact hno (W - V[i]) q (by omega) B ⟨b1.trans hA.lot.len, b3, by omega⟩
theorem told_best {V zs o : List Int} {c : Int} (h : StampsQ V c zs) (ho : o.length = V.length) (hp : ∀ x, x ∈ o → 0 ≤ x) (hc : c ≤ dotS V o) : dotS V o > dotS V zs ∨ (dotS V o = dotS V zs ∧ (o.sum > zs.sum ∨ (o.sum = zs.sum ∧ lexS o zs = false))) := by
  obtain ⟨W, hW, hA, hno⟩ := h
  have hlo : LotS V (dotS V o) o := ⟨ho, hp, rfl⟩
  rw [hA.lot.worth]
  have hge : W ≤ dotS V o := Int.not_lt.1 fun q => hno _ hc q _ hlo
  by_cases q : dotS V o = W
  · right
    refine ⟨q, ?_⟩
    rw [q] at hlo
    rcases hA.least o hlo with e | e
    · subst e
      exact .inr ⟨rfl, lex_irr _⟩
    · have e2 := e
      simp only [betS, Bool.or_eq_true, Bool.and_eq_true, decide_eq_true_eq] at e2
      rcases e2 with e2 | ⟨e2, e3⟩
      · exact .inl e2
      · refine .inr ⟨e2.symm, ?_⟩
        cases hx : lexS o zs with
        | false => rfl
        | true =>
          have := lex_trans _ _ _ e3 hx
          rw [lex_irr] at this; cases this
  · left; omega
theorem dot_app {V o : List Int} {k : Int} (h : o.length < V.length) : dotS (V.take (o.length + 1)) (o ++ [k]) = dotS (V.take o.length) o + k * V[o.length] := by
  have := dot_take (V := V) (A := o ++ [k]) (i := o.length) h (by simp)
  have e1 : (o ++ [k]).take (o.length + 1) = o ++ [k] := List.take_of_length_le (by simp)
  have e2 : (o ++ [k]).take o.length = o := List.take_left
  have e3 : (o ++ [k])[o.length]'(by simp) = k := by simp
  rw [e1, e2, e3] at this
  exact this
theorem dot_set : ∀ {V A : List Int} (j : Nat) (y : Int) (hv : j < V.length) (ha : j < A.length), dotS V (A.set j (A[j] + y)) = dotS V A + y * V[j]
  | [], _, _, _, hv, _ => by simp at hv
  | _ :: _, [], _, _, _, ha => by simp at ha
  | v :: V, a :: A, 0, y, _, _ => by
    simp only [List.getElem_cons_zero, List.set_cons_zero, dotS]
    rw [Int.mul_add, Int.mul_comm v y]; omega
  | v :: V, a :: A, j + 1, y, hv, ha => by
    have ih := dot_set (V := V) (A := A) j y (by simpa using hv) (by simpa using ha)
    simp only [List.getElem_cons_succ, List.set_cons_succ, dotS]
    omega
theorem over_mul (n s : Int) (hs : 1 ≤ s) (hn : 0 ≤ n) : n ≤ -((-n) / s) * s ∧ -((-n) / s) * s ≤ n + s - 1 ∧ 0 ≤ -((-n) / s) ∧ -((-n) / s) ≤ n := by
  have h0 : s ≠ 0 := by omega
  have e1 := Int.mul_ediv_add_emod (-n) s
  have a1 := Int.emod_nonneg (-n) h0
  have a2 := Int.emod_lt_of_pos (-n) (show 0 < s by omega)
  rw [Int.mul_comm] at e1
  rw [Int.neg_mul]
  generalize hq : (-n) / s = q at *
  have hle : -n ≤ q * s + s - 1 := by omega
  have hq0 : q ≤ 0 := by
    rw [← hq]
    exact Int.ediv_nonpos_of_nonpos_of_neg (by omega) (by omega)
  refine ⟨by omega, by omega, by omega, ?_⟩
  refine Int.not_lt.1 fun w => ?_
  have h3 : (-q) * 1 ≤ (-q) * s := Int.mul_le_mul_of_nonneg_left hs (by omega)
  rw [Int.neg_mul] at h3
  have h4 : (n + 1) * s ≤ (-q) * s := Int.mul_le_mul_of_nonneg_right (by omega) (by omega)
  rw [Int.neg_mul, Int.add_mul] at h4
  have h5 : n * 1 ≤ n * s := Int.mul_le_mul_of_nonneg_left hs hn
  omega
end Go.Proofs.YtcmkngajdckndaaGreatDoor
