/- The chapter's own examples come out as the document says, run by the kernel; What the functions of package parcel answer, for any book, and why the law's comparison holds; how a book of a world reads. Conditions: none. -/
import Derived.Test.YtcmkngajdckndaaGreatDoorZ11
import Derived.Test.YtcmkngajdckndaaGreatDoorZ12
import Derived.Test.YtcmkngajdckndaaGreatDoorZ13
import Derived.Test.YtcmkngajdckndaaGreatDoorZ14
import Derived.Test.YtcmkngajdckndaaGreatDoorZ15
import Derived.Test.YtcmkngajdckndaaGreatDoorZ08
set_option linter.unusedVariables false
set_option linter.unusedSimpArgs false
namespace Go.Proofs.YtcmkngajdckndaaGreatDoor.vk
open Go Go.Proofs Go.Vm
section
variable {F : Fence} {w : World} {Q : Exit → Act → World → Prop}
theorem part0 (hF : Wd F.plain) (hB : Base.Ok ⟨R00, vmH, NG, w⟩) (hb : Bare ⟨R00, vmH, NG, w⟩ NG) (h : ∀ x v, AtH ⟨R00, vmH, NG, w⟩ F.plain 15 141 l1 r1 n1 x v → c7.wpIn F.plain 0 Tryz.prog Q x v) : ∀ x v, AtH ⟨R00, vmH, NG, w⟩ F.plain 15 141 l0 r0 n0 x v → c0.wpIn F.plain 0 Tryz.prog Q x v :=
  segH hB hb hF (draw_ok mixed) (execC_ok (draw_ok mixed) bare none_done (okAll_nil) 200) (by kernel_rfl) run0 h
theorem part1 (hF : Wd F.plain) (hB : Base.Ok ⟨R00, vmH, NG, w⟩) (hb : Bare ⟨R00, vmH, NG, w⟩ NG) (h : ∀ x v, AtH ⟨R00, vmH, NG, w⟩ F.plain 15 141 l2 r2 n2 x v → c9.wpIn F.plain 0 Tryz.prog Q x v) : ∀ x v, AtH ⟨R00, vmH, NG, w⟩ F.plain 15 141 l1 r1 n1 x v → c7.wpIn F.plain 0 Tryz.prog Q x v :=
  segH hB hb hF (draw_ok mixed) (execC_ok (draw_ok mixed) bare none_done (okAll_nil) 200) (by kernel_rfl) run1 h
theorem part2 (hF : Wd F.plain) (hB : Base.Ok ⟨R00, vmH, NG, w⟩) (hb : Bare ⟨R00, vmH, NG, w⟩ NG) (h : ∀ x v, AtH ⟨R00, vmH, NG, w⟩ F.plain 15 141 l3 r3 n3 x v → c10.wpIn F.plain 0 Tryz.prog Q x v) : ∀ x v, AtH ⟨R00, vmH, NG, w⟩ F.plain 15 141 l2 r2 n2 x v → c9.wpIn F.plain 0 Tryz.prog Q x v :=
  segH hB hb hF (draw_ok mixed) (execC_ok (draw_ok mixed) bare none_done (okAll_cons ok1 (okAll_cons ok0 (okAll_nil))) 200) (by kernel_rfl) run2 h
end
theorem knownF : Known Tryz.prog 22 vmH :=
  known_parts (by decide) (nv := 15) (by decide) Tryz.func22 hbF (by kernel_rfl) bare fun F w hF hB hb a hat => (part0 hF hB hb (part1 hF hB hb (part2 hF hB hb (endH (fn := Tryz.f22) hB hb hF (draw_ok mixed) (execC_ok (draw_ok mixed) bare none_done (okAll_nil) 200) run3)))) a w hat
end Go.Proofs.YtcmkngajdckndaaGreatDoor.vk
namespace Go.Proofs.YtcmkngajdckndaaGreatDoor
open Go Go.Proofs Go.RowKit Go.Deep Go.ChangeShapes Go.WideShapes
open Go.Lm (vi hpW argOf encV enc1 Lst slice_world HALF rowL cellsW cellsW_at nnOf topOf)
set_option maxHeartbeats 1000000
set_option maxRecDepth 10000
open Classical in
noncomputable def stK : Lm.Kn := fun f args h _ => if f = 22 ∧ args = [] ∧ rowL h 0 = some limL then some (.bool true) else none
theorem stK_only : stK.Only [22] := by
  intro f a h nx hf
  unfold stK
  rw [if_neg]
  intro q
  exact hf (by rw [q.1]; exact List.mem_cons_self)
theorem stK_st : Stamped stK := by
  intro h nx _ hl
  unfold stK
  rw [if_pos ⟨rfl, rfl, hl⟩]
theorem lim_ground {i : Nat} {x : Value} (hx : limL[i]? = some x) : ∃ n, x = vi n := by
  have hm := List.mem_of_getElem? hx
  unfold limL at hm
  simp only [List.mem_cons, List.not_mem_nil, or_false] at hm
  rcases hm with rfl | rfl | rfl | rfl | rfl | rfl | rfl | rfl | rfl | rfl | rfl | rfl | rfl | rfl | rfl | rfl | rfl | rfl | rfl | rfl | rfl | rfl <;> exact ⟨_, rfl⟩
theorem vm_laid_of {w : World} {cs : Array Value} {e fz} (hw : w.heap[0]? = some (.cells cs e fz)) (hc : ∀ (i : Nat) (x : Value), limL[i]? = some x → cs[i]? = some x) : Vm.Laid vk.vmH w := by
  intro r x hr hx hn
  have hng : Vm.NG = 1 := rfl
  have : r = 0 := by omega
  subst this
  unfold vk.vmH at hx
  rw [Vm.hget_hset (by omega) (by omega)] at hx
  simp only [if_true] at hx
  cases hx
  refine ⟨_, hw, cs, e, fz, rfl, ?_, fun i x hx => ?_⟩
  · have := (Array.getElem?_eq_some_iff.1 (hc 21 (vi 20000) rfl)).1
    simp; omega
  · have hx' : limL[i]? = some x := hx
    obtain ⟨n, rfl⟩ := lim_ground hx'
    exact ⟨rfl, _, hc i _ hx', .int _ _⟩
theorem hb22 : Lm.hasBody Tryz.prog 22 = true := by kernel_rfl
theorem stK_ok (lo : Lm.Lo) : @Lm.Kn.Ok lo Tryz.prog stK := by
  letI := lo
  intro f args h nx v hf
  unfold stK at hf
  split at hf
  · rename_i q
    obtain ⟨rfl, rfl, hl⟩ := q
    cases hf
    refine ⟨hb22, fun R w F args' hh hd hgl hF hv => ?_⟩
    have ha : args' = #[] := by
      have := hv.of_nil
      rw [← Array.toArray_toList (xs := args'), this]
    subst ha
    have h0 := hgl 0 (by decide)
    have hs : Vm.NG ≤ w.heap.size := by have := hh.bnd 0 0 h0; have : Vm.NG = 1 := rfl; omega
    obtain ⟨cs, e, fz, h1, h2⟩ := Lm.rowL_at (hh.at 0) h0 hl
    refine (vk.knownF.2 F w hF hs (vm_laid_of h1 fun i x hx => ?_)).mono fun e w' q => ⟨.bool true, q.1, .bool true, q.2⟩
    obtain ⟨x', a, b⟩ := h2.2.2 i x (Nat.le_trans (Lm.Lo.gz (by decide)) (Nat.zero_le _)) hx
    obtain ⟨n, rfl⟩ := lim_ground hx
    cases b
    exact a
  · cases hf
theorem lim_get {w : World} (h : Lim w) : ∃ cs e fz, w.heap[0]? = some (.cells cs e fz) ∧ cs.size = 22 ∧ ∀ (i : Nat) (x : Value), limL[i]? = some x → cs[i]? = some x := by
  obtain ⟨cs, e, fz, hw⟩ := block_of (h.l0 0 (by omega)).1
  have cell : ∀ (i : Nat) (v : Value), w.cell? ⟨0, i, none⟩ = some v → cs[i]? = some v := fun i v q => by simpa [World.cell?, hw] using q
  have hget : ∀ (i : Nat) (x : Value), limL[i]? = some x → cs[i]? = some x := by
    intro i x hx
    have hi : i < 22 := (List.getElem?_eq_some_iff.1 hx).1
    have hk : i / 2 < 11 := by omega
    have hp := h.l0 (i / 2) hk
    rcases Nat.mod_two_eq_zero_or_one i with q | q
    · have e1 : i / 2 * 2 = i := by omega
      rw [e1] at hp
      refine cell i x (hp.1.trans ?_)
      have : i = 0 ∨ i = 2 ∨ i = 4 ∨ i = 6 ∨ i = 8 ∨ i = 10 ∨ i = 12 ∨ i = 14 ∨ i = 16 ∨ i = 18 ∨ i = 20 := by omega
      rcases this with rfl | rfl | rfl | rfl | rfl | rfl | rfl | rfl | rfl | rfl | rfl <;> cases hx <;> rfl
    · have e1 : i / 2 * 2 + 1 = i := by omega
      rw [e1] at hp
      refine cell i x (hp.2.trans ?_)
      have : i = 1 ∨ i = 3 ∨ i = 5 ∨ i = 7 ∨ i = 9 ∨ i = 11 ∨ i = 13 ∨ i = 15 ∨ i = 17 ∨ i = 19 ∨ i = 21 := by omega
      rcases this with rfl | rfl | rfl | rfl | rfl | rfl | rfl | rfl | rfl | rfl | rfl <;> cases hx <;> rfl
  have h21 := (Array.getElem?_eq_some_iff.1 (hget 21 (vi 20000) rfl)).1
  have h22 : cs[22]? = none := by
    have := h.stop
    simpa [World.cell?, hw] using this
  have := Array.getElem?_eq_none_iff.1 h22
  exact ⟨cs, e, fz, hw, by omega, hget⟩
theorem lim_row {w : World} (h : Lim w) : rowL (hpW w) 0 = some limL := by
  obtain ⟨cs, e, fz, hw, hsz, hget⟩ := lim_get h
  have hpos := h.pos
  have hn : (0 : Nat) % nnOf w = 0 := Nat.zero_mod _
  have hd : (0 : Nat) / nnOf w = 0 := Nat.zero_div _
  have ha : 0 < argOf w := Nat.lt_of_lt_of_le (by unfold nnOf; omega) (Lm.nn_le w)
  have hr : Lm.rowW w 0 = .ro (cellsW w 0 cs) := by
    unfold Lm.rowW
    rw [if_pos ⟨ha, by rw [hn]; omega⟩, hn, hw, hd]
  have hc : cellsW w 0 cs = limL := by
    have hk : ∀ i, i < 22 → ∃ u, cs[0 + i]? = some u ∧ (encV w u).isSome = true := fun i hi => by
      have hx := List.getElem?_eq_getElem (l := limL) (i := i) (by exact hi)
      obtain ⟨n, en⟩ := lim_ground hx
      exact ⟨_, by rw [Nat.zero_add]; exact hget i _ hx, by rw [en]; rfl⟩
    refine List.ext_getElem? fun i => ?_
    by_cases hi : i < 22
    · have hx := List.getElem?_eq_getElem (l := limL) (i := i) (by exact hi)
      obtain ⟨n, en⟩ := lim_ground hx
      have := cellsW_at hk hi (by rw [Nat.zero_add]; exact hget i _ hx)
      rw [Nat.zero_add] at this
      rw [this, hx, en]; rfl
    · have h1 : (cellsW w 0 cs).length ≤ 22 := by
        unfold cellsW
        rw [List.length_append, List.length_replicate, List.length_map]
        have := Lm.tw_len (fun v => (encV w v).isSome) (cs.toList.drop 0)
        rw [List.drop_zero] at this ⊢
        simp at this ⊢
        omega
      rw [List.getElem?_eq_none (by omega), List.getElem?_eq_none (by show 22 ≤ i; omega)]
  unfold rowL
  have : Lm.hget (hpW w) 0 = some (Lm.rowW w 0) := rfl
  rw [this, hr, hc]
def kdW (w : World) (x : KdW) : Kd := ⟨x.room, x.most, enc1 w (.slice x.A x.zs.length x.cap), x.zs, x.step⟩
def bkW (w : World) (A : Option Addr) (ca : Nat) (P : List Pc) (B : Option Addr) (cb : Nat) (K : List KdW) (C : Option Addr) (cc : Nat) (S : List Int) (g f u e : Int) : Bk :=
  ⟨P, enc1 w (.slice A P.length ca), K.map (kdW w), enc1 w (.slice B K.length cb), g, f, u, e, S, enc1 w (.slice C S.length cc)⟩
theorem half_big {c : Nat} (h : c ≤ 140737488351232) : c < HALF := by unfold HALF; omega
theorem ints_world {w : World} {A : Option Addr} {cap : Nat} {l : List Int} (h : SlW w 1 A cap (l.map intC)) : (encV w (.slice A l.length cap)).isSome = true ∧ Lst (hpW w) (argOf w) 1 (enc1 w (.slice A l.length cap)) (ints l) := by
  have := slice_world (w := w) (A := A) (cap := cap) (rows := l.map intC) (sz := 1) (by omega) (fun r hr => by obtain ⟨n, _, rfl⟩ := List.mem_map.1 hr; rfl) h.len (half_big h.few) h.lies (fun r hr u hu => by
    obtain ⟨n, _, rfl⟩ := List.mem_map.1 hr
    simp only [intC, List.mem_cons, List.not_mem_nil, or_false] at hu
    subst hu; rfl)
  rw [List.length_map] at this
  refine ⟨this.1, ?_⟩
  have e : (l.map intC).map (fun r => r.map (enc1 w)) = ints l := by
    rw [List.map_map]; rfl
  rw [← e]; exact this.2
theorem bk_at {w : World} (hl : Lim w) {A : Option Addr} {ca : Nat} {P : List Pc} {B : Option Addr} {cb : Nat} {K : List KdW} {C : Option Addr} {cc : Nat} {S : List Int} (g f u e : Int)
    (hP : SlW w 4 A ca (P.map Pc.row)) (hK : SlW w 4 B cb (K.map KdW.code)) (hZ : ∀ x ∈ K, x.Lies w) (hS : SlW w 1 C cc (S.map intC)) :
    (bkW w A ca P B cb K C cc S g f u e).At (hpW w) (argOf w) ∧ @Lm.VR (Lm.worldLo w hl.pos) (Lm.renOf w) (.agg (bkW w A ca P B cb K C cc S g f u e).cells.toArray) (.agg #[.slice A P.length ca, .slice B K.length cb, vi g, vi f, vi u, vi e, .slice C S.length cc]) := by
  have p := slice_world (w := w) (A := A) (cap := ca) (rows := P.map Pc.row) (sz := 4) (by omega) (fun r hr => by obtain ⟨n, _, rfl⟩ := List.mem_map.1 hr; rfl) hP.len (half_big hP.few) hP.lies (fun r hr u hu => by
    obtain ⟨n, _, rfl⟩ := List.mem_map.1 hr
    simp only [Pc.row, List.mem_cons, List.not_mem_nil, or_false] at hu
    rcases hu with rfl | rfl | rfl | rfl <;> rfl)
  have k := slice_world (w := w) (A := B) (cap := cb) (rows := K.map KdW.code) (sz := 4) (by omega) (fun r hr => by obtain ⟨n, _, rfl⟩ := List.mem_map.1 hr; rfl) hK.len (half_big hK.few) hK.lies (fun r hr u hu => by
    obtain ⟨n, hn, rfl⟩ := List.mem_map.1 hr
    simp only [KdW.code, List.mem_cons, List.not_mem_nil, or_false] at hu
    rcases hu with rfl | rfl | rfl | rfl
    · rfl
    · rfl
    · exact (ints_world (hZ n hn)).1
    · rfl)
  have s := ints_world hS
  rw [List.length_map] at p k
  have ep : (P.map Pc.row).map (fun r => r.map (enc1 w)) = P.map Pc.row := by rw [List.map_map]; rfl
  have ek : (K.map KdW.code).map (fun r => r.map (enc1 w)) = (K.map (kdW w)).map Kd.row := by rw [List.map_map, List.map_map]; rfl
  rw [ep] at p
  rw [ek] at k
  refine ⟨⟨?_, lim_row hl, p.2, k.2, fun x hx => ?_, s.2, ?_, ?_, fun x hx => ?_, ?_⟩, ?_⟩
  · have := Lm.nn_le w; unfold nnOf at this; omega
  · obtain ⟨y, hy, rfl⟩ := List.mem_map.1 hx
    exact (ints_world (hZ y hy)).2
  · have := hP.len; have := hP.few; rw [List.length_map] at *; show P.length ≤ _; omega
  · have := hK.len; have := hK.few; rw [List.length_map] at *; show (K.map (kdW w)).length ≤ _; rw [List.length_map]; omega
  · obtain ⟨y, hy, rfl⟩ := List.mem_map.1 hx
    have h1 := (hZ y hy).len; have h2 := (hZ y hy).few; rw [List.length_map] at h1; show y.zs.length ≤ _; omega
  · have := hS.len; have := hS.few; rw [List.length_map] at *; show S.length ≤ _; omega
  · letI := Lm.worldLo w hl.pos
    have vr : ∀ {v : Value}, (encV w v).isSome = true → Lm.VR (Lm.renOf w) (enc1 w v) v := fun {v} h => by
      obtain ⟨x, hx⟩ := Option.isSome_iff_exists.1 h
      have e1 : enc1 w v = x := by unfold enc1; rw [hx]; rfl
      rw [e1]
      exact Lm.enc_vr hl.pos hx
    have one : ∀ {v : Value}, (encV w v).isSome = true → (enc1 w v).oneCell' = true := fun {v} h => by
      obtain ⟨x, hx⟩ := Option.isSome_iff_exists.1 h
      have e1 : enc1 w v = x := by unfold enc1; rw [hx]; rfl
      rw [e1]
      exact Lm.enc_one hx
    refine Lm.VR.agg rfl (fun i x x' a b => ?_) (fun i x a => ?_)
    · have hi : i < 7 := (Array.getElem?_eq_some_iff.1 b).1
      match i, hi with
      | 0, _ => cases a; cases b; exact vr p.1
      | 1, _ => cases a; cases b; exact vr k.1
      | 2, _ => cases a; cases b; exact .int _ _
      | 3, _ => cases a; cases b; exact .int _ _
      | 4, _ => cases a; cases b; exact .int _ _
      | 5, _ => cases a; cases b; exact .int _ _
      | 6, _ => cases a; cases b; exact vr s.1
    · have hi : i < 7 := (Array.getElem?_eq_some_iff.1 a).1
      match i, hi with
      | 0, _ => cases a; exact one p.1
      | 1, _ => cases a; exact one k.1
      | 2, _ => cases a; rfl
      | 3, _ => cases a; rfl
      | 4, _ => cases a; rfl
      | 5, _ => cases a; rfl
      | 6, _ => cases a; exact one s.1
end Go.Proofs.YtcmkngajdckndaaGreatDoor
