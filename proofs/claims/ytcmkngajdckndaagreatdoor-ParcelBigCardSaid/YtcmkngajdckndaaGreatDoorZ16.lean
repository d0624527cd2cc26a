/- The chapter's own examples come out as the document says, run by the kernel; What the functions of package parcel answer, for any book, and why the law's comparison holds; how a book of a world reads. Conditions: none. -/
import Derived.Test.YtcmkngajdckndaaGreatDoorZ11
import Derived.Test.YtcmkngajdckndaaGreatDoorZ12
import Derived.Test.YtcmkngajdckndaaGreatDoorZ13
import Derived.Test.YtcmkngajdckndaaGreatDoorZ14
import Derived.Test.YtcmkngajdckndaaGreatDoorZ15
import Derived.Test.YtcmkngajdckndaaGreatDoorZ08
set_option linter.unusedVariables false
set_option linter.unusedSimpArgs false
namespace Go.Proofs.YtcmkngajdckndaaGreatDoor.vk
open Go Go.Proofs Go.Vm
section
variable {F : Fence} {w : World} {Q : Exit → Act → World → Prop}
theorem part0 (hF : Wd F.plain) (hB : Base.Ok ⟨R00, vmH, NG, w⟩) (hb : Bare ⟨R00, vmH, NG, w⟩ NG) (h : ∀ x v, AtH ⟨R00, vmH, NG, w⟩ F.plain 15 141 l1 r1 n1 x v → c7.wpIn F.plain 0 Tryz.prog Q x v) : ∀ x v, AtH ⟨R00, vmH, NG, w⟩ F.plain 15 141 l0 r0 n0 x v → c0.wpIn F.plain 0 Tryz.prog Q x v :=
  segH hB hb hF (z49 mixed) (z7x (z49 mixed) bare z4r (z4q) 200) (by kernel_rfl) run0 h
theorem z0c (hF : Wd F.plain) (hB : Base.Ok ⟨R00, vmH, NG, w⟩) (hb : Bare ⟨R00, vmH, NG, w⟩ NG) (h : ∀ x v, AtH ⟨R00, vmH, NG, w⟩ F.plain 15 141 l2 r2 n2 x v → c9.wpIn F.plain 0 Tryz.prog Q x v) : ∀ x v, AtH ⟨R00, vmH, NG, w⟩ F.plain 15 141 l1 r1 n1 x v → c7.wpIn F.plain 0 Tryz.prog Q x v :=
  segH hB hb hF (z49 mixed) (z7x (z49 mixed) bare z4r (z4q) 200) (by kernel_rfl) run1 h
theorem part2 (hF : Wd F.plain) (hB : Base.Ok ⟨R00, vmH, NG, w⟩) (hb : Bare ⟨R00, vmH, NG, w⟩ NG) (h : ∀ x v, AtH ⟨R00, vmH, NG, w⟩ F.plain 15 141 l3 r3 n3 x v → c10.wpIn F.plain 0 Tryz.prog Q x v) : ∀ x v, AtH ⟨R00, vmH, NG, w⟩ F.plain 15 141 l2 r2 n2 x v → c9.wpIn F.plain 0 Tryz.prog Q x v :=
  segH hB hb hF (z49 mixed) (z7x (z49 mixed) bare z4r (okAll_cons ok1 (okAll_cons ok0 (z4q))) 200) (by kernel_rfl) run2 h
end
theorem knownF : Known Tryz.prog 22 vmH :=
  known_parts (by decide) (nv := 15) (by decide) Tryz.func22 hbF (by kernel_rfl) bare fun F w hF hB hb a hat => (part0 hF hB hb (z0c hF hB hb (part2 hF hB hb (endH (fn := Tryz.f22) hB hb hF (z49 mixed) (z7x (z49 mixed) bare z4r (z4q) 200) run3)))) a w hat
end Go.Proofs.YtcmkngajdckndaaGreatDoor.vk
namespace Go.Proofs.YtcmkngajdckndaaGreatDoor
open Go Go.Proofs Go.RowKit Go.Deep Go.ChangeShapes Go.WideShapes
open Go.Lm (vi hpW z3u encV enc1 Lst z3y HALF rowL z3n cellsW_at nnOf topOf)
set_option maxHeartbeats 1000000
set_option maxRecDepth 10000
open Classical in
noncomputable def stK : Lm.Kn := fun f args h _ => if f = 22 ∧ args = [] ∧ rowL h 0 = some limL then some (.bool true) else none
theorem stK_only : stK.Only [22] := by
  intro f a h nx hf
  unfold stK
  rw [if_neg]
  intro q
  exact hf (by rw [q.1]; exact List.mem_cons_self)
theorem stK_st : Stamped stK := by
  intro h nx _ hl
  unfold stK
  rw [if_pos ⟨rfl, rfl, hl⟩]
theorem z6i {i : Nat} {x : Value} (hx : limL[i]? = some x) : ∃ n, x = vi n := by
  have hm := List.mem_of_getElem? hx
  unfold limL at hm
  simp only [List.mem_cons, List.not_mem_nil, or_false] at hm
  rcases hm with rfl | rfl | rfl | rfl | rfl | rfl | rfl | rfl | rfl | rfl | rfl | rfl | rfl | rfl | rfl | rfl | rfl | rfl | rfl | rfl | rfl | rfl <;> exact ⟨_, rfl⟩
theorem vm_laid_of {w : World} {cs : Array Value} {e fz} (hw : w.heap[0]? = some (.cells cs e fz)) (hc : ∀ (i : Nat) (x : Value), limL[i]? = some x → cs[i]? = some x) : Vm.Laid vk.vmH w := by
  intro r x hr hx hn
  have hng : Vm.NG = 1 := rfl
  have : r = 0 := by omega
  subst this
  unfold vk.vmH at hx
  rw [Vm.hget_hset (by omega) (by omega)] at hx
  simp only [if_true] at hx
  cases hx
  refine ⟨_, hw, cs, e, fz, rfl, ?_, fun i x hx => ?_⟩
  · have := (Array.getElem?_eq_some_iff.1 (hc 21 (vi 20000) rfl)).1
    simp; omega
  · have hx' : limL[i]? = some x := hx
    obtain ⟨n, rfl⟩ := z6i hx'
    exact ⟨rfl, _, hc i _ hx', .int _ _⟩
theorem hb22 : Lm.hasBody Tryz.prog 22 = true := by kernel_rfl
theorem stK_ok (lo : Lm.Lo) : @Lm.Kn.Ok lo Tryz.prog stK := by
  letI := lo
  intro f args h nx v hf
  unfold stK at hf
  split at hf
  · rename_i q
    obtain ⟨rfl, rfl, hl⟩ := q
    cases hf
    refine ⟨hb22, fun R w F args' hh hd hgl hF hv => ?_⟩
    have ha : args' = #[] := by
      have := hv.of_nil
      rw [← Array.toArray_toList (xs := args'), this]
    subst ha
    have h0 := hgl 0 (by decide)
    have hs : Vm.NG ≤ w.heap.size := by have := hh.bnd 0 0 h0; have : Vm.NG = 1 := rfl; omega
    obtain ⟨cs, e, fz, h1, h2⟩ := Lm.rowL_at (hh.at 0) h0 hl
    refine (vk.knownF.2 F w hF hs (vm_laid_of h1 fun i x hx => ?_)).mono fun e w' q => ⟨.bool true, q.1, .bool true, q.2⟩
    obtain ⟨x', a, b⟩ := h2.2.2 i x (Nat.le_trans (Lm.Lo.gz (by decide)) (Nat.zero_le _)) hx
    obtain ⟨n, rfl⟩ := z6i hx
    cases b
    exact a
  · cases hf
theorem lim_get {w : World} (h : Lim w) : ∃ cs e fz, w.heap[0]? = some (.cells cs e fz) ∧ cs.size = 22 ∧ ∀ (i : Nat) (x : Value), limL[i]? = some x → cs[i]? = some x := by
  obtain ⟨cs, e, fz, hw⟩ := block_of (h.l0 0 (by omega)).1
  have cell : ∀ (i : Nat) (v : Value), w.cell? ⟨0, i, none⟩ = some v → cs[i]? = some v := fun i v q => by simpa [World.cell?, hw] using q
  have hget : ∀ (i : Nat) (x : Value), limL[i]? = some x → cs[i]? = some x := by
    intro i x hx
    have hi : i < 22 := (List.getElem?_eq_some_iff.1 hx).1
    have hk : i / 2 < 11 := by omega
    have hp := h.l0 (i / 2) hk
    rcases Nat.mod_two_eq_zero_or_one i with q | q
    · have e1 : i / 2 * 2 = i := by omega
      rw [e1] at hp
      refine cell i x (hp.1.trans ?_)
      have : i = 0 ∨ i = 2 ∨ i = 4 ∨ i = 6 ∨ i = 8 ∨ i = 10 ∨ i = 12 ∨ i = 14 ∨ i = 16 ∨ i = 18 ∨ i = 20 := by omega
      rcases this with rfl | rfl | rfl | rfl | rfl | rfl | rfl | rfl | rfl | rfl | rfl <;> cases hx <;> rfl
    · have e1 : i / 2 * 2 + 1 = i := by omega
      rw [e1] at hp
      refine cell i x (hp.2.trans ?_)
      have : i = 1 ∨ i = 3 ∨ i = 5 ∨ i = 7 ∨ i = 9 ∨ i = 11 ∨ i = 13 ∨ i = 15 ∨ i = 17 ∨ i = 19 ∨ i = 21 := by omega
      rcases this with rfl | rfl | rfl | rfl | rfl | rfl | rfl | rfl | rfl | rfl | rfl <;> cases hx <;> rfl
  have h21 := (Array.getElem?_eq_some_iff.1 (hget 21 (vi 20000) rfl)).1
  have h22 : cs[22]? = none := by
    have := h.stop
    simpa [World.cell?, hw] using this
  have := Array.getElem?_eq_none_iff.1 h22
  exact ⟨cs, e, fz, hw, by omega, hget⟩
theorem lim_row {w : World} (h : Lim w) : rowL (hpW w) 0 = some limL := by
  obtain ⟨cs, e, fz, hw, hsz, hget⟩ := lim_get h
  have hpos := h.pos
  have hn : (0 : Nat) % nnOf w = 0 := Nat.zero_mod _
  have hd : (0 : Nat) / nnOf w = 0 := Nat.zero_div _
  have ha : 0 < z3u w := Nat.lt_of_lt_of_le (by unfold nnOf; omega) (Lm.nn_le w)
  have hr : Lm.rowW w 0 = .ro (z3n w 0 cs) := by
    unfold Lm.rowW
    rw [if_pos ⟨ha, by rw [hn]; omega⟩, hn, hw, hd]
  have hc : z3n w 0 cs = limL := by
    have hk : ∀ i, i < 22 → ∃ u, cs[0 + i]? = some u ∧ (encV w u).isSome = true := fun i hi => by
      have hx := List.getElem?_eq_getElem (l := limL) (i := i) (by exact hi)
      obtain ⟨n, en⟩ := z6i hx
      exact ⟨_, by rw [Nat.zero_add]; exact hget i _ hx, by rw [en]; rfl⟩
    refine List.ext_getElem? fun i => ?_
    by_cases hi : i < 22
    · have hx := List.getElem?_eq_getElem (l := limL) (i := i) (by exact hi)
      obtain ⟨n, en⟩ := z6i hx
      have := cellsW_at hk hi (by rw [Nat.zero_add]; exact hget i _ hx)
      rw [Nat.zero_add] at this
      rw [this, hx, en]; rfl
    · have h1 : (z3n w 0 cs).length ≤ 22 := by
        unfold z3n
        rw [List.length_append, List.length_replicate, List.length_map]
        have := Lm.tw_len (fun v => (encV w v).isSome) (cs.toList.drop 0)
        rw [List.drop_zero] at this ⊢
        simp at this ⊢
        omega
      rw [List.getElem?_eq_none (by omega), List.getElem?_eq_none (by show 22 ≤ i; omega)]
  unfold rowL
  have : Lm.hget (hpW w) 0 = some (Lm.rowW w 0) := rfl
  rw [this, hr, hc]
def kdW (w : World) (x : KdW) : Kd := ⟨x.room, x.most, enc1 w (.slice x.A x.zs.length x.cap), x.zs, x.step⟩
def bkW (w : World) (A : Option Addr) (ca : Nat) (P : List Pc) (B : Option Addr) (cb : Nat) (K : List KdW) (C : Option Addr) (cc : Nat) (S : List Int) (g f u e : Int) : Bk :=
  ⟨P, enc1 w (.slice A P.length ca), K.map (kdW w), enc1 w (.slice B K.length cb), g, f, u, e, S, enc1 w (.slice C S.length cc)⟩
theorem half_big {c : Nat} (h : c ≤ 140737488351232) : c < HALF := by unfold HALF; omega
theorem z8g {w : World} {A : Option Addr} {cap : Nat} {l : List Int} (h : SlW w 1 A cap (l.map intC)) : (encV w (.slice A l.length cap)).isSome = true ∧ Lst (hpW w) (z3u w) 1 (enc1 w (.slice A l.length cap)) (ints l) := by
  have := z3y (w := w) (A := A) (cap := cap) (rows := l.map intC) (sz := 1) (by omega) (fun r hr => by obtain ⟨n, _, rfl⟩ := List.mem_map.1 hr; rfl) h.len (half_big h.few) h.lies (fun r hr u hu => by
    obtain ⟨n, _, rfl⟩ := List.mem_map.1 hr
    simp only [intC, List.mem_cons, List.not_mem_nil, or_false] at hu
    subst hu; rfl)
  rw [List.length_map] at this
  refine ⟨this.1, ?_⟩
  have e : (l.map intC).map (fun r => r.map (enc1 w)) = ints l := by
    rw [List.map_map]; rfl
  rw [← e]; exact this.2
theorem bk_at {w : World} (hl : Lim w) {A : Option Addr} {ca : Nat} {P : List Pc} {B : Option Addr} {cb : Nat} {K : List KdW} {C : Option Addr} {cc : Nat} {S : List Int} (g f u e : Int)
    (hP : SlW w 4 A ca (P.map Pc.row)) (hK : SlW w 4 B cb (K.map KdW.code)) (hZ : ∀ x ∈ K, x.Lies w) (hS : SlW w 1 C cc (S.map intC)) :
    (bkW w A ca P B cb K C cc S g f u e).At (hpW w) (z3u w) ∧ @Lm.VR (Lm.worldLo w hl.pos) (Lm.renOf w) (.agg (bkW w A ca P B cb K C cc S g f u e).cells.toArray) (.agg #[.slice A P.length ca, .slice B K.length cb, vi g, vi f, vi u, vi e, .slice C S.length cc]) := by
  have p := z3y (w := w) (A := A) (cap := ca) (rows := P.map Pc.row) (sz := 4) (by omega) (fun r hr => by obtain ⟨n, _, rfl⟩ := List.mem_map.1 hr; rfl) hP.len (half_big hP.few) hP.lies (fun r hr u hu => by
    obtain ⟨n, _, rfl⟩ := List.mem_map.1 hr
    simp only [Pc.row, List.mem_cons, List.not_mem_nil, or_false] at hu
    rcases hu with rfl | rfl | rfl | rfl <;> rfl)
  have k := z3y (w := w) (A := B) (cap := cb) (rows := K.map KdW.code) (sz := 4) (by omega) (fun r hr => by obtain ⟨n, _, rfl⟩ := List.mem_map.1 hr; rfl) hK.len (half_big hK.few) hK.lies (fun r hr u hu => by
    obtain ⟨n, hn, rfl⟩ := List.mem_map.1 hr
    simp only [KdW.code, List.mem_cons, List.not_mem_nil, or_false] at hu
    rcases hu with rfl | rfl | rfl | rfl
    · rfl
    · rfl
    · exact (z8g (hZ n hn)).1
    · rfl)
  have s := z8g hS
  rw [List.length_map] at p k
  have ep : (P.map Pc.row).map (fun r => r.map (enc1 w)) = P.map Pc.row := by rw [List.map_map]; rfl
  have ek : (K.map KdW.code).map (fun r => r.map (enc1 w)) = (K.map (kdW w)).map Kd.row := by rw [List.map_map, List.map_map]; rfl
  rw [ep] at p
  rw [ek] at k
  refine ⟨⟨?_, lim_row hl, p.2, k.2, fun x hx => ?_, s.2, ?_, ?_, fun x hx => ?_, ?_⟩, ?_⟩
  · have := Lm.nn_le w; unfold nnOf at this; omega
  · obtain ⟨y, hy, rfl⟩ := List.mem_map.1 hx
    exact (z8g (hZ y hy)).2
  · have := hP.len; have := hP.few; rw [List.length_map] at *; show P.length ≤ _; omega
  · have := hK.len; have := hK.few; rw [List.length_map] at *; show (K.map (kdW w)).length ≤ _; rw [List.length_map]; omega
  · obtain ⟨y, hy, rfl⟩ := List.mem_map.1 hx
    have h1 := (hZ y hy).len; have h2 := (hZ y hy).few; rw [List.length_map] at h1; show y.zs.length ≤ _; omega
  · have := hS.len; have := hS.few; rw [List.length_map] at *; show S.length ≤ _; omega
  · letI := Lm.worldLo w hl.pos
    have vr : ∀ {v : Value}, (encV w v).isSome = true → Lm.VR (Lm.renOf w) (enc1 w v) v := fun {v} h => by
      obtain ⟨x, hx⟩ := Option.isSome_iff_exists.1 h
      have e1 : enc1 w v = x := by unfold enc1; rw [hx]; rfl
      rw [e1]
      exact Lm.enc_vr hl.pos hx
    have one : ∀ {v : Value}, (encV w v).isSome = true → (enc1 w v).oneCell' = true := fun {v} h => by
      obtain ⟨x, hx⟩ := Option.isSome_iff_exists.1 h
      have e1 : enc1 w v = x := by unfold enc1; rw [hx]; rfl
      rw [e1]
      exact Lm.enc_one hx
    refine Lm.VR.agg rfl (fun i x x' a b => ?_) (fun i x a => ?_)
    · have hi : i < 7 := (Array.getElem?_eq_some_iff.1 b).1
      match i, hi with
      | 0, _ => cases a; cases b; exact vr p.1
      | 1, _ => cases a; cases b; exact vr k.1
      | 2, _ => cases a; cases b; exact .int _ _
      | 3, _ => cases a; cases b; exact .int _ _
      | 4, _ => cases a; cases b; exact .int _ _
      | 5, _ => cases a; cases b; exact .int _ _
      | 6, _ => cases a; cases b; exact vr s.1
    · have hi : i < 7 := (Array.getElem?_eq_some_iff.1 a).1
      match i, hi with
      | 0, _ => cases a; exact one p.1
      | 1, _ => cases a; exact one k.1
      | 2, _ => cases a; rfl
      | 3, _ => cases a; rfl
      | 4, _ => cases a; rfl
      | 5, _ => cases a; rfl
      | 6, _ => cases a; exact one s.1
open Go Go.Proofs Go.Lm
set_option maxHeartbeats 16000000
theorem filter_one {f : Nat → Bool} {i : Nat} (hf : ∀ k, f k = decide (k = i)) : ∀ n, (List.range n).filter f = if i < n then [i] else [] := by
  intro n
  induction n with
  | zero => simp
  | succ n ih =>
    rw [List.range_succ, List.filter_append, ih]
    have h0 := hf n
    by_cases h1 : i < n
    · rw [if_pos h1, if_pos (by omega)]
      rw [decide_eq_false (show ¬ n = i by omega)] at h0
      simp [h0]
    · by_cases h2 : n = i
      · rw [decide_eq_true h2] at h0
        rw [if_neg h1, if_pos (by omega)]
        subst h2
        simp [h0]
      · rw [decide_eq_false h2] at h0
        rw [if_neg h1, if_neg (by omega)]
        simp [h0]
theorem of_one {i n : Nat} (h : i < n) : ofQ (2 ^ i) n = [i] := by
  unfold ofQ
  rw [filter_one (i := i) (fun k => by rw [Nat.testBit_two_pow]; exact decide_eq_decide.2 eq_comm) n, if_pos h]
theorem nsF_one {i n : Nat} (h : i < n) : nsF (oneF i) n = [i] := by
  unfold nsF
  rw [filter_one (i := i) (fun k => by unfold oneF; simp) n, if_pos h]
theorem too_is {b : Bk} {i : Nat} (h : i < b.P.length) : tooQ b i = !(b.K.any fun k => z20 b k [i]) := by
  have : ∀ k, z8k b.P (oneF i) k = z20 b k [i] := fun k => by
    have e := nsF_one h
    rw [fits_is b (oneF i) k (by rw [e]; simp), e]
  unfold tooQ
  exact congrArg (fun f => !b.K.any f) (funext this)
theorem big_mem {b : Bk} {i : Nat} (h : i < b.P.length) : i ∈ bigQ b ↔ (b.K.any fun k => z20 b k [i]) = false := by
  unfold bigQ bigUp
  rw [List.mem_filter, List.mem_range, too_is h]
  cases b.K.any fun k => z20 b k [i] <;> simp [h]
theorem home_is {b : Bk} {i : Nat} (h : i < b.P.length) : decide (placeQ (nsI (bigQ b)) i < 0) = b.K.any fun k => z20 b k [i] := by
  cases hh : b.K.any fun k => z20 b k [i]
  · refine decide_eq_false fun q => ?_
    exact (place_neg _ _).1 q ((big_mem h).2 hh)
  · refine decide_eq_true ((place_neg _ _).2 fun q => ?_)
    rw [(big_mem h).1 q] at hh; cases hh
theorem lst1 {h : Hp} {nx r i : Nat} (hr : r < nx) (hrow : rowL h r = some [vi i]) : Lst h nx 1 (.slice (some ⟨r, 0, none⟩) 1 1) (ints (nsI [i])) := lst_row (l := [vi i]) hr hrow
section
variable {S : Kn} (hS : S.Only [22]) {m : Nat} {b : Bk} {h : Hp} {nx : Nat} (hb : b.At h nx) (hv : b.valid = true) {kind : Nat} (hk : kind < b.K.length) {i : Nat} (hi : i < b.P.length) {r : Nat} (hr : r < nx) (hrow : rowL h r = some [vi i])
include hS hb hv hk hi hr hrow
theorem c13i (hm : 15 ≤ m) : z07 13 [.agg b.cells.toArray, .agg #[vi kind, .slice (some ⟨r, 0, none⟩) 1 1]] (z08 Tryz.prog vmL S m) h nx = .gen (.tuple #[.bool (z20 b b.K[kind] [i]), vi 0]) h nx [] := by
  have := c13t hS hm hb hv hk (s := 2 ^ i) (by rw [of_one hi]; simp) (v := .slice (some ⟨r, 0, none⟩) 1 1) (by rw [of_one hi]; exact lst1 hr hrow)
  rwa [of_one hi] at this
theorem c17i (hm : 15 ≤ m) {zone : Nat} (hz : zone < 5) {t : Bool} (ht : z20 b b.K[kind] [i] = t) : z07 17 [.agg b.cells.toArray, .agg #[vi kind, .slice (some ⟨r, 0, none⟩) 1 1], vi zone] (z08 Tryz.prog vmL S m) h nx = .gen (.tuple #[vi (bif t then z6o b b.K[kind] [i] zone else 0), vi (bif t then 0 else 4)]) h nx [] := by
  have := c17t hS hm hb hv hk (s := 2 ^ i) (by rw [of_one hi]; simp) (v := .slice (some ⟨r, 0, none⟩) 1 1) (by rw [of_one hi]; exact lst1 hr hrow) hz (t := t) (by rw [of_one hi]; exact ht)
  rwa [of_one hi] at this
theorem c42i (hm : 1 ≤ m) : z07 42 [.agg b.cells.toArray, vi kind, .slice (some ⟨r, 0, none⟩) 1 1] (z08 Tryz.prog vmL S m) h nx = .gen (.bool (z20 b b.K[kind] [i])) h nx [] :=
  c42 hS hm (Bk.fine hv) hb hk (ns := [i]) (by simpa using hi) (by simp) (lst1 hr hrow)
theorem c44i (hm : 1 ≤ m) {zone : Nat} (hz : zone < 5) : z07 44 [.agg b.cells.toArray, vi kind, .slice (some ⟨r, 0, none⟩) 1 1, vi zone] (z08 Tryz.prog vmL S m) h nx = .gen (vi (z6o b b.K[kind] [i] zone)) h nx [] :=
  c44 hS hm (Bk.fine hv) hb hk (ns := [i]) (by simpa using hi) (by simp) (by simp) (lst1 hr hrow) hz
end
theorem any_take {α : Type} (l : List α) (p : α → Bool) {k : Nat} (hk : k < l.length) : (l.take (k + 1)).any p = ((l.take k).any p || p l[k]) := by
  rw [List.take_add_one, List.getElem?_eq_getElem hk, Option.toList_some, List.any_append]
  simp
theorem loop8 {S : Kn} (hS : S.Only [22]) {m : Nat} (hm : 16 ≤ m) {b : Bk} {z : Z} {vs : Vs} {h : Hp} {nx p2 i : Nat} (hv : b.valid = true) (hb : b.At h nx) (hi : i < b.P.length) (hr2 : rowL h p2 = some b.cells) (hp2 : p2 < nx) (hz : z.n0 ≤ nx)
    (g2 : vs 2 = some (pt p2)) (g7 : vs 7 = some (vi (i : Int))) (g10 : vs 10 = some (.bool false)) (g11 : vs 11 = some (vi 0)) {r : R} (hr : z0w (sC Tryz.prog 143 143 (z08 Tryz.prog vmL S m) l8_0) z vs h nx = r) :
    ∃ vs' h' nx', r = .exi 0 z vs' h' nx' ∧ nx ≤ nx' ∧ Same nx h h' ∧ vs' 2 = vs 2 ∧ vs' 5 = vs 5 ∧ vs' 6 = vs 6 ∧ vs' 7 = vs 7 ∧ vs' 8 = vs 8 ∧ vs' 9 = vs 9 ∧ vs' 10 = some (.bool (b.K.any fun k => z20 b k [i])) := by
  subst hr
  refine z0o (Post := fun r => ∃ vs' h' nx', r = .exi 0 z vs' h' nx' ∧ nx ≤ nx' ∧ Same nx h h' ∧ vs' 2 = vs 2 ∧ vs' 5 = vs 5 ∧ vs' 6 = vs 6 ∧ vs' 7 = vs 7 ∧ vs' 8 = vs 8 ∧ vs' 9 = vs 9 ∧ vs' 10 = some (.bool (b.K.any fun k => z20 b k [i])))
    (fun k z' vs' h' nx' => k ≤ b.K.length ∧ z' = z ∧ nx ≤ nx' ∧ Same nx h h' ∧ vs' 2 = vs 2 ∧ vs' 5 = vs 5 ∧ vs' 6 = vs 6 ∧ vs' 7 = vs 7 ∧ vs' 8 = vs 8 ∧ vs' 9 = vs 9 ∧ vs' 10 = some (.bool ((b.K.take k).any fun k => z20 b k [i])) ∧ vs' 11 = some (vi (k : Int))) b.K.length (by have := (Bk.fine hv).k4; omega)
    ⟨Nat.zero_le _, rfl, Nat.le_refl _, Same.refl _ _, rfl, rfl, rfl, rfl, rfl, rfl, by rw [g10]; simp, g11⟩ ?_
  rintro k z' vs' h' nx' ⟨hk, rfl, hn, hs, e2, e5, e6, e7, e8, e9, e10, e11⟩
  have hF := Bk.fine hv
  have hk4 := hF.k4
  have f2 := e2.trans g2
  have f7 := e7.trans g7
  have hrow : rowL h' p2 = some b.cells := by rw [z0n hs hp2]; exact hr2
  have hbn := hb.same hs (nx' := nx') hn
  obtain ⟨ka, kc, hkv, _⟩ := hbn.k.form
  rw [List.length_map] at hkv
  have hpk : z0c false 1 b.cells 1 = some b.kv := rfl
  rw [hkv] at hpk
  by_cases hlt : k < b.K.length
  · left
    have h1 : ((k : Int) < (b.K.length : Int)) := by omega
    obtain ⟨H, eH⟩ : ∃ x, x = hset h' nx' (.cells [vi i] none) := ⟨_, rfl⟩
    have hsH : Same nx h H := by rw [eH]; exact hs.set hn _
    obtain ⟨H2, eH2⟩ : ∃ x, x = hset H (nx' + 1) (.cells [vi i] none) := ⟨_, rfl⟩
    have hsH2 : Same nx h H2 := by rw [eH2]; exact hsH.set (by omega) _
    have hb' := hb.same hsH (nx' := nx' + 1) (by omega)
    have hb2 := hb.same hsH2 (nx' := nx' + 1 + 1) (by omega)
    have hrowH : rowL H p2 = some b.cells := by rw [z0n hsH hp2]; exact hr2
    have hrowH2 : rowL H2 p2 = some b.cells := by rw [z0n hsH2 hp2]; exact hr2
    have r1 : rowL H nx' = some [vi i] := by rw [eH]; exact z03 _ _
    have r2 : rowL H2 (nx' + 1) = some [vi i] := by rw [eH2]; exact z03 _ _
    have k41 := c41 hS (m := m) (h := H) (nx := nx' + 1) (by omega) (k : Int) (a := some ⟨nx', 0, none⟩) (n := 1) (c := 1) (by show nx' < nx' + 1; omega)
    have k13 := c13i hS (m := m) hb' hv hlt hi (r := nx') (by omega) r1 (by omega)
    have k42 := c42i hS (m := m) hb2 hv hlt hi (r := nx' + 1) (by omega) r2 (by omega)
    have hp7 : z0c true 7 b.cells 0 = some (.agg b.cells.toArray) := rfl
    have hany := any_take b.K (fun x => z20 b x [i]) hlt
    obtain ⟨t, et⟩ : ∃ t, z20 b b.K[k] [i] = t := ⟨_, rfl⟩
    obtain ⟨a, ea⟩ : ∃ a, ((b.K.take k).any fun x => z20 b x [i]) = a := ⟨_, rfl⟩
    rw [et] at k13 k42 hany
    rw [ea] at e10 hany
    have nn : (t != t) = false := by cases t <;> rfl
    cases a <;> refine ⟨hlt, z', _, _, _, (by simp (maxSteps := 10000000) (implicitDefEqProofs := false) (disch := omega) only [l8_0, f2, f7, e10, e11, h1, hrow, ← eH, hrowH, ← eH2, hrowH2, hpk, hp7, k41, k13, k42, b_neq, nn, g_un, gq_un, show ((0 : Int) != 0) = false from rfl, bz, z02, Nat.reduceEqDiff, Nat.reduceLT, Nat.reduceAdd, Nat.reduceMul, Int.reduceToNat]; exact rfl), by omega, rfl, ?_, ?_, ?_, ?_, ?_, ?_, ?_, ?_, ?_, ?_⟩
    all_goals rotate_left 1
    all_goals first
      | exact hsH2
      | omega
      | (simp only [z01, z00, Nat.reduceEqDiff, decide_true, decide_false, cond_true, cond_false, e2, e5, e6, e7, e8, e9]; done)
      | (rw [hany]; simp only [z01, z00, Nat.reduceEqDiff, decide_true, decide_false, cond_true, cond_false, Bool.true_or, Bool.false_or]; done)
      | (simp only [z01, z00, Nat.reduceEqDiff, decide_true, decide_false, cond_true, cond_false]; rfl)
  · right
    have h1 : ¬ ((k : Int) < (b.K.length : Int)) := by omega
    have hke : k = b.K.length := by omega
    have e : ∃ vs2, sC Tryz.prog 143 143 (z08 Tryz.prog vmL S m) l8_0 z' vs' h' nx' = .exi 0 z' vs2 h' nx' ∧ vs2 2 = vs' 2 ∧ vs2 5 = vs' 5 ∧ vs2 6 = vs' 6 ∧ vs2 7 = vs' 7 ∧ vs2 8 = vs' 8 ∧ vs2 9 = vs' 9 ∧ vs2 10 = vs' 10 := by
      refine ⟨_, by simp (maxSteps := 10000000) (implicitDefEqProofs := false) (disch := omega) only [l8_0, f2, e11, h1, hrow, hpk, bz, z02, Nat.reduceEqDiff, Nat.reduceLT, Nat.reduceAdd, Nat.reduceMul, Int.reduceToNat]; exact rfl, ?_, ?_, ?_, ?_, ?_, ?_, ?_⟩ <;> simp only [z01, Nat.reduceEqDiff, decide_true, decide_false, cond_true, cond_false]
    obtain ⟨vs2, e, q2, q5, q6, q7, q8, q9, q10⟩ := e
    rw [e]
    rw [hke, List.take_length] at e10
    exact ⟨trivial, vs2, h', nx', rfl, hn, hs, q2.trans e2, q5.trans e5, q6.trans e6, q7.trans e7, q8.trans e8, q9.trans e9, q10.trans e10⟩
open Go Go.Proofs Go.Lm
set_option maxRecDepth 10000
set_option maxHeartbeats 16000000
theorem c8 {S : Kn} (hS : S.Only [22]) (hK : Stamped S) {m : Nat} (hm : 17 ≤ m) {b : Bk} {h : Hp} {nx : Nat} (hb : b.At h nx) (n0 n1 n2 : Int) : z07 8 [.agg b.cells.toArray, .agg #[vi n0, vi n1, vi n2]] (z08 Tryz.prog vmL S m) h nx = .gen (.bool true) h nx [] := by
  refine fun8.ground (hS _ _ _ _ (by decide)) (by omega) rfl (by simp) ?_
  obtain ⟨H1, eH1⟩ : ∃ x, x = hset (hset h nx (.cells b.cells none)) (nx + 1) (.cells [vi n0, vi n1, vi n2] none) := ⟨_, rfl⟩
  have hsm1 : Same nx h H1 := by rw [eH1]; exact ((Same.refl nx h).set (Nat.le_refl _) _).set (by omega) _
  have hb1 := hb.same hsm1 (nx' := nx + 1 + 1) (by omega)
  have hr0 : rowL H1 nx = some b.cells := by rw [eH1, z0j _ (by omega)]; exact z03 _ _
  have hr1 : rowL H1 (nx + 1) = some [vi n0, vi n1, vi n2] := by rw [eH1]; exact z03 _ _
  have hp7 : z0c true 7 b.cells 0 = some (.agg b.cells.toArray) := rfl
  obtain ⟨u, H2, nx2, k19, w⟩ := c19 hS (m := m - 1) (by omega) hb1
  have s2 := w.keep.2
  have n2' := w.keep.1
  have hb2 := hb1.same s2 (nx' := nx2) (by omega)
  have r20 : rowL H2 nx = some b.cells := by rw [z0n s2 (by omega)]; exact hr0
  have r21 : rowL H2 (nx + 1) = some [vi n0, vi n1, vi n2] := by rw [z0n s2 (by omega)]; exact hr1
  have k35 := c35 hS (m := m - 1) (by omega) hb2
  have k22 := fun (h : Hp) (nx : Nat) (h1 : 1 ≤ nx) (hl : rowL h 0 = some limL) => c22 hK (m := m - 1) (h := h) (nx := nx) h1 hl
  have x0 : z0c false 1 b.cells 0 = some b.pv := rfl
  have x1 : z0c false 1 b.cells 1 = some b.kv := rfl
  have hpos := hb.pos
  rcases Bool.eq_false_or_eq_true b.valid with hv | hv
  · have hF := Bk.fine hv
    rw [hv, z4b] at k19
    rw [hv] at k35 w
    simp only [if_true] at w
    obtain ⟨pa, pc, hpv, _⟩ := hb.p.form
    rw [List.length_map] at hpv
    obtain ⟨ka, kc, hkv, _⟩ := hb.k.form
    rw [List.length_map] at hkv
    rw [hpv] at x0
    rw [hkv] at x1
    have hp1 := hF.p1
    have hp7' := hF.p7
    have hk1 := hF.k1
    have hk4 := hF.k4
    obtain ⟨i, ei, hi⟩ := emod_nat n0 b.P.length (by omega)
    obtain ⟨kind, ek, hkl⟩ := emod_nat n1 b.K.length (by omega)
    obtain ⟨zone, ez, hzl⟩ := emod_nat n2 5 (by omega)
    have k34a := fun h nx => c34 hS (m := m - 1) (h := h) (nx := nx) (by omega) n0 b.P.length (by omega) (by omega)
    have k34b := fun h nx => c34 hS (m := m - 1) (h := h) (nx := nx) (by omega) n1 b.K.length (by omega) (by omega)
    have k34c := fun h nx => c34 hS (m := m - 1) (h := h) (nx := nx) (by omega) n2 5 (by omega) (by omega)
    have ez' : n2 % 5 = (zone : Int) := ez
    rw [ei] at k34a
    rw [ek] at k34b
    rw [ez'] at k34c
    have gu := new_lst w
    have hbl := bigUp_len b b.P.length
    simp (maxSteps := 10000000) (implicitDefEqProofs := false) (disch := omega) only [s8, z1x, ← eH1, hr0, hr1, r20, r21, hp7, k19, k35, x0, x1, k34a, k34b, k34c, bz, z02, Nat.reduceEqDiff, Nat.reduceLT, Nat.reduceAdd, Nat.reduceMul, Int.reduceToNat]
    generalize hr : z0w _ _ _ _ _ = r
    obtain ⟨vs3, H3, nx3, rfl, hn3, hs3, q2, q5, q6, q7, q8, q9, q10⟩ := loop8 hS (m := m - 1) (by omega) hv hb2 hi r20 (by omega) (by show nx ≤ nx2; omega) rfl rfl rfl rfl hr
    have f2 : vs3 2 = some (pt nx) := q2.trans rfl
    have f5 : vs3 5 = some u := q5.trans rfl
    have f6 : vs3 6 = some (vi 0) := q6.trans rfl
    have f7 : vs3 7 = some (vi (i : Int)) := q7.trans rfl
    have f8 : vs3 8 = some (vi (kind : Int)) := q8.trans rfl
    have f9 : vs3 9 = some (vi (zone : Int)) := q9.trans rfl
    obtain ⟨H4, eH4⟩ : ∃ x, x = hset H3 nx3 (.cells [vi i] none) := ⟨_, rfl⟩
    have s4 : Same nx2 H2 H4 := by rw [eH4]; exact hs3.set hn3 _
    obtain ⟨H5, eH5⟩ : ∃ x, x = hset H4 (nx3 + 1) (.cells [vi i] none) := ⟨_, rfl⟩
    have s5 : Same nx2 H2 H5 := by rw [eH5]; exact s4.set (by omega) _
    obtain ⟨H6, eH6⟩ : ∃ x, x = hset H5 (nx3 + 1 + 1) (.cells [vi i] none) := ⟨_, rfl⟩
    have s6 : Same nx2 H2 H6 := by rw [eH6]; exact s5.set (by omega) _
    have hb4 := hb2.same s4 (nx' := nx3 + 1) (by omega)
    have hb5 := hb2.same s5 (nx' := nx3 + 1 + 1) (by omega)
    have hb6 := hb2.same s6 (nx' := nx3 + 1 + 1 + 1) (by omega)
    have r3 : rowL H3 nx = some b.cells := by rw [z0n hs3 (by omega)]; exact r20
    have r4 : rowL H4 nx = some b.cells := by rw [z0n s4 (by omega)]; exact r20
    have r5 : rowL H5 nx = some b.cells := by rw [z0n s5 (by omega)]; exact r20
    have r6 : rowL H6 nx = some b.cells := by rw [z0n s6 (by omega)]; exact r20
    have t4 : rowL H4 nx3 = some [vi i] := by rw [eH4]; exact z03 _ _
    have t5 : rowL H5 (nx3 + 1) = some [vi i] := by rw [eH5]; exact z03 _ _
    have t6 : rowL H6 (nx3 + 1 + 1) = some [vi i] := by rw [eH6]; exact z03 _ _
    have gu5 := gu.same s5 (nx' := nx3 + 1 + 1) (by omega)
    have k41 := c41 hS (m := m - 1) (h := H4) (nx := nx3 + 1) (by omega) (kind : Int) (a := some ⟨nx3, 0, none⟩) (n := 1) (c := 1) (by show nx3 < nx3 + 1; omega)
    obtain ⟨t, et⟩ : ∃ t, z20 b b.K[kind] [i] = t := ⟨_, rfl⟩
    have k17 := c17i hS (m := m - 1) hb4 hv hkl hi (r := nx3) (by omega) t4 (by omega) hzl et
    have k42 := c42i hS (m := m - 1) hb5 hv hkl hi (r := nx3 + 1) (by omega) t5 (by omega)
    have k44 := c44i hS (m := m - 1) hb6 hv hkl hi (r := nx3 + 1 + 1) (by omega) t6 (by omega) hzl
    have k43 := c43 hS (m := m - 1) (h := H5) (nx := nx3 + 1 + 1) (by omega) (i : Int) (by rw [nsI_len]; unfold bigQ; omega) gu5
    have k225 := k22 H5 (nx3 + 1 + 1) (by omega) hb5.lim
    have k226 := k22 H6 (nx3 + 1 + 1 + 1) (by omega) hb6.lim
    have hh := home_is hi
    rw [et] at k42
    generalize z6o b b.K[kind] [i] zone = cc at *
    generalize (b.K.any fun k => z20 b k [i]) = any at *
    have hself : (any == any) = true := by cases any <;> rfl
    cases t with
    | true =>
      simp only [cond_true] at k17
      simp (maxSteps := 10000000) (implicitDefEqProofs := false) (disch := omega) only [f2, f5, f6, f7, f8, f9, q10, r3, ← eH4, r4, ← eH5, r5, ← eH6, r6, hp7, k41, k17, k42, k43, k44, hb_43, k225, k226, hh, hself, b_eql, beq_self_eq_true, g_un, gq_un, bz, z02, Nat.reduceEqDiff, Nat.reduceLT, Nat.reduceAdd, Nat.reduceMul, Int.reduceToNat]
      exact ⟨_, _, rfl⟩
    | false =>
      simp only [cond_false] at k17
      simp (maxSteps := 10000000) (implicitDefEqProofs := false) (disch := omega) only [f2, f5, f6, f7, f8, f9, q10, r3, ← eH4, r4, ← eH5, r5, ← eH6, r6, hp7, k41, k17, k42, k43, hb_43, k225, k226, hh, hself, b_eql, beq_self_eq_true, g_un, gq_un, bz, z02, Nat.reduceEqDiff, Nat.reduceLT, Nat.reduceAdd, Nat.reduceMul, Int.reduceToNat]
      exact ⟨_, _, rfl⟩
  · rw [hv, z5d] at k19
    rw [hv] at k35 w
    have hu : u = .slice none 0 0 ∧ H2 = H1 ∧ nx2 = nx + 1 + 1 := by
      rcases w.is with ⟨_, q1, q2, q3⟩ | ⟨n, c, bb, _, _, _, q4, q5⟩
      · exact ⟨q1, q2, q3⟩
      · simp [nsV] at q4; omega
    obtain ⟨rfl, rfl, rfl⟩ := hu
    have k22' := k22 H2 (nx + 1 + 1) (by omega) hb1.lim
    simp (maxSteps := 10000000) (implicitDefEqProofs := false) (disch := omega) only [s8, ← eH1, hr0, hr1, hp7, k19, k35, k22', show (((0 : Nat) : Int) == 0) = true from rfl, beq_self_eq_true, g_un, gq_un, bz, z02, Nat.reduceEqDiff, Nat.reduceLT, Nat.reduceAdd, Nat.reduceMul, Int.reduceToNat]
    exact ⟨_, _, rfl⟩
end Go.Proofs.YtcmkngajdckndaaGreatDoor
