/- The chapter's own examples come out as the document says, run by the kernel; What the functions of package parcel answer, for any book, and why the law's comparison holds; how a book of a world reads. Conditions: none. -/
import Derived.Test.YtcmkngajdckndaaGreatDoorZ11
import Derived.Test.YtcmkngajdckndaaGreatDoorZ12
import Derived.Test.YtcmkngajdckndaaGreatDoorZ13
import Derived.Test.YtcmkngajdckndaaGreatDoorZ14
import Derived.Test.YtcmkngajdckndaaGreatDoorZ15
import Derived.Test.YtcmkngajdckndaaGreatDoorZ08
set_option linter.unusedVariables false
set_option linter.unusedSimpArgs false
namespace Go.Proofs.YtcmkngajdckndaaGreatDoor.vk
open Go Go.Proofs Go.Vm
section
variable {F : Fence} {w : World} {Q : Exit → Act → World → Prop}
theorem zw9 (hF : Wd F.plain) (hB : Base.Ok ⟨R00, vmH, NG, w⟩) (hb : Bare ⟨R00, vmH, NG, w⟩ NG) (h : ∀ x v, AtH ⟨R00, vmH, NG, w⟩ F.plain 15 141 l1 r1 n1 x v → c7.wpIn F.plain 0 Tryz.prog Q x v) : ∀ x v, AtH ⟨R00, vmH, NG, w⟩ F.plain 15 141 l0 r0 n0 x v → c0.wpIn F.plain 0 Tryz.prog Q x v :=
  segH hB hb hF (z4c mixed) (z84 (z4c mixed) bare z4v (z4u) 200) (by kernel_rfl) run0 h
theorem z09 (hF : Wd F.plain) (hB : Base.Ok ⟨R00, vmH, NG, w⟩) (hb : Bare ⟨R00, vmH, NG, w⟩ NG) (h : ∀ x v, AtH ⟨R00, vmH, NG, w⟩ F.plain 15 141 l2 r2 n2 x v → c9.wpIn F.plain 0 Tryz.prog Q x v) : ∀ x v, AtH ⟨R00, vmH, NG, w⟩ F.plain 15 141 l1 r1 n1 x v → c7.wpIn F.plain 0 Tryz.prog Q x v :=
  segH hB hb hF (z4c mixed) (z84 (z4c mixed) bare z4v (z4u) 200) (by kernel_rfl) run1 h
theorem zw8 (hF : Wd F.plain) (hB : Base.Ok ⟨R00, vmH, NG, w⟩) (hb : Bare ⟨R00, vmH, NG, w⟩ NG) (h : ∀ x v, AtH ⟨R00, vmH, NG, w⟩ F.plain 15 141 l3 r3 n3 x v → c10.wpIn F.plain 0 Tryz.prog Q x v) : ∀ x v, AtH ⟨R00, vmH, NG, w⟩ F.plain 15 141 l2 r2 n2 x v → c9.wpIn F.plain 0 Tryz.prog Q x v :=
  segH hB hb hF (z4c mixed) (z84 (z4c mixed) bare z4v (zcb ok1 (zcb ok0 (z4u))) 200) (by kernel_rfl) run2 h
end
theorem knownF : zhk Tryz.prog 22 vmH :=
  zgz (by decide) (nv := 15) (by decide) Tryz.func22 hbF (by kernel_rfl) bare fun F w hF hB hb a hat => (zw9 hF hB hb (z09 hF hB hb (zw8 hF hB hb (endH (fn := Tryz.f22) hB hb hF (z4c mixed) (z84 (z4c mixed) bare z4v (z4u) 200) run3)))) a w hat
end Go.Proofs.YtcmkngajdckndaaGreatDoor.vk
namespace Go.Proofs.YtcmkngajdckndaaGreatDoor
open Go Go.Proofs Go.RowKit Go.Deep Go.ChangeShapes Go.WideShapes
open Go.Lm (vi hpW z3o encV enc1 Lst z40 HALF rowL z3p zbd nnOf z9q)
set_option maxHeartbeats 1000000
set_option maxRecDepth 10000
open Classical in
noncomputable def stK : Lm.Kn := fun f args h _ => if f = 22 ∧ args = [] ∧ rowL h 0 = some limL then some (.bool true) else none
theorem znw : stK.Only [22] := by
  intro f a h nx hf
  unfold stK
  rw [if_neg]
  intro q
  exact hf (by rw [q.1]; exact List.mem_cons_self)
theorem ztn : zhi stK := by
  intro h nx _ hl
  unfold stK
  rw [if_pos ⟨rfl, rfl, hl⟩]
theorem z6q {i : Nat} {x : Value} (hx : limL[i]? = some x) : ∃ n, x = vi n := by
  have hm := List.mem_of_getElem? hx
  unfold limL at hm
  simp only [List.mem_cons, List.not_mem_nil, or_false] at hm
  rcases hm with rfl | rfl | rfl | rfl | rfl | rfl | rfl | rfl | rfl | rfl | rfl | rfl | rfl | rfl | rfl | rfl | rfl | rfl | rfl | rfl | rfl | rfl <;> exact ⟨_, rfl⟩
theorem ziv {w : World} {cs : Array Value} {e fz} (hw : w.heap[0]? = some (.cells cs e fz)) (hc : ∀ (i : Nat) (x : Value), limL[i]? = some x → cs[i]? = some x) : Vm.Laid vk.vmH w := by
  intro r x hr hx hn
  have hng : Vm.NG = 1 := rfl
  have : r = 0 := by omega
  subst this
  unfold vk.vmH at hx
  rw [Vm.hget_hset (by omega) (by omega)] at hx
  simp only [if_true] at hx
  cases hx
  refine ⟨_, hw, cs, e, fz, rfl, ?_, fun i x hx => ?_⟩
  · have := (Array.getElem?_eq_some_iff.1 (hc 21 (vi 20000) rfl)).1
    simp; omega
  · have hx' : limL[i]? = some x := hx
    obtain ⟨n, rfl⟩ := z6q hx'
    exact ⟨rfl, _, hc i _ hx', .int _ _⟩
theorem hb22 : Lm.hasBody Tryz.prog 22 = true := by kernel_rfl
theorem zto (lo : Lm.Lo) : @Lm.Kn.Ok lo Tryz.prog stK := by
  letI := lo
  intro f args h nx v hf
  unfold stK at hf
  split at hf
  · rename_i q
    obtain ⟨rfl, rfl, hl⟩ := q
    cases hf
    refine ⟨hb22, fun R w F args' hh hd hgl hF hv => ?_⟩
    have ha : args' = #[] := by
      have := hv.of_nil
      rw [← Array.toArray_toList (xs := args'), this]
    subst ha
    have h0 := hgl 0 (by decide)
    have hs : Vm.NG ≤ w.heap.size := by have := hh.bnd 0 0 h0; have : Vm.NG = 1 := rfl; omega
    obtain ⟨cs, e, fz, h1, h2⟩ := Lm.rowL_at (hh.at 0) h0 hl
    refine (vk.knownF.2 F w hF hs (ziv h1 fun i x hx => ?_)).mono fun e w' q => ⟨.bool true, q.1, .bool true, q.2⟩
    obtain ⟨x', a, b⟩ := h2.2.2 i x (Nat.le_trans (Lm.Lo.gz (by decide)) (Nat.zero_le _)) hx
    obtain ⟨n, rfl⟩ := z6q hx
    cases b
    exact a
  · cases hf
theorem zsl {w : World} (h : Lim w) : ∃ cs e fz, w.heap[0]? = some (.cells cs e fz) ∧ cs.size = 22 ∧ ∀ (i : Nat) (x : Value), limL[i]? = some x → cs[i]? = some x := by
  obtain ⟨cs, e, fz, hw⟩ := zp1 (h.l0 0 (by omega)).1
  have cell : ∀ (i : Nat) (v : Value), w.cell? ⟨0, i, none⟩ = some v → cs[i]? = some v := fun i v q => by simpa [World.cell?, hw] using q
  have hget : ∀ (i : Nat) (x : Value), limL[i]? = some x → cs[i]? = some x := by
    intro i x hx
    have hi : i < 22 := (List.getElem?_eq_some_iff.1 hx).1
    have hk : i / 2 < 11 := by omega
    have hp := h.l0 (i / 2) hk
    rcases Nat.mod_two_eq_zero_or_one i with q | q
    · have e1 : i / 2 * 2 = i := by omega
      rw [e1] at hp
      refine cell i x (hp.1.trans ?_)
      have : i = 0 ∨ i = 2 ∨ i = 4 ∨ i = 6 ∨ i = 8 ∨ i = 10 ∨ i = 12 ∨ i = 14 ∨ i = 16 ∨ i = 18 ∨ i = 20 := by omega
      rcases this with rfl | rfl | rfl | rfl | rfl | rfl | rfl | rfl | rfl | rfl | rfl <;> cases hx <;> rfl
    · have e1 : i / 2 * 2 + 1 = i := by omega
      rw [e1] at hp
      refine cell i x (hp.2.trans ?_)
      have : i = 1 ∨ i = 3 ∨ i = 5 ∨ i = 7 ∨ i = 9 ∨ i = 11 ∨ i = 13 ∨ i = 15 ∨ i = 17 ∨ i = 19 ∨ i = 21 := by omega
      rcases this with rfl | rfl | rfl | rfl | rfl | rfl | rfl | rfl | rfl | rfl | rfl <;> cases hx <;> rfl
  have h21 := (Array.getElem?_eq_some_iff.1 (hget 21 (vi 20000) rfl)).1
  have h22 : cs[22]? = none := by
    have := h.stop
    simpa [World.cell?, hw] using this
  have := Array.getElem?_eq_none_iff.1 h22
  exact ⟨cs, e, fz, hw, by omega, hget⟩
theorem zsk {w : World} (h : Lim w) : rowL (hpW w) 0 = some limL := by
  obtain ⟨cs, e, fz, hw, hsz, hget⟩ := zsl h
  have hpos := h.pos
  have hn : (0 : Nat) % nnOf w = 0 := Nat.zero_mod _
  have hd : (0 : Nat) / nnOf w = 0 := Nat.zero_div _
  have ha : 0 < z3o w := Nat.lt_of_lt_of_le (by unfold nnOf; omega) (Lm.nn_le w)
  have hr : Lm.rowW w 0 = .ro (z3p w 0 cs) := by
    unfold Lm.rowW
    rw [if_pos ⟨ha, by rw [hn]; omega⟩, hn, hw, hd]
  have hc : z3p w 0 cs = limL := by
    have hk : ∀ i, i < 22 → ∃ u, cs[0 + i]? = some u ∧ (encV w u).isSome = true := fun i hi => by
      have hx := List.getElem?_eq_getElem (l := limL) (i := i) (by exact hi)
      obtain ⟨n, en⟩ := z6q hx
      exact ⟨_, by rw [Nat.zero_add]; exact hget i _ hx, by rw [en]; rfl⟩
    refine List.ext_getElem? fun i => ?_
    by_cases hi : i < 22
    · have hx := List.getElem?_eq_getElem (l := limL) (i := i) (by exact hi)
      obtain ⟨n, en⟩ := z6q hx
      have := zbd hk hi (by rw [Nat.zero_add]; exact hget i _ hx)
      rw [Nat.zero_add] at this
      rw [this, hx, en]; rfl
    · have h1 : (z3p w 0 cs).length ≤ 22 := by
        unfold z3p
        rw [List.length_append, List.length_replicate, List.length_map]
        have := Lm.tw_len (fun v => (encV w v).isSome) (cs.toList.drop 0)
        rw [List.drop_zero] at this ⊢
        simp at this ⊢
        omega
      rw [List.getElem?_eq_none (by omega), List.getElem?_eq_none (by show 22 ≤ i; omega)]
  unfold rowL
  have : Lm.hget (hpW w) 0 = some (Lm.rowW w 0) := rfl
  rw [this, hr, hc]
def kdW (w : World) (x : KdW) : Kd := ⟨x.room, x.most, enc1 w (.slice x.A x.zs.length x.cap), x.zs, x.step⟩
def bkW (w : World) (A : Option Addr) (ca : Nat) (P : List Pc) (B : Option Addr) (cb : Nat) (K : List KdW) (C : Option Addr) (cc : Nat) (S : List Int) (g f u e : Int) : Bk :=
  ⟨P, enc1 w (.slice A P.length ca), K.map (kdW w), enc1 w (.slice B K.length cb), g, f, u, e, S, enc1 w (.slice C S.length cc)⟩
theorem zdo {c : Nat} (h : c ≤ 140737488351232) : c < HALF := by unfold HALF; omega
theorem z6r {w : World} {A : Option Addr} {cap : Nat} {l : List Int} (h : SlW w 1 A cap (l.map intC)) : (encV w (.slice A l.length cap)).isSome = true ∧ Lst (hpW w) (z3o w) 1 (enc1 w (.slice A l.length cap)) (ints l) := by
  have := z40 (w := w) (A := A) (cap := cap) (rows := l.map intC) (sz := 1) (by omega) (fun r hr => by obtain ⟨n, _, rfl⟩ := List.mem_map.1 hr; rfl) h.len (zdo h.few) h.lies (fun r hr u hu => by
    obtain ⟨n, _, rfl⟩ := List.mem_map.1 hr
    simp only [intC, List.mem_cons, List.not_mem_nil, or_false] at hu
    subst hu; rfl)
  rw [List.length_map] at this
  refine ⟨this.1, ?_⟩
  have e : (l.map intC).map (fun r => r.map (enc1 w)) = ints l := by
    rw [List.map_map]; rfl
  rw [← e]; exact this.2
theorem zwi {w : World} (hl : Lim w) {A : Option Addr} {ca : Nat} {P : List Pc} {B : Option Addr} {cb : Nat} {K : List KdW} {C : Option Addr} {cc : Nat} {S : List Int} (g f u e : Int)
    (hP : SlW w 4 A ca (P.map Pc.row)) (hK : SlW w 4 B cb (K.map KdW.code)) (hZ : ∀ x ∈ K, x.Lies w) (hS : SlW w 1 C cc (S.map intC)) :
    (bkW w A ca P B cb K C cc S g f u e).At (hpW w) (z3o w) ∧ @Lm.VR (Lm.worldLo w hl.pos) (Lm.renOf w) (.agg (bkW w A ca P B cb K C cc S g f u e).cells.toArray) (.agg #[.slice A P.length ca, .slice B K.length cb, vi g, vi f, vi u, vi e, .slice C S.length cc]) := by
  have p := z40 (w := w) (A := A) (cap := ca) (rows := P.map Pc.row) (sz := 4) (by omega) (fun r hr => by obtain ⟨n, _, rfl⟩ := List.mem_map.1 hr; rfl) hP.len (zdo hP.few) hP.lies (fun r hr u hu => by
    obtain ⟨n, _, rfl⟩ := List.mem_map.1 hr
    simp only [Pc.row, List.mem_cons, List.not_mem_nil, or_false] at hu
    rcases hu with rfl | rfl | rfl | rfl <;> rfl)
  have k := z40 (w := w) (A := B) (cap := cb) (rows := K.map KdW.code) (sz := 4) (by omega) (fun r hr => by obtain ⟨n, _, rfl⟩ := List.mem_map.1 hr; rfl) hK.len (zdo hK.few) hK.lies (fun r hr u hu => by
    obtain ⟨n, hn, rfl⟩ := List.mem_map.1 hr
    simp only [KdW.code, List.mem_cons, List.not_mem_nil, or_false] at hu
    rcases hu with rfl | rfl | rfl | rfl
    · rfl
    · rfl
    · exact (z6r (hZ n hn)).1
    · rfl)
  have s := z6r hS
  rw [List.length_map] at p k
  have ep : (P.map Pc.row).map (fun r => r.map (enc1 w)) = P.map Pc.row := by rw [List.map_map]; rfl
  have ek : (K.map KdW.code).map (fun r => r.map (enc1 w)) = (K.map (kdW w)).map Kd.row := by rw [List.map_map, List.map_map]; rfl
  rw [ep] at p
  rw [ek] at k
  refine ⟨⟨?_, zsk hl, p.2, k.2, fun x hx => ?_, s.2, ?_, ?_, fun x hx => ?_, ?_⟩, ?_⟩
  · have := Lm.nn_le w; unfold nnOf at this; omega
  · obtain ⟨y, hy, rfl⟩ := List.mem_map.1 hx
    exact (z6r (hZ y hy)).2
  · have := hP.len; have := hP.few; rw [List.length_map] at *; show P.length ≤ _; omega
  · have := hK.len; have := hK.few; rw [List.length_map] at *; show (K.map (kdW w)).length ≤ _; rw [List.length_map]; omega
  · obtain ⟨y, hy, rfl⟩ := List.mem_map.1 hx
    have h1 := (hZ y hy).len; have h2 := (hZ y hy).few; rw [List.length_map] at h1; show y.zs.length ≤ _; omega
  · have := hS.len; have := hS.few; rw [List.length_map] at *; show S.length ≤ _; omega
  · letI := Lm.worldLo w hl.pos
    have vr : ∀ {v : Value}, (encV w v).isSome = true → Lm.VR (Lm.renOf w) (enc1 w v) v := fun {v} h => by
      obtain ⟨x, hx⟩ := Option.isSome_iff_exists.1 h
      have e1 : enc1 w v = x := by unfold enc1; rw [hx]; rfl
      rw [e1]
      exact Lm.enc_vr hl.pos hx
    have one : ∀ {v : Value}, (encV w v).isSome = true → (enc1 w v).oneCell' = true := fun {v} h => by
      obtain ⟨x, hx⟩ := Option.isSome_iff_exists.1 h
      have e1 : enc1 w v = x := by unfold enc1; rw [hx]; rfl
      rw [e1]
      exact Lm.enc_one hx
    refine Lm.VR.agg rfl (fun i x x' a b => ?_) (fun i x a => ?_)
    · have hi : i < 7 := (Array.getElem?_eq_some_iff.1 b).1
      match i, hi with
      | 0, _ => cases a; cases b; exact vr p.1
      | 1, _ => cases a; cases b; exact vr k.1
      | 2, _ => cases a; cases b; exact .int _ _
      | 3, _ => cases a; cases b; exact .int _ _
      | 4, _ => cases a; cases b; exact .int _ _
      | 5, _ => cases a; cases b; exact .int _ _
      | 6, _ => cases a; cases b; exact vr s.1
    · have hi : i < 7 := (Array.getElem?_eq_some_iff.1 a).1
      match i, hi with
      | 0, _ => cases a; exact one p.1
      | 1, _ => cases a; exact one k.1
      | 2, _ => cases a; rfl
      | 3, _ => cases a; rfl
      | 4, _ => cases a; rfl
      | 5, _ => cases a; rfl
      | 6, _ => cases a; exact one s.1
open Go Go.Proofs Go.Lm
set_option maxHeartbeats 16000000
theorem zje {f : Nat → Bool} {i : Nat} (hf : ∀ k, f k = decide (k = i)) : ∀ n, (List.range n).filter f = if i < n then [i] else [] := by
  intro n
  induction n with
  | zero => simp
  | succ n ih =>
    rw [List.range_succ, List.filter_append, ih]
    have h0 := hf n
    by_cases h1 : i < n
    · rw [if_pos h1, if_pos (by omega)]
      rw [decide_eq_false (show ¬ n = i by omega)] at h0
      simp [h0]
    · by_cases h2 : n = i
      · rw [decide_eq_true h2] at h0
        rw [if_neg h1, if_pos (by omega)]
        subst h2
        simp [h0]
      · rw [decide_eq_false h2] at h0
        rw [if_neg h1, if_neg (by omega)]
        simp [h0]
theorem zrx {i n : Nat} (h : i < n) : nsF (oneF i) n = [i] := by
  unfold nsF
  rw [zje (i := i) (fun k => by unfold oneF; simp) n, if_pos h]
theorem ztm {b : Bk} {i : Nat} (h : i < b.P.length) : tooQ b i = !(b.K.any fun k => z5n b k [i]) := by
  have : ∀ k, z8p b.P (oneF i) k = z5n b k [i] := fun k => by
    have e := zrx h
    rw [zms b (oneF i) k (by rw [e]; simp), e]
  unfold tooQ
  exact congrArg (fun f => !b.K.any f) (funext this)
theorem lst1 {h : Hp} {nx r i : Nat} (hr : r < nx) (hrow : rowL h r = some [vi i]) : Lst h nx 1 (.slice (some ⟨r, 0, none⟩) 1 1) (ints (nsI [i])) := zaf (l := [vi i]) hr hrow
theorem zp4 {α : Type} (l : List α) (p : α → Bool) {k : Nat} (hk : k < l.length) : (l.take (k + 1)).any p = ((l.take k).any p || p l[k]) := by
  rw [List.take_add_one, List.getElem?_eq_getElem hk, Option.toList_some, List.any_append]
  simp
theorem ztg (a : Int) : unV Tryz.prog .neg (.int .i64 a) = some (.int .i64 (IntKind.wrap .i64 (-a))) := by
  rw [show -a = 0 - a by omega]
  show gr (z0j Tryz.prog (Op.intArith .sub .i64 0 a)) = _
  rfl
theorem zo4 {n k : Int} (hk : 1 ≤ k) (hn : -1000000000000 ≤ n) (hn2 : n ≤ 1000000000000) : -1000000000000 ≤ n / k ∧ n / k ≤ 1000000000000 := by
  refine ⟨Int.le_ediv_of_mul_le (by omega) (by omega), ?_⟩
  have : n / k < 1000000000001 := Int.ediv_lt_of_lt_mul (by omega) (by omega)
  omega
section
variable {S : Kn} (hS : S.Only [22]) {m : Nat} {h : Hp} {nx : Nat}
include hS
theorem c80 (hm : 2 ≤ m) (n k : Int) (hk : 1 ≤ k) (hk2 : k ≤ 1000000000) (hn : -1000000000000 ≤ n) (hn2 : n ≤ 1000000000000) : z06 80 [vi n, vi k] (z07 Tryz.prog vmL S m) h nx = .gen (vi (n / k)) h nx [] := by
  refine fun80.ground (hS _ _ _ _ (by decide)) (by omega) rfl (by simp) ?_
  have k34 := c34 hS (m := m - 1) (h := h) (nx := nx) (by omega) n k hk hk2
  have h0 : k ≠ 0 := by omega
  have hx := Int.emod_nonneg n h0
  have hx2 := Int.emod_lt_of_pos n (show 0 < k by omega)
  have hq : (n - n % k).tdiv k = n / k := by
    have : n - n % k = k * (n / k) := by have := Int.emod_def n k; omega
    rw [this, Int.mul_tdiv_cancel_left _ h0]
  obtain ⟨b1, b2⟩ := zo4 hk hn hn2
  generalize n / k = q at *
  generalize n % k = x at *
  simp (maxSteps := 999999) (implicitDefEqProofs := false) (disch := omega) only [s80, k34, hq, zst, bz, z00, Nat.reduceEqDiff, Nat.reduceLT, Nat.reduceAdd]
  exact ⟨_, _, rfl⟩
theorem c48 (hm : 3 ≤ m) (n k : Int) (hk : 1 ≤ k) (hk2 : k ≤ 1000000000) (hn : -1000000000000 ≤ n) (hn2 : n ≤ 1000000000000) : z06 48 [vi n, vi k] (z07 Tryz.prog vmL S m) h nx = .gen (vi (-((-n) / k))) h nx [] := by
  refine fun48.ground (hS _ _ _ _ (by decide)) (by omega) rfl (by simp) ?_
  have k80 := c80 hS (m := m - 1) (h := h) (nx := nx) (by omega) (-n) k hk hk2 (by omega) (by omega)
  obtain ⟨b1, b2⟩ := zo4 hk (show -1000000000000 ≤ -n by omega) (by omega)
  generalize -n / k = q at *
  simp (maxSteps := 999999) (implicitDefEqProofs := false) (disch := omega) only [s48, k80, ztg, zsq, bz, z00, Nat.reduceEqDiff, Nat.reduceLT, Nat.reduceAdd]
  exact ⟨_, _, rfl⟩
omit hS in
theorem zl2 (n k : Int) (hk : 1 ≤ k) : -((-n) / k) = (n + k - 1) / k := by
  have h0 : k ≠ 0 := by omega
  have e1 := Int.emod_def (-n) k
  have e2 := Int.emod_def (n + k - 1) k
  have a1 := Int.emod_nonneg (-n) h0
  have a2 := Int.emod_lt_of_pos (-n) (show 0 < k by omega)
  have b1 := Int.emod_nonneg (n + k - 1) h0
  have b2 := Int.emod_lt_of_pos (n + k - 1) (show 0 < k by omega)
  have h1 : k * (-((-n) / k)) ≤ k * ((n + k - 1) / k) + (k - 1) := by rw [Int.mul_neg]; omega
  have h2 : k * ((n + k - 1) / k) ≤ k * (-((-n) / k)) + (k - 1) := by rw [Int.mul_neg]; omega
  generalize -((-n) / k) = p at *
  generalize (n + k - 1) / k = q at *
  have lt1 : p < q + 1 := by
    refine Int.lt_of_mul_lt_mul_left (a := k) ?_ (by omega)
    rw [Int.mul_add]; omega
  have lt2 : q < p + 1 := by
    refine Int.lt_of_mul_lt_mul_left (a := k) ?_ (by omega)
    rw [Int.mul_add]; omega
  omega
theorem c57 (hm : 2 ≤ m) {b : Bk} (hb : b.At h nx) {p : Pa} (hp : p.At h nx) : z06 57 [.agg b.cells.toArray, .agg p.cells.toArray] (z07 Tryz.prog vmL S m) h nx = .gen (.bool (isQ b p)) h nx [] := by
  refine fun57.ground (hS _ _ _ _ (by decide)) (by omega) rfl (by simp) ?_
  obtain ⟨G, eG⟩ : ∃ x, x = hset (hset h nx (.cells b.cells none)) (nx + 1) (.cells p.cells none) := ⟨_, rfl⟩
  have hsm : Same nx h G := by rw [eG]; exact ((Same.refl nx h).set (Nat.le_refl _) _).set (by omega) _
  have hb' := hb.same hsm (nx' := nx + 1 + 1) (by omega)
  have hp' := hp.same hsm (nx' := nx + 1 + 1) (by omega)
  have r0 : rowL G nx = some b.cells := by rw [eG, z0a _ (by omega)]; exact z01 _ _
  have r1 : rowL G (nx + 1) = some p.cells := by rw [eG]; exact z01 _ _
  obtain ⟨pa, pc, hpv, _⟩ := hb.p.form
  rw [List.length_map] at hpv
  obtain ⟨ka, kc, hkv, _⟩ := hb.k.form
  rw [List.length_map] at hkv
  obtain ⟨za, zc, hzv, _⟩ := hp.l.form
  rw [z1x] at hzv
  have x0 : z09 false 1 b.cells 0 = some b.pv := rfl
  have x1 : z09 false 1 b.cells 1 = some b.kv := rfl
  have y0 : z09 false 1 p.cells 0 = some (vi p.kind) := rfl
  have y1 : z09 false 1 p.cells 1 = some p.v := rfl
  have k36 := c36 hS (m := m - 1) (h := G) (nx := nx + 1 + 1) (by omega) (b.P.length : Int) hp.n hp'.l
  rw [hpv] at x0
  rw [hkv] at x1
  rw [hzv] at y1 k36
  have hpl := hb.pl
  have hkl := hb.kl
  have k40 := fun (h : Hp) (nx : Nat) (x lo hi : Int) => c40 hS (m := m - 1) (h := h) (nx := nx) (by omega) x lo hi
  have hz : (!p.zs.isEmpty) = decide ((p.zs.length : Int) > 0) := by cases p.zs <;> simp
  unfold isQ
  rw [hz]
  rcases Bool.eq_false_or_eq_true (inB 0 ((b.K.length : Int) - 1) p.kind) with q1 | q1 <;> by_cases q2 : (0 : Int) < (p.zs.length : Int) <;> rcases Bool.eq_false_or_eq_true (z13 0 ((b.P.length : Int) - 1) p.zs) with q3 | q3 <;> simp (maxSteps := 999999) (implicitDefEqProofs := false) (disch := omega) only [s57, ← eG, r0, r1, x0, x1, y0, y1, k36, k40, q1, q2, q3, gt_iff_lt, z5e, zss, g_un, bz, z00, Nat.reduceEqDiff, Nat.reduceLT, Nat.reduceAdd] <;> exact ⟨_, _, rfl⟩
end
open Go Go.Proofs Go.Lm
set_option maxRecDepth 10000
set_option maxHeartbeats 16000000
theorem ze6 {α : Type} (l : List α) (p : α → Bool) {k : Nat} (hk : k < l.length) : (l.take (k + 1)).all p = ((l.take k).all p && p l[k]) := by
  rw [List.take_add_one, List.getElem?_eq_getElem hk, Option.toList_some, List.all_append]
  simp
theorem zhg {α : Type} {l : List α} {p : α → Bool} {k : Nat} (h : (l.take k).all p = false) : l.all p = false := by
  cases q : l.all p with
  | false => rfl
  | true =>
    rw [← h]
    refine (List.all_eq_true.2 fun x hx => ?_).symm
    exact List.all_eq_true.1 q x (List.mem_of_mem_take hx)
theorem zs3 {S : Kn} (hS : S.Only [22]) {m : Nat} (hm : 2 ≤ m) {b : Bk} {z : Z} {vs : Vs} {h : Hp} {nx p1 : Nat} {a0 : Bool} (hb : b.At h nx) (hr1 : rowL h p1 = some b.cells) (hp1 : p1 < nx) (hz : z.n0 ≤ nx)
    (g1 : vs 1 = some (pt p1)) (g3 : vs 3 = some (.bool a0)) (g4 : vs 4 = some (vi 0)) {r : R} (hr : z14 (sC Tryz.prog 147 147 (z07 Tryz.prog vmL S m) zjb) z vs h nx = r) :
    ∃ vs' h' nx', r = .exi 0 z vs' h' nx' ∧ nx ≤ nx' ∧ Same nx h h' ∧ vs' 1 = some (pt p1) ∧ vs' 3 = some (.bool (a0 && b.P.all Pc.ok)) := by
  subst hr
  refine z0n (Post := fun r => ∃ vs' h' nx', r = .exi 0 z vs' h' nx' ∧ nx ≤ nx' ∧ Same nx h h' ∧ vs' 1 = some (pt p1) ∧ vs' 3 = some (.bool (a0 && b.P.all Pc.ok)))
    (fun k z' vs' h' nx' => k ≤ b.P.length ∧ z' = z ∧ nx ≤ nx' ∧ Same nx h h' ∧ vs' 1 = some (pt p1) ∧ vs' 3 = some (.bool (a0 && (b.P.take k).all Pc.ok)) ∧ vs' 4 = some (vi (k : Int))) b.P.length (by have := hb.pl; omega)
    ⟨Nat.zero_le _, rfl, Nat.le_refl _, Same.refl _ _, g1, by rw [g3]; simp, g4⟩ ?_
  rintro k z' vs' h' nx' ⟨hk, rfl, hn, hs, e1, e3, e4⟩
  have hpl := hb.pl
  have hrow : rowL h' p1 = some b.cells := by rw [z0w hs hp1]; exact hr1
  obtain ⟨pa, pc, hpv, _⟩ := hb.p.form
  rw [List.length_map] at hpv
  have hpk : z09 false 1 b.cells 0 = some b.pv := rfl
  rw [hpv] at hpk
  obtain ⟨a, ea⟩ : ∃ a, (a0 && (b.P.take k).all Pc.ok) = a := ⟨_, rfl⟩
  rw [ea] at e3
  by_cases hlt : k < b.P.length ∧ a = true
  · left
    obtain ⟨hlt, rfl⟩ := hlt
    have h1 : ((k : Int) < (b.P.length : Int)) := by omega
    have hb' := hb.same hs (nx' := nx') hn
    obtain ⟨rr, o, cs, c, hpv2, hcs, hrn, q1, q2, q3⟩ := hb'.piece hlt
    rw [hpv] at hpv2
    cases hpv2
    have k40 := fun (h : Hp) (nx : Nat) (x lo hi : Int) => c40 hS (m := m) (h := h) (nx := nx) (by omega) x lo hi
    have hall := ze6 b.P Pc.ok hlt
    have ht : (a0 && (b.P.take (k + 1)).all Pc.ok) = b.P[k].ok := by
      rw [hall, ← Bool.and_assoc, ea, Bool.true_and]
    have hok : b.P[k].ok = (inB 1 500 b.P[k].size && (inB 1 5000 b.P[k].weight && inB 0 10000 b.P[k].worth)) := rfl
    obtain ⟨x, ex⟩ : ∃ x, b.P[k] = x := ⟨_, rfl⟩
    rw [ex] at ht hok q1
    have hrw : x.row = [vi x.size, vi x.weight, vi x.worth, .bool x.alone] := rfl
    rw [hrw] at q1
    rcases Bool.eq_false_or_eq_true (inB 1 500 x.size) with s1 | s1 <;> rcases Bool.eq_false_or_eq_true (inB 1 5000 x.weight) with s2 | s2 <;> rcases Bool.eq_false_or_eq_true (inB 0 10000 x.worth) with s3 | s3 <;> rw [s1, s2, s3] at hok
    all_goals refine ⟨hlt, z', _, _, _, (by simp (maxSteps := 999999) (implicitDefEqProofs := false) (disch := omega) only [zjb, e1, e3, e4, h1, hrow, hpk, hcs, q1, k40, s1, s2, s3, z5e, g_un, bz, z00, Nat.reduceEqDiff, Nat.reduceLT, Nat.reduceAdd]; exact rfl), by omega, rfl, ?_, ?_, ?_, ?_, ?_⟩
    all_goals rotate_left 1
    all_goals first
      | exact (hs.set hn _).set hn _
      | omega
      | (simp only [pq, Nat.reduceEqDiff, e1]; done)
      | (rw [ht, hok]; simp only [pq, Nat.reduceEqDiff, Bool.and_true, Bool.and_false, Bool.true_and, Bool.false_and]; done)
      | (simp only [pq, Nat.reduceEqDiff]; rfl)
  · right
    have e : ∃ vs2, sC Tryz.prog 147 147 (z07 Tryz.prog vmL S m) zjb z' vs' h' nx' = .exi 0 z' vs2 h' nx' ∧ vs2 1 = vs' 1 ∧ vs2 3 = vs' 3 := by
      cases a with
      | false => refine ⟨_, by simp (maxSteps := 999999) (implicitDefEqProofs := false) (disch := omega) only [zjb, e1, e3, e4, g_un, z3u, bz, z00, Nat.reduceEqDiff, Nat.reduceLT, Nat.reduceAdd]; exact rfl, ?_, ?_⟩ <;> simp only [pg, Nat.reduceEqDiff]
      | true =>
        have h1 : ¬ ((k : Int) < (b.P.length : Int)) := fun q => hlt ⟨by omega, rfl⟩
        refine ⟨_, by simp (maxSteps := 999999) (implicitDefEqProofs := false) (disch := omega) only [zjb, e1, e3, e4, h1, hrow, hpk, g_un, z3u, bz, z00, Nat.reduceEqDiff, Nat.reduceLT, Nat.reduceAdd]; exact rfl, ?_, ?_⟩ <;> simp only [pg, Nat.reduceEqDiff]
    obtain ⟨vs2, e, q1, q3⟩ := e
    rw [e]
    refine ⟨trivial, vs2, h', nx', rfl, hn, hs, q1.trans e1, q3.trans (e3.trans ?_)⟩
    rw [← ea] at hlt ⊢
    by_cases hkl : k < b.P.length
    · have : (a0 && (b.P.take k).all Pc.ok) = false := by
        cases q : (a0 && (b.P.take k).all Pc.ok) with
        | false => rfl
        | true => exact (hlt ⟨hkl, q⟩).elim
      rw [this]
      cases a0 with
      | false => rfl
      | true => rw [Bool.true_and] at this; rw [zhg this]; rfl
    · rw [show k = b.P.length by omega, List.take_length]
theorem z99 {h : Hp} {nx : Nat} {v : Value} {zs : List Int} (hv : Lst h nx 1 v (ints zs)) {i : Nat} (hi : i < zs.length) : ∃ rr o cs c, v = .slice (some ⟨rr, o, none⟩) zs.length c ∧ rowL h rr = some cs ∧ rr < nx ∧ z09 false 1 cs (o + i * 1) = some (vi zs[i]) := by
  obtain ⟨a, c, rfl, _⟩ := hv.form
  have hil : (ints zs).length = zs.length := by simp [ints]
  rw [hil] at hv ⊢
  obtain ⟨_, rr, o, row, cs, rfl, hrn, hrow, hrl, hcs, ho, hseg⟩ := hv.load (i := i) hi
  have hrw : row = [vi zs[i]] := by
    unfold ints at hrow
    rw [List.getElem?_map, List.getElem?_eq_getElem hi] at hrow
    exact (Option.some.inj hrow).symm
  subst hrw
  exact ⟨rr, o, cs, c, rfl, hcs, hrn, z2w (row := []) hseg⟩
theorem zs2 {S : Kn} (hS : S.Only [22]) {m : Nat} (hm : 2 ≤ m) {x : Kd} {z : Z} {vs : Vs} {h : Hp} {nx p7 : Nat} {a0 : Bool} (hv : Lst h nx 1 x.zv (ints x.zs)) (h5 : a0 = true → x.zs.length = 5) (hr7 : rowL h p7 = some x.row)
    (g3 : vs 3 = some (.bool a0)) (g7 : vs 7 = some (pt p7)) (g8 : vs 8 = some (vi 0)) {r : R} (hr : z14 (sC Tryz.prog 147 147 (z07 Tryz.prog vmL S m) zja) z vs h nx = r) :
    ∃ vs', r = .exi 4 z vs' h nx ∧ vs' 1 = vs 1 ∧ vs' 6 = vs 6 ∧ vs' 3 = some (.bool (a0 && x.zs.all (inB 1 1000))) := by
  subst hr
  refine z0n (Post := fun r => ∃ vs', r = .exi 4 z vs' h nx ∧ vs' 1 = vs 1 ∧ vs' 6 = vs 6 ∧ vs' 3 = some (.bool (a0 && x.zs.all (inB 1 1000))))
    (fun k z' vs' h' nx' => (a0 = true → k ≤ 5) ∧ z' = z ∧ nx' = nx ∧ h' = h ∧ vs' 1 = vs 1 ∧ vs' 6 = vs 6 ∧ vs' 7 = some (pt p7) ∧ vs' 3 = some (.bool (a0 && (x.zs.take k).all (inB 1 1000))) ∧ vs' 8 = some (vi (k : Int))) 5 (by omega)
    ⟨fun _ => by omega, rfl, rfl, rfl, rfl, rfl, g7, by rw [g3]; simp, g8⟩ ?_
  rintro k z' vs' h' nx' ⟨hk, rfl, rfl, rfl, e1, e6, e7, e3, e8⟩
  obtain ⟨a, ea⟩ : ∃ a, (a0 && (x.zs.take k).all (inB 1 1000)) = a := ⟨_, rfl⟩
  rw [ea] at e3
  by_cases hlt : k < 5 ∧ a = true
  · left
    obtain ⟨hlt, rfl⟩ := hlt
    have ha0 : a0 = true := (Bool.and_eq_true_iff.1 ea).1
    have h5' := h5 ha0
    have h1 : ((k : Int) < 5) := by omega
    obtain ⟨rr, o, cs, c, hzv, hcs, hrn, q1⟩ := z99 hv (i := k) (by omega)
    rw [h5'] at hzv
    have k40 := fun (h : Hp) (nx : Nat) (x lo hi : Int) => c40 hS (m := m) (h := h) (nx := nx) (by omega) x lo hi
    have hall := ze6 x.zs (inB 1 1000) (k := k) (by omega)
    have ht : (a0 && (x.zs.take (k + 1)).all (inB 1 1000)) = inB 1 1000 x.zs[k] := by
      rw [hall, ← Bool.and_assoc, ea, Bool.true_and]
    have hpz : z09 false 1 x.row 2 = some x.zv := rfl
    rw [hzv] at hpz
    refine ⟨hlt, z', _, _, _, (by simp (maxSteps := 999999) (implicitDefEqProofs := false) (disch := omega) only [zja, e3, e7, e8, h1, hr7, hpz, hcs, q1, k40, z5e, g_un, bz, z00, Nat.reduceEqDiff, Nat.reduceLT, Nat.reduceAdd]; exact rfl), fun _ => by omega, rfl, rfl, rfl, ?_, ?_, ?_, ?_, ?_⟩
    all_goals first
      | (simp only [pq, Nat.reduceEqDiff, e1, e6, e7]; done)
      | (rw [ht]; simp only [pq, Nat.reduceEqDiff]; done)
      | (simp only [pq, Nat.reduceEqDiff]; rfl)
  · right
    have e : ∃ vs2, sC Tryz.prog 147 147 (z07 Tryz.prog vmL S m) zja z' vs' h' nx' = .exi 4 z' vs2 h' nx' ∧ vs2 1 = vs' 1 ∧ vs2 6 = vs' 6 ∧ vs2 3 = vs' 3 := by
      cases a with
      | false => refine ⟨_, by simp (maxSteps := 999999) (implicitDefEqProofs := false) (disch := omega) only [zja, e3, e8, g_un, z3u, bz, z00, Nat.reduceEqDiff, Nat.reduceLT, Nat.reduceAdd]; exact rfl, ?_, ?_, ?_⟩ <;> simp only [pg, Nat.reduceEqDiff]
      | true =>
        have h1 : ¬ ((k : Int) < 5) := fun q => hlt ⟨by omega, rfl⟩
        refine ⟨_, by simp (maxSteps := 999999) (implicitDefEqProofs := false) (disch := omega) only [zja, e3, e8, h1, g_un, z3u, bz, z00, Nat.reduceEqDiff, Nat.reduceLT, Nat.reduceAdd]; exact rfl, ?_, ?_, ?_⟩ <;> simp only [pg, Nat.reduceEqDiff]
    obtain ⟨vs2, e, q1, q6, q3⟩ := e
    rw [e]
    refine ⟨trivial, vs2, rfl, q1.trans e1, q6.trans e6, q3.trans (e3.trans ?_)⟩
    rw [← ea] at hlt ⊢
    by_cases hkl : k < 5
    · have : (a0 && (x.zs.take k).all (inB 1 1000)) = false := by
        cases q : (a0 && (x.zs.take k).all (inB 1 1000)) with
        | false => rfl
        | true => exact (hlt ⟨hkl, q⟩).elim
      rw [this]
      cases a0 with
      | false => rfl
      | true => rw [Bool.true_and] at this; rw [zhg this]; rfl
    · cases a0 with
      | false => rfl
      | true => rw [show k = x.zs.length by have := hk rfl; have := h5 rfl; omega, List.take_length]
theorem zs0 {S : Kn} (hS : S.Only [22]) {m : Nat} (hm : 2 ≤ m) {b : Bk} {z : Z} {vs : Vs} {h : Hp} {nx p1 : Nat} {a0 : Bool} (hb : b.At h nx) (hr1 : rowL h p1 = some b.cells)
    (g1 : vs 1 = some (pt p1)) (g3 : vs 3 = some (.bool a0)) (g9 : vs 9 = some (vi 1)) (g10 : vs 10 = some (vi 0)) {r : R} (hr : z14 (sC Tryz.prog 147 147 (z07 Tryz.prog vmL S m) zj9) z vs h nx = r) :
    ∃ vs', r = .exi 6 z vs' h nx ∧ vs' 3 = some (.bool (a0 && z13 1 1000 b.S)) := by
  subst hr
  refine z0n (Post := fun r => ∃ vs', r = .exi 6 z vs' h nx ∧ vs' 3 = some (.bool (a0 && z13 1 1000 b.S)))
    (fun k z' vs' h' nx' => k ≤ b.S.length ∧ z' = z ∧ nx' = nx ∧ h' = h ∧ vs' 1 = some (pt p1) ∧ vs' 10 = some (vi (k : Int)) ∧ ∃ (a : Bool) (l : Int), vs' 3 = some (.bool a) ∧ vs' 9 = some (vi l) ∧ (a = true → 1 ≤ l) ∧ (a0 && z13 1 1000 b.S) = (a && z13 l 1000 (b.S.drop k))) b.S.length (by have := hb.sl; omega)
    ⟨Nat.zero_le _, rfl, rfl, rfl, g1, g10, a0, 1, g3, g9, fun _ => by omega, by rw [List.drop_zero]⟩ ?_
  rintro k z' vs' h' nx' ⟨hk, rfl, rfl, rfl, e1, e10, a, l, e3, e9, el, ea⟩
  have hsl := hb.sl
  obtain ⟨sa, sc, hsv, _⟩ := hb.s.form
  rw [z1x] at hsv
  have hpk : z09 false 1 b.cells 6 = some b.sv := rfl
  rw [hsv] at hpk
  by_cases hlt : k < b.S.length ∧ a = true
  · left
    obtain ⟨hlt, rfl⟩ := hlt
    have h1 : ((k : Int) < (b.S.length : Int)) := by omega
    obtain ⟨rr, o, cs, c, hsv2, hcs, hrn, q1⟩ := z99 hb.s hlt
    rw [hsv] at hsv2
    cases hsv2
    have k40 := fun (h : Hp) (nx : Nat) (x lo hi : Int) => c40 hS (m := m) (h := h) (nx := nx) (by omega) x lo hi
    have hd : b.S.drop k = b.S[k] :: b.S.drop (k + 1) := List.drop_eq_getElem_cons hlt
    rw [hd] at ea
    obtain ⟨x, ex⟩ : ∃ x, b.S[k] = x := ⟨_, rfl⟩
    rw [ex] at ea q1
    simp only [z13, Bool.true_and] at ea
    refine ⟨hlt, z', _, _, _, (by simp (maxSteps := 999999) (implicitDefEqProofs := false) (disch := omega) only [zj9, e1, e3, e9, e10, h1, hr1, hpk, hcs, q1, k40, z5e, g_un, bz, z00, Nat.reduceEqDiff, Nat.reduceLT, Nat.reduceAdd]; exact rfl), by omega, rfl, rfl, rfl, ?_, ?_, inB l 1000 x, IntKind.wrap .i64 (x + 1), ?_, ?_, ?_, ?_⟩
    · simp only [pq, Nat.reduceEqDiff, e1]
    · simp only [pq, Nat.reduceEqDiff]; rfl
    · simp only [pq, Nat.reduceEqDiff]
    · simp only [pq, Nat.reduceEqDiff]
    · intro q
      have := z0u q
      have := el rfl
      rw [z21 _ (by omega) (by omega)]; omega
    · rw [ea]
      cases q : inB l 1000 x with
      | false => rfl
      | true =>
        have := z0u q
        have := el rfl
        rw [z21 _ (by omega) (by omega)]
  · right
    have e : ∃ vs2, sC Tryz.prog 147 147 (z07 Tryz.prog vmL S m) zj9 z' vs' h' nx' = .exi 6 z' vs2 h' nx' ∧ vs2 3 = vs' 3 := by
      cases a with
      | false => refine ⟨_, by simp (maxSteps := 999999) (implicitDefEqProofs := false) (disch := omega) only [zj9, e1, e3, e10, g_un, z3u, bz, z00, Nat.reduceEqDiff, Nat.reduceLT, Nat.reduceAdd]; exact rfl, ?_⟩ <;> simp only [pg, Nat.reduceEqDiff]
      | true =>
        have h1 : ¬ ((k : Int) < (b.S.length : Int)) := fun q => hlt ⟨by omega, rfl⟩
        refine ⟨_, by simp (maxSteps := 999999) (implicitDefEqProofs := false) (disch := omega) only [zj9, e1, e3, e10, h1, hr1, hpk, g_un, z3u, bz, z00, Nat.reduceEqDiff, Nat.reduceLT, Nat.reduceAdd]; exact rfl, ?_⟩ <;> simp only [pg, Nat.reduceEqDiff]
    obtain ⟨vs2, e, q3⟩ := e
    rw [e]
    refine ⟨trivial, vs2, rfl, q3.trans (e3.trans ?_)⟩
    rw [ea]
    cases a with
    | false => rfl
    | true =>
      have : b.S.drop k = [] := List.drop_eq_nil_of_le (by have : ¬ k < b.S.length := fun q => hlt ⟨q, rfl⟩; omega)
      rw [this]; rfl
theorem Bk.At.kindw {b : Bk} {h : Hp} {nx : Nat} (hb : b.At h nx) {i : Nat} (hi : i < b.K.length) : ∃ r o cs c, b.kv = .slice (some ⟨r, o, none⟩) b.K.length c ∧ rowL h r = some cs ∧ r < nx ∧ z09 true 4 cs (o + i * 4) = some (.agg b.K[i].row.toArray) := by
  have hk := hb.k
  obtain ⟨a, c, hve, _⟩ := hk.form
  rw [List.length_map] at hve
  rw [hve] at hk
  obtain ⟨_, r, o, row, cs, rfl, hrn, hrow, hrl, hcs, ho, hseg⟩ := hk.load (i := i) (by simpa using hi)
  rw [List.getElem?_map, List.getElem?_eq_getElem hi] at hrow
  cases hrow
  exact ⟨r, o, cs, c, hve, hcs, hrn, z3j (by omega) hseg⟩
theorem zs1 {S : Kn} (hS : S.Only [22]) {m : Nat} (hm : 2 ≤ m) {b : Bk} {z : Z} {vs : Vs} {h : Hp} {nx p1 : Nat} {a0 : Bool} (hb : b.At h nx) (hr1 : rowL h p1 = some b.cells) (hp1 : p1 < nx) (hz : z.n0 ≤ nx)
    (g1 : vs 1 = some (pt p1)) (g3 : vs 3 = some (.bool a0)) (g6 : vs 6 = some (vi 0)) {r : R} (hr : z14 (sC Tryz.prog 147 147 (z07 Tryz.prog vmL S m) zgy) z vs h nx = r) :
    ∃ vs' h' nx', r = .exi 2 z vs' h' nx' ∧ nx ≤ nx' ∧ Same nx h h' ∧ vs' 1 = some (pt p1) ∧ vs' 3 = some (.bool (a0 && b.K.all Kd.ok)) := by
  subst hr
  refine z0n (Post := fun r => ∃ vs' h' nx', r = .exi 2 z vs' h' nx' ∧ nx ≤ nx' ∧ Same nx h h' ∧ vs' 1 = some (pt p1) ∧ vs' 3 = some (.bool (a0 && b.K.all Kd.ok)))
    (fun k z' vs' h' nx' => k ≤ b.K.length ∧ z' = z ∧ nx ≤ nx' ∧ Same nx h h' ∧ vs' 1 = some (pt p1) ∧ vs' 3 = some (.bool (a0 && (b.K.take k).all Kd.ok)) ∧ vs' 6 = some (vi (k : Int))) b.K.length (by have := hb.kl; omega)
    ⟨Nat.zero_le _, rfl, Nat.le_refl _, Same.refl _ _, g1, by rw [g3]; simp, g6⟩ ?_
  rintro k z' vs' h' nx' ⟨hk, rfl, hn, hs, e1, e3, e6⟩
  have hkl := hb.kl
  have hrow : rowL h' p1 = some b.cells := by rw [z0w hs hp1]; exact hr1
  obtain ⟨ka, kc, hkv, _⟩ := hb.k.form
  rw [List.length_map] at hkv
  have hpk : z09 false 1 b.cells 1 = some b.kv := rfl
  rw [hkv] at hpk
  obtain ⟨a, ea⟩ : ∃ a, (a0 && (b.K.take k).all Kd.ok) = a := ⟨_, rfl⟩
  rw [ea] at e3
  by_cases hlt : k < b.K.length ∧ a = true
  · left
    obtain ⟨hlt, rfl⟩ := hlt
    have h1 : ((k : Int) < (b.K.length : Int)) := by omega
    have hb' := hb.same hs (nx' := nx') hn
    have k40 := fun (h : Hp) (nx : Nat) (x lo hi : Int) => c40 hS (m := m) (h := h) (nx := nx) (by omega) x lo hi
    have hall := ze6 b.K Kd.ok hlt
    have ht : (a0 && (b.K.take (k + 1)).all Kd.ok) = b.K[k].ok := by
      rw [hall, ← Bool.and_assoc, ea, Bool.true_and]
    obtain ⟨rr, o, cs, c, hkv2, hcs, hrn, q1⟩ := hb'.kindw hlt
    rw [hkv] at hkv2
    cases hkv2
    have hzm := hb.z b.K[k] (List.getElem_mem hlt)
    obtain ⟨x, ex⟩ : ∃ x, b.K[k] = x := ⟨_, rfl⟩
    rw [ex] at ht q1 hzm
    obtain ⟨za, zc, hzv, _⟩ := hzm.form
    rw [z1x] at hzv
    have hrw : x.row = [vi x.room, vi x.most, x.zv, vi x.step] := rfl
    rw [hrw, hzv] at q1
    have hok : x.ok = ((inB 1 500 x.room && (inB 1 5000 x.most && (decide ((x.zs.length : Int) = 5) && inB 0 1000 x.step))) && x.zs.all (inB 1 1000)) := by
      have h5 : inB 5 5 (x.zs.length : Int) = decide ((x.zs.length : Int) = 5) := by
        unfold inB
        by_cases q : (x.zs.length : Int) = 5
        · simp [q]
        · rw [decide_eq_false q]
          by_cases q2 : (5 : Int) ≤ x.zs.length
          · rw [decide_eq_false (show ¬ (x.zs.length : Int) ≤ 5 by omega), Bool.and_false]
          · rw [decide_eq_false q2, Bool.false_and]
      unfold Kd.ok zbt
      rw [h5]
      cases inB 1 500 x.room <;> cases inB 1 5000 x.most <;> cases decide ((x.zs.length : Int) = 5) <;> cases inB 0 1000 x.step <;> cases x.zs.all (inB 1 1000) <;> rfl
    obtain ⟨H, eH⟩ : ∃ y, y = hset (hset h' nx' (.cells [vi 0, vi 0, .slice none 0 0, vi 0] none)) nx' (.cells [vi x.room, vi x.most, .slice za x.zs.length zc, vi x.step] none) := ⟨_, rfl⟩
    have r7 : rowL H nx' = some x.row := by rw [eH, z01, hrw, hzv]
    have r7' : rowL H nx' = some [vi x.room, vi x.most, .slice za x.zs.length zc, vi x.step] := by rw [eH, z01]
    have sH : Same nx h H := by rw [eH]; exact (hs.set hn _).set hn _
    have body : ∃ vs2 h2 nx2, sC Tryz.prog 147 147 (z07 Tryz.prog vmL S m) zgy z' vs' h' nx' = .nor z' vs2 h2 nx2 ∧ nx ≤ nx2 ∧ Same nx h h2 ∧ vs2 1 = some (pt p1) ∧ vs2 3 = some (.bool x.ok) ∧ vs2 6 = some (vi ((k : Int) + 1)) := by
      rcases Bool.eq_false_or_eq_true (inB 1 500 x.room) with s1 | s1 <;> rcases Bool.eq_false_or_eq_true (inB 1 5000 x.most) with s2 | s2 <;> rcases Bool.eq_false_or_eq_true (inB 0 1000 x.step) with s4 | s4 <;> by_cases s5 : (x.zs.length : Int) = 5
      all_goals (
        have s5' : ((x.zs.length : Int) == 5) = decide ((x.zs.length : Int) = 5) := rfl
        first | rw [decide_eq_true s5] at s5' hok | rw [decide_eq_false s5] at s5' hok
        rw [s1, s2, s4] at hok
        simp (maxSteps := 999999) (implicitDefEqProofs := false) (disch := omega) only [zgy, z1j, e1, e3, e6, h1, hrow, hpk, hcs, q1, k40, s1, s2, s4, s5', ← eH, r7', z5e, g_un, bz, z00, Nat.reduceEqDiff, Nat.reduceLT, Nat.reduceAdd]
        generalize hr : z14 _ _ _ _ _ = r
        obtain ⟨vs3, rfl, w1, w6, w3⟩ := zs2 hS hm (x := x) (h := H) (nx := nx' + 1) (hzm.same sH (by omega)) (by first | (intro q; cases q; done) | (intro _; omega)) r7 rfl rfl rfl hr
        have w1' := w1.trans (show _ = some (pt p1) by simp only [pq, Nat.reduceEqDiff, e1])
        have w6' := w6.trans (show _ = some (vi (k : Int)) by simp only [pq, Nat.reduceEqDiff, e6])
        refine ⟨_, _, _, by simp (maxSteps := 999999) (implicitDefEqProofs := false) (disch := omega) only [w6', bz, z00, Nat.reduceEqDiff, Nat.reduceLT, Nat.reduceAdd]; exact rfl, by omega, sH, ?_, ?_, ?_⟩
        · simp only [pq, Nat.reduceEqDiff, w1']
        · rw [hok]; simp only [pq, Nat.reduceEqDiff, w3, Bool.and_true, Bool.and_false, Bool.true_and, Bool.false_and]
        · simp only [pq, Nat.reduceEqDiff])
    obtain ⟨vs2, h2, nx2, e, a1, a2, a3, a4, a5⟩ := body
    exact ⟨hlt, z', vs2, h2, nx2, e, by omega, rfl, a1, a2, a3, by rw [ht]; exact a4, a5⟩
  · right
    have e : ∃ vs2, sC Tryz.prog 147 147 (z07 Tryz.prog vmL S m) zgy z' vs' h' nx' = .exi 2 z' vs2 h' nx' ∧ vs2 1 = vs' 1 ∧ vs2 3 = vs' 3 := by
      cases a with
      | false => refine ⟨_, by simp (maxSteps := 999999) (implicitDefEqProofs := false) (disch := omega) only [zgy, e1, e3, e6, g_un, z3u, bz, z00, Nat.reduceEqDiff, Nat.reduceLT, Nat.reduceAdd]; exact rfl, ?_, ?_⟩ <;> simp only [pg, Nat.reduceEqDiff]
      | true =>
        have h1 : ¬ ((k : Int) < (b.K.length : Int)) := fun q => hlt ⟨by omega, rfl⟩
        refine ⟨_, by simp (maxSteps := 999999) (implicitDefEqProofs := false) (disch := omega) only [zgy, e1, e3, e6, h1, hrow, hpk, g_un, z3u, bz, z00, Nat.reduceEqDiff, Nat.reduceLT, Nat.reduceAdd]; exact rfl, ?_, ?_⟩ <;> simp only [pg, Nat.reduceEqDiff]
    obtain ⟨vs2, e, q1, q3⟩ := e
    rw [e]
    refine ⟨trivial, vs2, h', nx', rfl, hn, hs, q1.trans e1, q3.trans (e3.trans ?_)⟩
    rw [← ea] at hlt ⊢
    by_cases hkl : k < b.K.length
    · have : (a0 && (b.K.take k).all Kd.ok) = false := by
        cases q : (a0 && (b.K.take k).all Kd.ok) with
        | false => rfl
        | true => exact (hlt ⟨hkl, q⟩).elim
      rw [this]
      cases a0 with
      | false => rfl
      | true => rw [Bool.true_and] at this; rw [zhg this]; rfl
    · rw [show k = b.K.length by omega, List.take_length]
set_option maxHeartbeats 32000000
theorem zvd : ∀ (l : List Int) (y : Int), incB (y :: l) = true → ∀ t, t ∈ l → y < t := by
  intro l
  induction l with
  | nil => intro y _ t ht; cases ht
  | cons a l ih =>
    intro y h t ht
    simp only [incB, Bool.and_eq_true, decide_eq_true_eq] at h
    rcases List.mem_cons.1 ht with rfl | ht
    · exact h.1
    · have := ih a h.2 t ht; omega
theorem zn4 : ∀ (s : List Int) (l : Int), z13 l 1000 s = (s.all (inB l 1000) && incB s) := by
  intro s
  induction s with
  | nil => intro l; rfl
  | cons x s ih =>
    intro l
    simp only [z13]
    rw [ih, Bool.eq_iff_iff]
    simp only [Bool.and_eq_true, List.all_cons]
    constructor
    · rintro ⟨h1, h2, h3⟩
      have q := z0u h1
      refine ⟨⟨h1, List.all_eq_true.2 fun t ht => ?_⟩, ?_⟩
      · have := z0u (List.all_eq_true.1 h2 t ht)
        unfold inB; simp; omega
      · cases s with
        | nil => rfl
        | cons y s =>
          have := z0u (List.all_eq_true.1 h2 y List.mem_cons_self)
          simp only [incB, Bool.and_eq_true, decide_eq_true_eq]
          exact ⟨by omega, h3⟩
    · rintro ⟨⟨h1, h2⟩, h3⟩
      have hl := zvd s x h3
      refine ⟨h1, List.all_eq_true.2 fun t ht => ?_, ?_⟩
      · have := z0u (List.all_eq_true.1 h2 t ht)
        have := hl t ht
        unfold inB; simp; omega
      · cases s with
        | nil => rfl
        | cons y s => simp only [incB, Bool.and_eq_true] at h3; exact h3.2
theorem zns (b : Bk) : b.valid = ((((inB 1 7 b.P.length && (inB 1 4 b.K.length && (inB 1 5000 b.grams && (inB 0 10000 b.free && (inB 1 10000 b.unit && (inB 0 1000 b.fee && inB 1 5 b.S.length)))))) && b.P.all Pc.ok) && b.K.all Kd.ok) && z13 1 1000 b.S) := by
  rw [zn4]
  unfold Bk.valid
  cases inB 1 7 (b.P.length : Int) <;> cases inB 1 4 (b.K.length : Int) <;> cases inB 1 5000 b.grams <;> cases inB 0 10000 b.free <;> cases inB 1 10000 b.unit <;> cases inB 0 1000 b.fee <;> cases inB 1 5 (b.S.length : Int) <;> simp [Bool.and_assoc]
theorem c16 {S : Kn} (hS : S.Only [22]) {m : Nat} (hm : 3 ≤ m) {b : Bk} {h : Hp} {nx : Nat} (hb : b.At h nx) : z06 16 [.agg b.cells.toArray] (z07 Tryz.prog vmL S m) h nx = .gen (vi (z2e b.valid true)) h nx [] := by
  refine fun16.ground (hS _ _ _ _ (by decide)) (by omega) rfl (by simp) ?_
  obtain ⟨G, eG⟩ : ∃ x, x = hset h nx (.cells b.cells none) := ⟨_, rfl⟩
  have hsm : Same nx h G := by rw [eG]; exact (Same.refl nx h).set (Nat.le_refl _) _
  have hb' := hb.same hsm (nx' := nx + 1) (by omega)
  have r0 : rowL G nx = some b.cells := by rw [eG]; exact z01 _ _
  obtain ⟨pa, pc, hpv, _⟩ := hb.p.form
  rw [List.length_map] at hpv
  obtain ⟨ka, kc, hkv, _⟩ := hb.k.form
  rw [List.length_map] at hkv
  obtain ⟨sa, sc, hsv, _⟩ := hb.s.form
  rw [z1x] at hsv
  have x0 : z09 false 1 b.cells 0 = some b.pv := rfl
  have x1 : z09 false 1 b.cells 1 = some b.kv := rfl
  have x2 : z09 false 1 b.cells 2 = some (vi b.grams) := rfl
  have x3 : z09 false 1 b.cells 3 = some (vi b.free) := rfl
  have x4 : z09 false 1 b.cells 4 = some (vi b.unit) := rfl
  have x5 : z09 false 1 b.cells 5 = some (vi b.fee) := rfl
  have x6 : z09 false 1 b.cells 6 = some b.sv := rfl
  rw [hpv] at x0
  rw [hkv] at x1
  rw [hsv] at x6
  have k40 := fun (h : Hp) (nx : Nat) (x lo hi : Int) => c40 hS (m := m - 1) (h := h) (nx := nx) (by omega) x lo hi
  have hval := zns b
  rcases Bool.eq_false_or_eq_true (inB 1 7 (b.P.length : Int)) with s1 | s1
  rcases Bool.eq_false_or_eq_true (inB 1 4 (b.K.length : Int)) with s2 | s2
  rcases Bool.eq_false_or_eq_true (inB 1 5000 b.grams) with s3 | s3
  rcases Bool.eq_false_or_eq_true (inB 0 10000 b.free) with s4 | s4
  rcases Bool.eq_false_or_eq_true (inB 1 10000 b.unit) with s5 | s5
  rcases Bool.eq_false_or_eq_true (inB 0 1000 b.fee) with s6 | s6
  rcases Bool.eq_false_or_eq_true (inB 1 5 (b.S.length : Int)) with s7 | s7
  all_goals (
    first
      | (simp only [s1, s2, s3, s4, s5, s6, s7, Bool.true_and, Bool.false_and] at hval; simp (maxSteps := 999999) (implicitDefEqProofs := false) (disch := omega) only [s16, z1j, ← eG, r0, x0, x1, x2, x3, x4, x5, x6, k40, s1, s2, s3, s4, s5, s6, s7, z5e, g_un, z3u, bz, z00, Nat.reduceEqDiff, Nat.reduceLT, Nat.reduceAdd])
      | (simp only [s1, s2, s3, s4, s5, s6, Bool.true_and, Bool.false_and] at hval; simp (maxSteps := 999999) (implicitDefEqProofs := false) (disch := omega) only [s16, z1j, ← eG, r0, x0, x1, x2, x3, x4, x5, x6, k40, s1, s2, s3, s4, s5, s6, z5e, g_un, z3u, bz, z00, Nat.reduceEqDiff, Nat.reduceLT, Nat.reduceAdd])
      | (simp only [s1, s2, s3, s4, s5, Bool.true_and, Bool.false_and] at hval; simp (maxSteps := 999999) (implicitDefEqProofs := false) (disch := omega) only [s16, z1j, ← eG, r0, x0, x1, x2, x3, x4, x5, x6, k40, s1, s2, s3, s4, s5, z5e, g_un, z3u, bz, z00, Nat.reduceEqDiff, Nat.reduceLT, Nat.reduceAdd])
      | (simp only [s1, s2, s3, s4, Bool.true_and, Bool.false_and] at hval; simp (maxSteps := 999999) (implicitDefEqProofs := false) (disch := omega) only [s16, z1j, ← eG, r0, x0, x1, x2, x3, x4, x5, x6, k40, s1, s2, s3, s4, z5e, g_un, z3u, bz, z00, Nat.reduceEqDiff, Nat.reduceLT, Nat.reduceAdd])
      | (simp only [s1, s2, s3, Bool.true_and, Bool.false_and] at hval; simp (maxSteps := 999999) (implicitDefEqProofs := false) (disch := omega) only [s16, z1j, ← eG, r0, x0, x1, x2, x3, x4, x5, x6, k40, s1, s2, s3, z5e, g_un, z3u, bz, z00, Nat.reduceEqDiff, Nat.reduceLT, Nat.reduceAdd])
      | (simp only [s1, s2, Bool.true_and, Bool.false_and] at hval; simp (maxSteps := 999999) (implicitDefEqProofs := false) (disch := omega) only [s16, z1j, ← eG, r0, x0, x1, x2, x3, x4, x5, x6, k40, s1, s2, z5e, g_un, z3u, bz, z00, Nat.reduceEqDiff, Nat.reduceLT, Nat.reduceAdd])
      | (simp only [s1, Bool.true_and, Bool.false_and] at hval; simp (maxSteps := 999999) (implicitDefEqProofs := false) (disch := omega) only [s16, z1j, ← eG, r0, x0, x1, x2, x3, x4, x5, x6, k40, s1, z5e, g_un, z3u, bz, z00, Nat.reduceEqDiff, Nat.reduceLT, Nat.reduceAdd])
    generalize hr : z14 _ _ _ _ _ = r
    obtain ⟨v1, H1, n1, rfl, hn1, hs1, a1, a3⟩ := zs3 hS (m := m - 1) (by omega) hb' r0 (by omega) (by show nx ≤ nx + 1; omega) rfl rfl rfl hr
    have hb1 := hb'.same hs1 hn1
    have r1 : rowL H1 nx = some b.cells := by rw [z0w hs1 (by omega)]; exact r0
    simp (maxSteps := 999999) (implicitDefEqProofs := false) (disch := omega) only [z1j, a1, a3, bz, z00, Nat.reduceEqDiff, Nat.reduceLT, Nat.reduceAdd]
    generalize hr : z14 _ _ _ _ _ = r
    obtain ⟨v2, H2, n2, rfl, hn2, hs2, d1, d3⟩ := zs1 hS (m := m - 1) (by omega) hb1 r1 (by omega) (by show nx ≤ n1; omega) (by simp only [pq, Nat.reduceEqDiff, a1]) (by simp only [pq, Nat.reduceEqDiff]; exact a3) (by simp only [pq, Nat.reduceEqDiff]) hr
    have hb2 := hb1.same hs2 hn2
    have r2 : rowL H2 nx = some b.cells := by rw [z0w hs2 (by omega)]; exact r1
    simp (maxSteps := 999999) (implicitDefEqProofs := false) (disch := omega) only [z1j, d1, d3, bz, z00, Nat.reduceEqDiff, Nat.reduceLT, Nat.reduceAdd]
    generalize hr : z14 _ _ _ _ _ = r
    obtain ⟨v3, rfl, w3⟩ := zs0 hS (m := m - 1) (by omega) hb2 r2 (by simp only [pq, Nat.reduceEqDiff, d1]) (by simp only [pq, Nat.reduceEqDiff]; exact d3) (by simp only [pq, Nat.reduceEqDiff]) (by simp only [pq, Nat.reduceEqDiff]) hr
    have w3' : v3 3 = some (.bool b.valid) := w3.trans (by rw [hval]; simp)
    rcases Bool.eq_false_or_eq_true b.valid with hv | hv
    · rw [hv] at w3'
      rw [hv, z27]
      simp (maxSteps := 999999) (implicitDefEqProofs := false) (disch := omega) only [w3', bz, z00, Nat.reduceEqDiff, Nat.reduceLT, Nat.reduceAdd]
      exact ⟨_, _, rfl⟩
    · rw [hv] at w3'
      rw [hv, z20]
      simp (maxSteps := 999999) (implicitDefEqProofs := false) (disch := omega) only [w3', bz, z00, Nat.reduceEqDiff, Nat.reduceLT, Nat.reduceAdd]
      exact ⟨_, _, rfl⟩)
theorem c56 {S : Kn} (hS : S.Only [22]) {m : Nat} (hm : 4 ≤ m) {b : Bk} {h : Hp} {nx : Nat} (hb : b.At h nx) (t : Bool) : z06 56 [.agg b.cells.toArray, .bool t] (z07 Tryz.prog vmL S m) h nx = .gen (vi (z2e b.valid t)) h nx [] := by
  refine fun56.ground (hS _ _ _ _ (by decide)) (by omega) rfl (by simp) ?_
  obtain ⟨G, eG⟩ : ∃ x, x = hset h nx (.cells b.cells none) := ⟨_, rfl⟩
  have hsm : Same nx h G := by rw [eG]; exact (Same.refl nx h).set (Nat.le_refl _) _
  have hb' := hb.same hsm (nx' := nx + 1) (by omega)
  have r0 : rowL G nx = some b.cells := by rw [eG]; exact z01 _ _
  have hp7 : z09 true 7 b.cells 0 = some (.agg b.cells.toArray) := rfl
  have k16 := c16 hS (m := m - 1) (by omega) hb'
  rcases Bool.eq_false_or_eq_true b.valid with hv | hv
  · rw [hv, z27] at k16
    rw [hv]
    cases t
    · rw [show z2e true false = 61 from rfl]
      simp (maxSteps := 999999) (implicitDefEqProofs := false) (disch := omega) only [s56, ← eG, r0, hp7, k16, zfg, g_un, show ((0 : Int) != 0) = false from rfl, bz, z00, Nat.reduceEqDiff, Nat.reduceLT, Nat.reduceAdd]
      exact ⟨_, _, rfl⟩
    · rw [z27]
      simp (maxSteps := 999999) (implicitDefEqProofs := false) (disch := omega) only [s56, ← eG, r0, hp7, k16, zfg, g_un, show ((0 : Int) != 0) = false from rfl, bz, z00, Nat.reduceEqDiff, Nat.reduceLT, Nat.reduceAdd]
      exact ⟨_, _, rfl⟩
  · rw [hv, z20] at k16
    rw [hv, z20]
    simp (maxSteps := 999999) (implicitDefEqProofs := false) (disch := omega) only [s56, ← eG, r0, hp7, k16, zfg, g_un, show ((60 : Int) != 0) = true from rfl, bz, z00, Nat.reduceEqDiff, Nat.reduceLT, Nat.reduceAdd]
    exact ⟨_, _, rfl⟩
theorem zuf {ih : Rec} {b : Bk} {p : Pa} {ns : List Nat} {z : Z} {vs : Vs} {h : Hp} {nx p2 p3 : Nat} (hF : b.Fine) (hb : b.At h nx) (hn : ∀ n, n ∈ ns → n < b.P.length) (hl : ns.length ≤ 1000) (hv : Lst h nx 1 p.v (ints (nsI ns))) (hr2 : rowL h p2 = some b.cells) (hp2 : p2 < nx) (hr3 : rowL h p3 = some p.cells) (hp3 : p3 < nx) (hz : z.n0 ≤ nx)
    (g2 : vs 2 = some (pt p2)) (g3 : vs 3 = some (pt p3)) (g5 : vs 5 = some (vi 0)) (g6 : vs 6 = some (vi 0)) (g7 : vs 7 = some (.bool false)) (g8 : vs 8 = some (vi 0)) {r : R} (hr : z14 (sC Tryz.prog 69 69 ih zm8) z vs h nx = r) :
    ∃ vs' h' nx', r = .exi 0 z vs' h' nx' ∧ nx ≤ nx' ∧ Same nx h h' ∧ vs' 2 = some (pt p2) ∧ vs' 3 = some (pt p3) ∧ vs' 5 = some (vi (sumN Pc.size b ns)) ∧ vs' 6 = some (vi (sumN Pc.weight b ns)) ∧ vs' 7 = some (.bool (zag b ns)) := by
  subst hr
  refine z0n (Post := fun r => ∃ vs' h' nx', r = .exi 0 z vs' h' nx' ∧ nx ≤ nx' ∧ Same nx h h' ∧ vs' 2 = some (pt p2) ∧ vs' 3 = some (pt p3) ∧ vs' 5 = some (vi (sumN Pc.size b ns)) ∧ vs' 6 = some (vi (sumN Pc.weight b ns)) ∧ vs' 7 = some (.bool (zag b ns)))
    (fun i z' vs' h' nx' => i ≤ ns.length ∧ z' = z ∧ nx ≤ nx' ∧ Same nx h h' ∧ vs' 2 = some (pt p2) ∧ vs' 3 = some (pt p3) ∧ vs' 5 = some (vi (sumN Pc.size b (ns.take i))) ∧ vs' 6 = some (vi (sumN Pc.weight b (ns.take i))) ∧ vs' 7 = some (.bool (zag b (ns.take i))) ∧ vs' 8 = some (vi (i : Int))) ns.length (by omega)
    ⟨Nat.zero_le _, rfl, Nat.le_refl _, Same.refl _ _, g2, g3, g5, g6, g7, g8⟩ ?_
  rintro i z' vs' h' nx' ⟨hi, rfl, hnx, hs, e2, e3, e5, e6, e7, e8⟩
  have hrow2 : rowL h' p2 = some b.cells := by rw [z0w hs hp2]; exact hr2
  have hrow3 : rowL h' p3 = some p.cells := by rw [z0w hs hp3]; exact hr3
  have hv' := hv.same hs hnx
  obtain ⟨va, vc, hpv0, _⟩ := hv.form
  rw [z1x, z46] at hpv0
  have y1 : z09 false 1 p.cells 1 = some p.v := rfl
  rw [hpv0] at y1
  by_cases hlt : i < ns.length
  · left
    have h1 : ((i : Int) < (ns.length : Int)) := by omega
    obtain ⟨rr, o, cs, c, hv2, hcs, hrn, hel⟩ := z99 hv' (i := i) (by rw [z46]; exact hlt)
    rw [zlm hlt] at hel
    rw [z46, hpv0] at hv2
    cases hv2
    have hk := hn _ (List.getElem_mem hlt)
    have hpx := za4 hk
    obtain ⟨r2, o2, cs2, c2, hpv, hcs2, hrn2, hel2, _, _⟩ := (hb.same hs hnx).piece hk
    have hpc := hF.pc (List.getElem_mem hk)
    have hss := z7j Pc.size b hlt
    have hsw := z7j Pc.weight b hlt
    have hrs := zki hF (ns := ns.take i) (fun n h => hn n (List.mem_of_mem_take h))
    have hrw := z6y hF (ns := ns.take i) (fun n h => hn n (List.mem_of_mem_take h))
    have hle : (ns.take i).length ≤ 1000 := by rw [List.length_take]; omega
    have hlo := zly b hlt
    rw [hpx] at hss hsw hlo
    have hpp : z09 false 1 b.cells 0 = some b.pv := rfl
    rw [hpv] at hpp
    generalize b.P[ns[i]] = x at *
    have hrwx : x.row = [vi x.size, vi x.weight, vi x.worth, .bool x.alone] := rfl
    rw [hrwx] at hel2
    rcases Bool.eq_false_or_eq_true (zag b (ns.take i)) with ha | ha <;> rw [ha] at e7 hlo
    all_goals (
      refine ⟨hlt, z', _, _, _, (by simp (maxSteps := 999999) (implicitDefEqProofs := false) (disch := omega) only [zm8, zsd, zsg, e2, e3, e5, e6, e7, e8, h1, hrow2, hrow3, y1, hcs, hel, hpp, hcs2, hel2, g_un, z3u, bz, z00, Nat.reduceEqDiff, Nat.reduceLT, Nat.reduceAdd]; exact rfl), by omega, rfl, ?_, ?_, ?_, ?_, ?_, ?_, ?_, ?_⟩
      rotate_left 1
      · exact (hs.set hnx _).set hnx _
      · simp only [pq, Nat.reduceEqDiff, e2]
      · simp only [pq, Nat.reduceEqDiff, e3]
      · rw [hss]; simp only [pq, Nat.reduceEqDiff]
      · rw [hsw]; simp only [pq, Nat.reduceEqDiff]
      · rw [hlo]; simp only [pq, Nat.reduceEqDiff, Bool.true_or, Bool.false_or]
      · simp only [pq, Nat.reduceEqDiff]; rfl
      · omega)
  · right
    have h1 : ¬ ((i : Int) < (ns.length : Int)) := by omega
    have e : ∃ vs2, sC Tryz.prog 69 69 ih zm8 z' vs' h' nx' = .exi 0 z' vs2 h' nx' ∧ vs2 2 = vs' 2 ∧ vs2 3 = vs' 3 ∧ vs2 5 = vs' 5 ∧ vs2 6 = vs' 6 ∧ vs2 7 = vs' 7 := by
      refine ⟨_, by simp (maxSteps := 999999) (implicitDefEqProofs := false) (disch := omega) only [zm8, e2, e3, e8, h1, hrow3, y1, bz, z00, Nat.reduceEqDiff, Nat.reduceLT, Nat.reduceAdd]; exact rfl, ?_, ?_, ?_, ?_, ?_⟩ <;> simp only [pg, Nat.reduceEqDiff]
    obtain ⟨vs2, e, q2, q3, q5, q6, q7⟩ := e
    rw [e]
    have hil : i = ns.length := by omega
    subst hil
    rw [List.take_length] at e5 e6 e7
    exact ⟨trivial, vs2, h', nx', rfl, hnx, hs, q2.trans e2, q3.trans e3, q5.trans e5, q6.trans e6, q7.trans e7⟩
theorem c58 {S : Kn} (hS : S.Only [22]) {m : Nat} (hm : 1 ≤ m) {b : Bk} {h : Hp} {nx : Nat} (hF : b.Fine) (hb : b.At h nx) {kind : Nat} (hk : kind < b.K.length) {ns : List Nat} (hn : ∀ n, n ∈ ns → n < b.P.length) (hl : ns.length ≤ 1000) (hne : ns ≠ []) {v : Value} (hv : Lst h nx 1 v (ints (nsI ns))) :
    z06 58 [.agg b.cells.toArray, .agg #[vi kind, v]] (z07 Tryz.prog vmL S m) h nx = .gen (.bool (z5n b b.K[kind] ns)) h nx [] := by
  refine fun58.ground (hS _ _ _ _ (by decide)) (by omega) rfl (by simp) ?_
  obtain ⟨p, ep⟩ : ∃ p : Pa, p = ⟨kind, nsI ns, v⟩ := ⟨_, rfl⟩
  have hpc : p.cells = [vi kind, v] := by rw [ep]; rfl
  obtain ⟨G, eG⟩ : ∃ x, x = hset (hset h nx (.cells b.cells none)) (nx + 1) (.cells [vi kind, v] none) := ⟨_, rfl⟩
  have hsm : Same nx h G := by rw [eG]; exact ((Same.refl nx h).set (Nat.le_refl _) _).set (by omega) _
  have hb' := hb.same hsm (nx' := nx + 1 + 1) (by omega)
  have hv' := hv.same hsm (nx' := nx + 1 + 1) (by omega)
  have r0 : rowL G nx = some b.cells := by rw [eG, z0a _ (by omega)]; exact z01 _ _
  have r1 : rowL G (nx + 1) = some [vi kind, v] := by rw [eG]; exact z01 _ _
  have hF2 := hF
  simp (maxSteps := 999999) (implicitDefEqProofs := false) (disch := omega) only [s58, z1j, ← eG, bz, z00, Nat.reduceEqDiff, Nat.reduceLT, Nat.reduceAdd]
  generalize hr : z14 _ _ _ _ _ = r
  obtain ⟨vs', h', nx', rfl, hnx, hs, q2, q3, q5, q6, q7⟩ := zuf (p := p) (ns := ns) hF hb' hn hl (by rw [ep]; exact hv') r0 (by omega) (by rw [hpc]; exact r1) (by omega) (by show nx ≤ nx + 1 + 1; omega) rfl rfl rfl rfl rfl rfl hr
  have r0' : rowL h' nx = some b.cells := by rw [z0w hs (by omega)]; exact r0
  have r1' : rowL h' (nx + 1) = some [vi kind, v] := by rw [z0w hs (by omega)]; exact r1
  obtain ⟨va, vc, hv0, _⟩ := hv.form
  rw [z1x, z46] at hv0
  subst hv0
  have hpk : z09 false 1 b.cells 1 = some b.kv := rfl
  obtain ⟨rr, o, cs, c, hkv, hcs, hrn, k0, k1, _, _⟩ := (hb'.same hs hnx).kind hk
  rw [hkv] at hpk
  have hlen : 0 < ns.length := List.length_pos_iff.2 hne
  unfold z5n
  generalize sumN Pc.size b ns = A at *
  generalize sumN Pc.weight b ns = B at *
  generalize zag b ns = L at *
  generalize b.K[kind].room = R1 at *
  generalize b.K[kind].most = R2 at *
  cases L <;> by_cases c1 : A ≤ R1 <;> by_cases c2 : B ≤ R2 <;> by_cases c3 : ns.length = 1
  all_goals (
    have c3' : ((ns.length : Int) == 1) = decide ((ns.length : Int) = 1) := rfl
    first | rw [decide_eq_true (show (ns.length : Int) = 1 by omega)] at c3' | rw [decide_eq_false (show ¬ (ns.length : Int) = 1 by omega)] at c3'
    first | rw [decide_eq_true (show 1 < ns.length by omega)] | rw [decide_eq_false (show ¬ 1 < ns.length by omega)]
    simp (maxSteps := 999999) (implicitDefEqProofs := false) (disch := omega) only [q2, q3, q5, q6, q7, r0', r1', hpk, hcs, k0, k1, c1, c2, c3', g_un, bz, z00, Nat.reduceEqDiff, Nat.reduceLT, Nat.reduceAdd]
    exact ⟨_, _, rfl⟩)
theorem zuc {ih : Rec} {b : Bk} {ns : List Nat} {z : Z} {vs : Vs} {h : Hp} {nx p2 : Nat} {v : Value} (hF : b.Fine) (hb : b.At h nx) (hn : ∀ n, n ∈ ns → n < b.P.length) (hl : ns.length ≤ 1000) (hv : Lst h nx 1 v (ints (nsI ns))) (hr2 : rowL h p2 = some b.cells)
    (g1 : vs 1 = some v) (g2 : vs 2 = some (pt p2)) (g5 : vs 5 = some (vi 0)) (g6 : vs 6 = some (vi 0)) {r : R} (hr : z14 (sC Tryz.prog 25 25 ih zm6) z vs h nx = r) :
    ∃ vs', r = .exi 0 z vs' h nx ∧ vs' 5 = some (vi (sumN Pc.worth b ns)) := by
  subst hr
  refine z0n (Post := fun r => ∃ vs', r = .exi 0 z vs' h nx ∧ vs' 5 = some (vi (sumN Pc.worth b ns)))
    (fun i z' vs' h' nx' => i ≤ ns.length ∧ z' = z ∧ nx' = nx ∧ h' = h ∧ vs' 1 = some v ∧ vs' 2 = some (pt p2) ∧ vs' 5 = some (vi (sumN Pc.worth b (ns.take i))) ∧ vs' 6 = some (vi (i : Int))) ns.length (by omega)
    ⟨Nat.zero_le _, rfl, rfl, rfl, g1, g2, g5, g6⟩ ?_
  rintro i z' vs' h' nx' ⟨hi, rfl, rfl, rfl, e1, e2, e5, e6⟩
  obtain ⟨va, vc, hv0, _⟩ := hv.form
  rw [z1x, z46] at hv0
  subst hv0
  by_cases hlt : i < ns.length
  · left
    have h1 : ((i : Int) < (ns.length : Int)) := by omega
    obtain ⟨rr, o, cs, c, hv2, hcs, hrn, hel⟩ := z99 hv (i := i) (by rw [z46]; exact hlt)
    rw [zlm hlt] at hel
    rw [z46] at hv2
    cases hv2
    have hk := hn _ (List.getElem_mem hlt)
    have hpx := za4 hk
    obtain ⟨r2, o2, cs2, c2, hpv, hcs2, hrn2, _, _, hseg⟩ := hb.piece hk
    have hpc := hF.pc (List.getElem_mem hk)
    have hss := z7j Pc.worth b hlt
    have hrs := zc1 hF (ns := ns.take i) (fun n h => hn n (List.mem_of_mem_take h))
    have hle : (ns.take i).length ≤ 1000 := by rw [List.length_take]; omega
    rw [hpx] at hss
    have hpp : z09 false 1 b.cells 0 = some b.pv := rfl
    rw [hpv] at hpp
    have k2 := zc3 (j := 2) (x := vi b.P[ns[i]].worth) hseg rfl (by omega)
    generalize b.P[ns[i]] = x at *
    refine ⟨hlt, z', _, _, _, (by simp (maxSteps := 999999) (implicitDefEqProofs := false) (disch := omega) only [zm6, zsi, e1, e2, e5, e6, h1, hr2, hcs, hel, hpp, hcs2, k2, g_un, z3u, bz, z00, Nat.reduceEqDiff, Nat.reduceLT, Nat.reduceAdd]; exact rfl), by omega, rfl, rfl, rfl, ?_, ?_, ?_, ?_⟩
    · simp only [pq, Nat.reduceEqDiff, e1]
    · simp only [pq, Nat.reduceEqDiff, e2]
    · rw [hss]; simp only [pq, Nat.reduceEqDiff]
    · simp only [pq, Nat.reduceEqDiff]; rfl
  · right
    have h1 : ¬ ((i : Int) < (ns.length : Int)) := by omega
    have e : ∃ vs2, sC Tryz.prog 25 25 ih zm6 z' vs' h' nx' = .exi 0 z' vs2 h' nx' ∧ vs2 5 = vs' 5 := by
      refine ⟨_, by simp (maxSteps := 999999) (implicitDefEqProofs := false) (disch := omega) only [zm6, e1, e2, e6, h1, bz, z00, Nat.reduceEqDiff, Nat.reduceLT, Nat.reduceAdd]; exact rfl, ?_⟩
      simp only [pg, Nat.reduceEqDiff]
    obtain ⟨vs2, e, q5⟩ := e
    rw [e]
    have hil : i = ns.length := by omega
    subst hil
    rw [List.take_length] at e5
    exact ⟨trivial, vs2, rfl, q5.trans e5⟩
theorem c77 {S : Kn} (hS : S.Only [22]) {m : Nat} (hm : 1 ≤ m) {b : Bk} {h : Hp} {nx : Nat} (hF : b.Fine) (hb : b.At h nx) {ns : List Nat} (hn : ∀ n, n ∈ ns → n < b.P.length) (hl : ns.length ≤ 1000) {v : Value} (hv : Lst h nx 1 v (ints (nsI ns))) :
    z06 77 [.agg b.cells.toArray, v] (z07 Tryz.prog vmL S m) h nx = .gen (vi (sumN Pc.worth b ns)) h nx [] := by
  refine fun77.ground (hS _ _ _ _ (by decide)) (by omega) rfl (by simp) ?_
  have hsm : Same nx h (hset h nx (.cells b.cells none)) := (Same.refl nx h).set (Nat.le_refl _) _
  simp (maxSteps := 999999) (implicitDefEqProofs := false) (disch := omega) only [s77, z1j, bz, z00, Nat.reduceEqDiff, Nat.reduceLT, Nat.reduceAdd]
  generalize hr : z14 _ _ _ _ _ = r
  obtain ⟨vs', rfl, q5⟩ := zuc (ns := ns) (v := v) hF (hb.same hsm (nx' := nx + 1) (by omega)) hn hl (hv.same hsm (by omega)) (z01 _ _) rfl rfl rfl rfl hr
  simp (maxSteps := 999999) (implicitDefEqProofs := false) (disch := omega) only [q5, bz, z00, Nat.reduceEqDiff, Nat.reduceLT, Nat.reduceAdd]
  exact ⟨_, _, rfl⟩
theorem zue {ih : Rec} {b : Bk} {p : Pa} {ns : List Nat} {z : Z} {vs : Vs} {h : Hp} {nx p3 p4 : Nat} (hF : b.Fine) (hb : b.At h nx) (hn : ∀ n, n ∈ ns → n < b.P.length) (hl : ns.length ≤ 1000) (hv : Lst h nx 1 p.v (ints (nsI ns))) (hr3 : rowL h p3 = some b.cells) (hr4 : rowL h p4 = some p.cells)
    (g3 : vs 3 = some (pt p3)) (g4 : vs 4 = some (pt p4)) (g7 : vs 7 = some (vi 0)) (g8 : vs 8 = some (vi 0)) {r : R} (hr : z14 (sC Tryz.prog 75 75 ih zm7) z vs h nx = r) :
    ∃ vs', r = .exi 0 z vs' h nx ∧ vs' 2 = vs 2 ∧ vs' 3 = some (pt p3) ∧ vs' 4 = some (pt p4) ∧ vs' 7 = some (vi (sumN Pc.weight b ns)) := by
  subst hr
  refine z0n (Post := fun r => ∃ vs', r = .exi 0 z vs' h nx ∧ vs' 2 = vs 2 ∧ vs' 3 = some (pt p3) ∧ vs' 4 = some (pt p4) ∧ vs' 7 = some (vi (sumN Pc.weight b ns)))
    (fun i z' vs' h' nx' => i ≤ ns.length ∧ z' = z ∧ nx' = nx ∧ h' = h ∧ vs' 2 = vs 2 ∧ vs' 3 = some (pt p3) ∧ vs' 4 = some (pt p4) ∧ vs' 7 = some (vi (sumN Pc.weight b (ns.take i))) ∧ vs' 8 = some (vi (i : Int))) ns.length (by omega)
    ⟨Nat.zero_le _, rfl, rfl, rfl, rfl, g3, g4, g7, g8⟩ ?_
  rintro i z' vs' h' nx' ⟨hi, rfl, rfl, rfl, e2, e3, e4, e7, e8⟩
  obtain ⟨va, vc, hv0, _⟩ := hv.form
  rw [z1x, z46] at hv0
  have y1 : z09 false 1 p.cells 1 = some p.v := rfl
  rw [hv0] at y1
  by_cases hlt : i < ns.length
  · left
    have h1 : ((i : Int) < (ns.length : Int)) := by omega
    obtain ⟨rr, o, cs, c, hv2, hcs, hrn, hel⟩ := z99 hv (i := i) (by rw [z46]; exact hlt)
    rw [zlm hlt] at hel
    rw [z46, hv0] at hv2
    cases hv2
    have hk := hn _ (List.getElem_mem hlt)
    have hpx := za4 hk
    obtain ⟨r2, o2, cs2, c2, hpv, hcs2, hrn2, _, _, hseg⟩ := hb.piece hk
    have hpc := hF.pc (List.getElem_mem hk)
    have hss := z7j Pc.weight b hlt
    have hrs := z6y hF (ns := ns.take i) (fun n h => hn n (List.mem_of_mem_take h))
    have hle : (ns.take i).length ≤ 1000 := by rw [List.length_take]; omega
    rw [hpx] at hss
    have hpp : z09 false 1 b.cells 0 = some b.pv := rfl
    rw [hpv] at hpp
    have k1 := zc3 (j := 1) (x := vi b.P[ns[i]].weight) hseg rfl (by omega)
    generalize b.P[ns[i]] = x at *
    refine ⟨hlt, z', _, _, _, (by simp (maxSteps := 999999) (implicitDefEqProofs := false) (disch := omega) only [zm7, zsh, e3, e4, e7, e8, h1, hr3, hr4, y1, hcs, hel, hpp, hcs2, k1, g_un, z3u, bz, z00, Nat.reduceEqDiff, Nat.reduceLT, Nat.reduceAdd]; exact rfl), by omega, rfl, rfl, rfl, ?_, ?_, ?_, ?_, ?_⟩
    · simp only [pq, Nat.reduceEqDiff, e2]
    · simp only [pq, Nat.reduceEqDiff, e3]
    · simp only [pq, Nat.reduceEqDiff, e4]
    · rw [hss]; simp only [pq, Nat.reduceEqDiff]
    · simp only [pq, Nat.reduceEqDiff]; rfl
  · right
    have h1 : ¬ ((i : Int) < (ns.length : Int)) := by omega
    have e : ∃ vs2, sC Tryz.prog 75 75 ih zm7 z' vs' h' nx' = .exi 0 z' vs2 h' nx' ∧ vs2 2 = vs' 2 ∧ vs2 3 = vs' 3 ∧ vs2 4 = vs' 4 ∧ vs2 7 = vs' 7 := by
      refine ⟨_, by simp (maxSteps := 999999) (implicitDefEqProofs := false) (disch := omega) only [zm7, e4, e8, h1, hr4, y1, bz, z00, Nat.reduceEqDiff, Nat.reduceLT, Nat.reduceAdd]; exact rfl, ?_, ?_, ?_, ?_⟩ <;> simp only [pg, Nat.reduceEqDiff]
    obtain ⟨vs2, e, q2, q3, q4, q7⟩ := e
    rw [e]
    have hil : i = ns.length := by omega
    subst hil
    rw [List.take_length] at e7
    exact ⟨trivial, vs2, rfl, q2.trans e2, q3.trans e3, q4.trans e4, q7.trans e7⟩
theorem zu9 {s t : Int} (h0 : 0 ≤ s) (h1 : s ≤ 1000) (t0 : -1000000000001 ≤ t) (t1 : t ≤ 1000000000001) : -1000000000001000 ≤ s * t ∧ s * t ≤ 1000000000001000 := by
  have a1 : s * t ≤ s * 1000000000001 := Int.mul_le_mul_of_nonneg_left t1 h0
  have a2 : s * (-1000000000001) ≤ s * t := Int.mul_le_mul_of_nonneg_left t0 h0
  omega
theorem c61 {S : Kn} (hS : S.Only [22]) {m : Nat} (hm : 5 ≤ m) {b : Bk} {h : Hp} {nx : Nat} (hF : b.Fine) (hb : b.At h nx) {kind : Nat} (hk : kind < b.K.length) {ns : List Nat} (hn : ∀ n, n ∈ ns → n < b.P.length) (hl : ns.length ≤ 1000) {v : Value} (hv : Lst h nx 1 v (ints (nsI ns))) {zone : Nat} (hz : zone < 5) :
    z06 61 [.agg b.cells.toArray, .agg #[vi kind, v], vi zone] (z07 Tryz.prog vmL S m) h nx = .gen (vi (zg0 b b.K[kind] ns zone)) h nx [] := by
  refine fun61.ground (hS _ _ _ _ (by decide)) (by omega) rfl (by simp) ?_
  obtain ⟨p, ep⟩ : ∃ p : Pa, p = ⟨kind, nsI ns, v⟩ := ⟨_, rfl⟩
  have hpc : p.cells = [vi kind, v] := by rw [ep]; rfl
  obtain ⟨G, eG⟩ : ∃ x, x = hset (hset h nx (.cells b.cells none)) (nx + 1) (.cells [vi kind, v] none) := ⟨_, rfl⟩
  have hsm : Same nx h G := by rw [eG]; exact ((Same.refl nx h).set (Nat.le_refl _) _).set (by omega) _
  have hb' := hb.same hsm (nx' := nx + 1 + 1) (by omega)
  have hv' := hv.same hsm (nx' := nx + 1 + 1) (by omega)
  have r0 : rowL G nx = some b.cells := by rw [eG, z0a _ (by omega)]; exact z01 _ _
  have r1 : rowL G (nx + 1) = some [vi kind, v] := by rw [eG]; exact z01 _ _
  simp (maxSteps := 999999) (implicitDefEqProofs := false) (disch := omega) only [s61, z1j, ← eG, bz, z00, Nat.reduceEqDiff, Nat.reduceLT, Nat.reduceAdd]
  generalize hr : z14 _ _ _ _ _ = r
  obtain ⟨vs', rfl, q2, q3, q4, q7⟩ := zue (p := p) (ns := ns) hF hb' hn hl (by rw [ep]; exact hv') r0 (by rw [hpc]; exact r1) rfl rfl rfl rfl hr
  have q2' : vs' 2 = some (vi (zone : Int)) := q2.trans rfl
  have k77 := c77 hS (m := m - 1) (by omega) hF hb' hn hl hv'
  obtain ⟨rr, o, cs, c, hkv, hcs, hrn, _, _, k2, k3⟩ := hb'.kind hk
  have hpk : z09 false 1 b.cells 1 = some b.kv := rfl
  rw [hkv] at hpk
  have x2 : z09 false 1 b.cells 2 = some (vi b.grams) := rfl
  have x3 : z09 false 1 b.cells 3 = some (vi b.free) := rfl
  have x4 : z09 false 1 b.cells 4 = some (vi b.unit) := rfl
  have x5 : z09 false 1 b.cells 5 = some (vi b.fee) := rfl
  have hp7 : z09 true 7 b.cells 0 = some (.agg b.cells.toArray) := rfl
  have hkf := hF.kind hk
  have hzl : zone < b.K[kind].zs.length := by rw [hkf.z]; exact hz
  obtain ⟨rz, oz, csz, cz, hzv, hcsz, hrnz, hez⟩ := z99 (hb'.z b.K[kind] (List.getElem_mem hk)) hzl
  rw [hzv] at k2
  have hzb := hkf.zo _ (List.getElem_mem hzl)
  have hzd : b.K[kind].zs.getD zone 0 = b.K[kind].zs[zone] := by rw [List.getD_eq_getElem?_getD, List.getElem?_eq_getElem hzl]; rfl
  have hz5 : (zone : Int) < (b.K[kind].zs.length : Int) := by omega
  have hw := z6y hF hn
  have hwo := zc1 hF hn
  have st1 := hkf.s1
  have st2 := hkf.s2
  have G1 := hF.g1
  have G2 := hF.g2
  have F1 := hF.f1
  have F2 := hF.f2
  have U1 := hF.u1
  have U2 := hF.u2
  have E1 := hF.e1
  have E2 := hF.e2
  have k48a := c48 hS (m := m - 1) (h := G) (nx := nx + 1 + 1) (by omega) (sumN Pc.weight b ns) b.grams G1 (by omega) (by omega) (by omega)
  rw [zl2 _ _ G1] at k48a
  obtain ⟨b1, b2⟩ := zo4 G1 (n := sumN Pc.weight b ns + b.grams - 1) (by omega) (by omega)
  obtain ⟨O1, eO1⟩ : ∃ x, (sumN Pc.weight b ns + b.grams - 1) / b.grams = x := ⟨_, rfl⟩
  rw [eO1] at k48a b1 b2
  obtain ⟨T1, eT1⟩ : ∃ x, b.K[kind].step * (O1 - 1) = x := ⟨_, rfl⟩
  have t1 := zu9 st1 st2 (t := O1 - 1) (by omega) (by omega)
  rw [eT1] at t1
  unfold zg0
  rw [hzd, eO1, eT1]
  generalize b.K[kind].zs[zone] = c0 at *
  generalize b.K[kind].step = st at *
  generalize sumN Pc.weight b ns = W at *
  generalize sumN Pc.worth b ns = V at *
  by_cases hw : b.free < V
  · have k48b := c48 hS (m := m - 1) (h := G) (nx := nx + 1 + 1) (by omega) (V - b.free) b.unit U1 (by omega) (by omega) (by omega)
    rw [zl2 _ _ U1] at k48b
    obtain ⟨d1, d2⟩ := zo4 U1 (n := V - b.free + b.unit - 1) (by omega) (by omega)
    rw [show max 0 (V - b.free) = V - b.free by omega]
    obtain ⟨O2, eO2⟩ : ∃ x, (V - b.free + b.unit - 1) / b.unit = x := ⟨_, rfl⟩
    rw [eO2] at k48b d1 d2 ⊢
    obtain ⟨T2, eT2⟩ : ∃ x, b.fee * O2 = x := ⟨_, rfl⟩
    have t2 := zu9 E1 E2 (t := O2) (by omega) (by omega)
    rw [eT2] at t2 ⊢
    simp (maxSteps := 999999) (implicitDefEqProofs := false) (disch := omega) only [zob, lok8, q2', q3, q4, q7, r0, r1, hp7, hpk, hcs, k2, k3, hcsz, hez, x2, x3, x4, x5, k48a, k48b, k77, eT1, eT2, gt_iff_lt, hw, zok, zoj, g_un, z3u, bz, z00, Nat.reduceEqDiff, Nat.reduceLT, Nat.reduceAdd]
    exact ⟨_, _, rfl⟩
  · have e0 : (max 0 (V - b.free) + b.unit - 1) / b.unit = 0 := by
      rw [show max 0 (V - b.free) = 0 by omega]
      exact Int.ediv_eq_zero_of_lt (by omega) (by omega)
    rw [e0, Int.mul_zero, Int.add_zero]
    simp (maxSteps := 999999) (implicitDefEqProofs := false) (disch := omega) only [zob, lok8, q2', q3, q4, q7, r0, r1, hp7, hpk, hcs, k2, k3, hcsz, hez, x2, x3, x4, x5, k48a, k77, eT1, gt_iff_lt, hw, zok, zoj, g_un, z3u, bz, z00, Nat.reduceEqDiff, Nat.reduceLT, Nat.reduceAdd]
    exact ⟨_, _, rfl⟩
theorem zgm : ∀ (m s : Nat) (zs : List Int), z13 s ((s : Int) + m - 1) zs = true → (List.range' s m).filter (fun k : Nat => decide ((k : Int) ∈ zs)) = z3n zs := by
  intro m
  induction m with
  | zero =>
    intro s zs h
    cases zs with
    | nil => rfl
    | cons x l =>
      have := z4e h x List.mem_cons_self
      omega
  | succ m ih =>
    intro s zs h
    rw [List.range'_succ]
    cases zs with
    | nil => simp [z3n]
    | cons x l =>
      have hx := z4e h x List.mem_cons_self
      simp only [z13, Bool.and_eq_true] at h
      have hl := z4e h.2
      by_cases hxs : x = s
      · subst hxs
        rw [List.filter_cons_of_pos (by simp)]
        have := ih (s + 1) l (by
          have e : ((s + 1 : Nat) : Int) + m - 1 = (s : Int) + (m + 1 : Nat) - 1 := by omega
          rw [e]
          exact h.2)
        have hf : (List.range' (s + 1) m).filter (fun k : Nat => decide ((k : Int) ∈ (s : Int) :: l)) = (List.range' (s + 1) m).filter (fun k : Nat => decide ((k : Int) ∈ l)) := by
          refine List.filter_congr fun k hk => ?_
          have hk2 := List.mem_range'_1.1 hk
          refine decide_eq_decide.2 ⟨fun q => ?_, fun q => List.mem_cons_of_mem _ q⟩
          rcases List.mem_cons.1 q with q | q
          · omega
          · exact q
        rw [hf, this]
        simp [z3n]
      · rw [List.filter_cons_of_neg (by
          simp only [decide_eq_true_eq]
          intro q
          rcases List.mem_cons.1 q with q | q
          · exact hxs q.symm
          · have := hl _ q; omega)]
        refine ih (s + 1) (x :: l) ?_
        simp only [z13, Bool.and_eq_true]
        have e : ((s + 1 : Nat) : Int) + m - 1 = (s : Int) + (m + 1 : Nat) - 1 := by omega
        rw [e]
        refine ⟨?_, h.2⟩
        unfold inB; simp; omega
theorem zty {b : Bk} {p : Pa} (h : isQ b p = true) : ∃ kind : Nat, ∃ hk : kind < b.K.length, p.kind = kind ∧ nsI (z3n p.zs) = p.zs ∧ z3n p.zs ≠ [] ∧ (∀ n, n ∈ z3n p.zs → n < b.P.length) ∧ p.zs.length ≤ b.P.length ∧ fitQ b p = z5n b b.K[kind] (z3n p.zs) ∧ ∀ zone, zjf b p zone = zg0 b b.K[kind] (z3n p.zs) zone := by
  have hkk := zdm h
  unfold isQ at h
  simp only [Bool.and_eq_true] at h
  obtain ⟨_, h2, h3⟩ := h
  obtain ⟨kind, hkind⟩ : ∃ k : Nat, p.kind = (k : Int) := ⟨p.kind.toNat, by omega⟩
  have hk : kind < b.K.length := by omega
  have hmem := z4e h2
  have hlen := zg1 h2
  have hns := zi3 (zs := p.zs) (fun x hx => (hmem x hx).1)
  have hne : z3n p.zs ≠ [] := by
    intro q
    have : p.zs = [] := by rw [← hns, q]; rfl
    rw [this] at h3; simp at h3
  have hlt : ∀ n, n ∈ z3n p.zs → n < b.P.length := by
    intro n hn
    obtain ⟨x, hx, rfl⟩ := List.mem_map.1 hn
    have := hmem x hx
    omega
  have hset : nsF (setQ p).testBit b.P.length = z3n p.zs := by
    unfold nsF setQ
    rw [List.range_eq_range', ← zgm b.P.length 0 p.zs (by
      have e : ((0 : Nat) : Int) + b.P.length - 1 = (b.P.length : Int) - 1 := by omega
      rw [e]; exact h2)]
    refine List.filter_congr fun k hk => ?_
    rw [zda]
    refine decide_eq_decide.2 ⟨fun q => ?_, fun q => ?_⟩
    · rw [← hns]; exact List.mem_map.2 ⟨k, by rwa [zgm] at q; exact (by
        have e : ((0 : Nat) : Int) + b.P.length - 1 = (b.P.length : Int) - 1 := by omega
        rw [e]; exact h2), rfl⟩
    · have : k ∈ z3n p.zs := List.mem_map.2 ⟨(k : Int), q, by simp⟩
      rw [zgm]
      · exact this
      · have e : ((0 : Nat) : Int) + b.P.length - 1 = (b.P.length : Int) - 1 := by omega
        rw [e]; exact h2
  refine ⟨kind, hk, hkind, hns, hne, hlt, by omega, ?_, fun zone => ?_⟩
  · unfold fitQ
    rw [hkind, Int.toNat_natCast, List.getElem?_eq_getElem hk]
    simp only
    rw [zms b _ _ (by rw [hset]; exact hne), hset]
  · unfold zjf
    rw [hkind, Int.toNat_natCast, List.getElem?_eq_getElem hk]
    simp only
    rw [zt5, hset]
theorem c14 {S : Kn} (hS : S.Only [22]) {m : Nat} (hm : 6 ≤ m) {b : Bk} {h : Hp} {nx : Nat} (hb : b.At h nx) {p : Pa} (hp : p.At h nx) : z06 14 [.agg b.cells.toArray, .agg p.cells.toArray] (z07 Tryz.prog vmL S m) h nx = .gen (.tuple #[.bool (b.valid && (isQ b p && fitQ b p)), vi (z2e b.valid (isQ b p))]) h nx [] := by
  refine fun14.ground (hS _ _ _ _ (by decide)) (by omega) rfl (by simp) ?_
  obtain ⟨G, eG⟩ : ∃ x, x = hset (hset h nx (.cells b.cells none)) (nx + 1) (.cells p.cells none) := ⟨_, rfl⟩
  have hsm : Same nx h G := by rw [eG]; exact ((Same.refl nx h).set (Nat.le_refl _) _).set (by omega) _
  have hb' := hb.same hsm (nx' := nx + 1 + 1) (by omega)
  have hp' := hp.same hsm (nx' := nx + 1 + 1) (by omega)
  have r0 : rowL G nx = some b.cells := by rw [eG, z0a _ (by omega)]; exact z01 _ _
  have r1 : rowL G (nx + 1) = some p.cells := by rw [eG]; exact z01 _ _
  have hp7 : z09 true 7 b.cells 0 = some (.agg b.cells.toArray) := rfl
  have hp2 : z09 true 2 p.cells 0 = some (.agg p.cells.toArray) := rfl
  have k57 := c57 hS (m := m - 1) (by omega) hb' hp'
  have k56 := c56 hS (m := m - 1) (by omega) hb' (isQ b p)
  rcases Bool.eq_false_or_eq_true b.valid with hv | hv
  · rcases Bool.eq_false_or_eq_true (isQ b p) with hq | hq
    · obtain ⟨kind, hk, e1, e2, e3, e4, e5, e6, _⟩ := zty hq
      have hF := Bk.fine hv
      have hp7' := hF.p7
      have hpc : p.cells.toArray = #[vi (kind : Int), p.v] := by unfold Pa.cells; rw [e1]
      have k58 := c58 hS (m := m - 1) (by omega) hF hb' hk e4 (by unfold z3n; rw [List.length_map]; omega) e3 (v := p.v) (by rw [e2]; exact hp'.l)
      rw [← hpc] at k58
      rw [hq] at k57 k56
      rw [hv] at k56
      rw [hv, hq, e6]
      rw [z27] at k56 ⊢
      simp (maxSteps := 999999) (implicitDefEqProofs := false) (disch := omega) only [s14, lok6, ← eG, r0, r1, hp7, hp2, k57, k56, k58, zbv, zbw, zmo, g_un, show ((0 : Int) != 0) = false from rfl, bz, z00, Nat.reduceEqDiff, Nat.reduceLT, Nat.reduceAdd]
      exact ⟨_, _, rfl⟩
    · rw [hq] at k57 k56
      rw [hv] at k56
      rw [hv, hq]
      rw [show z2e true false = 61 from rfl] at k56 ⊢
      simp (maxSteps := 999999) (implicitDefEqProofs := false) (disch := omega) only [s14, lok6, ← eG, r0, r1, hp7, hp2, k57, k56, zbv, zbw, g_un, show ((61 : Int) != 0) = true from rfl, bz, z00, Nat.reduceEqDiff, Nat.reduceLT, Nat.reduceAdd]
      exact ⟨_, _, rfl⟩
  · rw [hv, z20] at k56
    rw [hv, z20]
    simp (maxSteps := 999999) (implicitDefEqProofs := false) (disch := omega) only [s14, lok6, ← eG, r0, r1, hp7, hp2, k57, k56, zbv, zbw, g_un, show ((60 : Int) != 0) = true from rfl, bz, z00, Nat.reduceEqDiff, Nat.reduceLT, Nat.reduceAdd]
    exact ⟨_, _, rfl⟩
theorem c18 {S : Kn} (hS : S.Only [22]) {m : Nat} (hm : 7 ≤ m) {b : Bk} {h : Hp} {nx : Nat} (hb : b.At h nx) {p : Pa} (hp : p.At h nx) (zone : Int) : z06 18 [.agg b.cells.toArray, .agg p.cells.toArray, vi zone] (z07 Tryz.prog vmL S m) h nx = .gen (.tuple #[vi (zkw b p zone), vi (zkx b p zone)]) h nx [] := by
  refine fun18.ground (hS _ _ _ _ (by decide)) (by omega) rfl (by simp) ?_
  obtain ⟨G, eG⟩ : ∃ x, x = hset (hset h nx (.cells b.cells none)) (nx + 1) (.cells p.cells none) := ⟨_, rfl⟩
  have hsm : Same nx h G := by rw [eG]; exact ((Same.refl nx h).set (Nat.le_refl _) _).set (by omega) _
  have hb' := hb.same hsm (nx' := nx + 1 + 1) (by omega)
  have hp' := hp.same hsm (nx' := nx + 1 + 1) (by omega)
  have r0 : rowL G nx = some b.cells := by rw [eG, z0a _ (by omega)]; exact z01 _ _
  have r1 : rowL G (nx + 1) = some p.cells := by rw [eG]; exact z01 _ _
  have hp7 : z09 true 7 b.cells 0 = some (.agg b.cells.toArray) := rfl
  have hp2 : z09 true 2 p.cells 0 = some (.agg p.cells.toArray) := rfl
  have k40 := fun (h : Hp) (nx : Nat) (x lo hi : Int) => c40 hS (m := m - 1) (h := h) (nx := nx) (by omega) x lo hi
  have k57 := c57 hS (m := m - 1) (by omega) hb' hp'
  have k56 := c56 hS (m := m - 1) (by omega) hb' (z4s b p zone)
  unfold zkw zkx
  rcases Bool.eq_false_or_eq_true b.valid with hv | hv
  · rw [hv] at k56
    rcases Bool.eq_false_or_eq_true (isQ b p) with hq | hq
    · rcases Bool.eq_false_or_eq_true (inB 0 4 zone) with hz | hz
      · have ho : z4s b p zone = true := by unfold z4s; rw [hq, hz]; rfl
        obtain ⟨kind, hk, e1, e2, e3, e4, e5, e6, e7⟩ := zty hq
        have hF := Bk.fine hv
        have hp7' := hF.p7
        have hpc : p.cells.toArray = #[vi (kind : Int), p.v] := by unfold Pa.cells; rw [e1]
        have hzz := z0u hz
        obtain ⟨zn, rfl⟩ : ∃ zn : Nat, zone = (zn : Int) := ⟨zone.toNat, by omega⟩
        have k58 := c58 hS (m := m - 1) (by omega) hF hb' hk e4 (by unfold z3n; rw [List.length_map]; omega) e3 (v := p.v) (by rw [e2]; exact hp'.l)
        have k61 := c61 hS (m := m - 1) (by omega) hF hb' hk e4 (by unfold z3n; rw [List.length_map]; omega) (v := p.v) (by rw [e2]; exact hp'.l) (zone := zn) (by omega)
        rw [← hpc] at k58 k61
        rw [hq] at k57
        rw [ho, z27] at k56
        rw [hv, ho, e6, e7, Int.toNat_natCast]
        generalize z5n b b.K[kind] (z3n p.zs) = t at *
        cases t <;> simp (maxSteps := 999999) (implicitDefEqProofs := false) (disch := omega) only [s18, lok5, ← eG, r0, r1, hp7, hp2, hz, k40, k57, k56, k58, k61, zbv, zbw, zmo, zsr, z5e, g_un, show ((0 : Int) != 0) = false from rfl, Bool.and_self, Bool.false_eq_true, bz, z00, Nat.reduceEqDiff, Nat.reduceLT, Nat.reduceAdd] <;> exact ⟨_, _, rfl⟩
      · have ho : z4s b p zone = false := by unfold z4s; rw [hz, Bool.and_false]
        rw [hq] at k57
        rw [ho, show z2e true false = 61 from rfl] at k56
        rw [hv, ho, show z2e true false = 61 from rfl]
        simp (maxSteps := 999999) (implicitDefEqProofs := false) (disch := omega) only [s18, lok5, ← eG, r0, r1, hp7, hp2, hz, k40, k57, k56, zbv, zbw, z5e, g_un, show ((61 : Int) != 0) = true from rfl, Bool.false_eq_true, bz, z00, Nat.reduceEqDiff, Nat.reduceLT, Nat.reduceAdd]
        exact ⟨_, _, rfl⟩
    · have ho : z4s b p zone = false := by unfold z4s; rw [hq, Bool.false_and]
      rw [hq] at k57
      rw [ho, show z2e true false = 61 from rfl] at k56
      rw [hv, ho, show z2e true false = 61 from rfl]
      simp (maxSteps := 999999) (implicitDefEqProofs := false) (disch := omega) only [s18, lok5, ← eG, r0, r1, hp7, hp2, k40, k57, k56, zbv, zbw, z5e, g_un, show ((61 : Int) != 0) = true from rfl, Bool.false_eq_true, bz, z00, Nat.reduceEqDiff, Nat.reduceLT, Nat.reduceAdd]
      exact ⟨_, _, rfl⟩
  · rw [hv, z20] at k56
    rw [hv, z20]
    have ho : z4s b p zone = (isQ b p && inB 0 4 zone) := rfl
    rw [ho] at k56
    rcases Bool.eq_false_or_eq_true (isQ b p) with hq | hq <;> rw [hq] at k57 k56
    · rw [Bool.true_and] at k56
      simp (maxSteps := 999999) (implicitDefEqProofs := false) (disch := omega) only [s18, lok5, ← eG, r0, r1, hp7, hp2, k40, k57, k56, zbv, zbw, z5e, g_un, show ((60 : Int) != 0) = true from rfl, Bool.false_eq_true, bz, z00, Nat.reduceEqDiff, Nat.reduceLT, Nat.reduceAdd]
      exact ⟨_, _, rfl⟩
    · rw [Bool.false_and] at k56
      simp (maxSteps := 999999) (implicitDefEqProofs := false) (disch := omega) only [s18, lok5, ← eG, r0, r1, hp7, hp2, k40, k57, k56, zbv, zbw, z5e, g_un, show ((60 : Int) != 0) = true from rfl, Bool.false_eq_true, bz, z00, Nat.reduceEqDiff, Nat.reduceLT, Nat.reduceAdd]
      exact ⟨_, _, rfl⟩
theorem zrz {S : Kn} (hS : S.Only [22]) {m : Nat} (hm : 2 ≤ m) {b : Bk} {z : Z} {vs : Vs} {h : Hp} {nx p1 i : Nat} (hF : b.Fine) (hb : b.At h nx) (hi : i < b.P.length) (hr1 : rowL h p1 = some b.cells) (hp1 : p1 < nx) (hz : z.n0 ≤ nx)
    (g1 : vs 1 = some (pt p1)) (g6 : vs 6 = some (vi (i : Int))) (g7 : vs 7 = some (.bool true)) (g8 : vs 8 = some (vi 0)) {r : R} (hr : z14 (sC Tryz.prog 44 44 (z07 Tryz.prog vmL S m) zj8) z vs h nx = r) :
    ∃ vs' h' nx', r = .exi 2 z vs' h' nx' ∧ nx ≤ nx' ∧ Same nx h h' ∧ vs' 1 = vs 1 ∧ vs' 5 = vs 5 ∧ vs' 6 = vs 6 ∧ vs' 7 = some (.bool (tooQ b i)) := by
  subst hr
  refine z0n (Post := fun r => ∃ vs' h' nx', r = .exi 2 z vs' h' nx' ∧ nx ≤ nx' ∧ Same nx h h' ∧ vs' 1 = vs 1 ∧ vs' 5 = vs 5 ∧ vs' 6 = vs 6 ∧ vs' 7 = some (.bool (tooQ b i)))
    (fun k z' vs' h' nx' => k ≤ b.K.length ∧ z' = z ∧ nx ≤ nx' ∧ Same nx h h' ∧ vs' 1 = vs 1 ∧ vs' 5 = vs 5 ∧ vs' 6 = vs 6 ∧ vs' 7 = some (.bool (!((b.K.take k).any fun k => z5n b k [i]))) ∧ vs' 8 = some (vi (k : Int))) b.K.length (by have := hF.k4; omega)
    ⟨Nat.zero_le _, rfl, Nat.le_refl _, Same.refl _ _, rfl, rfl, rfl, by rw [g7]; simp, g8⟩ ?_
  rintro k z' vs' h' nx' ⟨hk, rfl, hn, hs, e1, e5, e6, e7, e8⟩
  have hk4 := hF.k4
  have f1 := e1.trans g1
  have f6 := e6.trans g6
  have hrow : rowL h' p1 = some b.cells := by rw [z0w hs hp1]; exact hr1
  obtain ⟨ka, kc, hkv, _⟩ := hb.k.form
  rw [List.length_map] at hkv
  have hpk : z09 false 1 b.cells 1 = some b.kv := rfl
  rw [hkv] at hpk
  by_cases hlt : k < b.K.length
  · left
    have h1 : ((k : Int) < (b.K.length : Int)) := by omega
    obtain ⟨H, eH⟩ : ∃ x, x = hset h' nx' (.cells [vi i] none) := ⟨_, rfl⟩
    have hsH : Same nx h H := by rw [eH]; exact hs.set hn _
    have hb' := hb.same hsH (nx' := nx' + 1) (by omega)
    have r1 : rowL H nx' = some [vi i] := by rw [eH]; exact z01 _ _
    have hp7 : z09 true 7 b.cells 0 = some (.agg b.cells.toArray) := rfl
    have k58 := c58 hS (m := m) (by omega) hF hb' hlt (ns := [i]) (by simpa using hi) (by simp) (by simp) (lst1 (r := nx') (by omega) r1)
    have hany := zp4 b.K (fun x => z5n b x [i]) hlt
    obtain ⟨a, ea⟩ : ∃ a, ((b.K.take k).any fun x => z5n b x [i]) = a := ⟨_, rfl⟩
    obtain ⟨t, et⟩ : ∃ t, z5n b b.K[k] [i] = t := ⟨_, rfl⟩
    rw [et] at k58 hany
    rw [ea] at e7 hany
    cases a with
    | true =>
      refine ⟨hlt, z', _, _, _, (by simp (maxSteps := 999999) (implicitDefEqProofs := false) (disch := omega) only [zj8, f1, f6, e7, e8, h1, hrow, hpk, hp7, g_un, z3u, bz, z00, Nat.reduceEqDiff, Nat.reduceLT, Nat.reduceAdd]; exact rfl), by omega, rfl, hn, hs, ?_, ?_, ?_, ?_, ?_⟩
      · simp only [pq, Nat.reduceEqDiff, e1]
      · simp only [pq, Nat.reduceEqDiff, e5]
      · simp only [pq, Nat.reduceEqDiff, e6]
      · rw [hany]; simp only [pq, Nat.reduceEqDiff, Bool.true_or, Bool.not_true]
      · simp only [pq, Nat.reduceEqDiff]; rfl
    | false =>
      refine ⟨hlt, z', _, _, _, (by simp (maxSteps := 999999) (implicitDefEqProofs := false) (disch := omega) only [zj8, f1, f6, e7, e8, h1, hrow, hpk, hp7, ← eH, k58, zmo, g_un, z3u, bz, z00, Nat.reduceEqDiff, Nat.reduceLT, Nat.reduceAdd]; exact rfl), by omega, rfl, ?_, hsH, ?_, ?_, ?_, ?_, ?_⟩
      · omega
      · simp only [pq, Nat.reduceEqDiff, e1]
      · simp only [pq, Nat.reduceEqDiff, e5]
      · simp only [pq, Nat.reduceEqDiff, e6]
      · rw [hany]; simp only [pq, Nat.reduceEqDiff, Bool.false_or]
      · simp only [pq, Nat.reduceEqDiff]; rfl
  · right
    have h1 : ¬ ((k : Int) < (b.K.length : Int)) := by omega
    have hke : k = b.K.length := by omega
    have e : ∃ vs2, sC Tryz.prog 44 44 (z07 Tryz.prog vmL S m) zj8 z' vs' h' nx' = .exi 2 z' vs2 h' nx' ∧ vs2 1 = vs' 1 ∧ vs2 5 = vs' 5 ∧ vs2 6 = vs' 6 ∧ vs2 7 = vs' 7 := by
      refine ⟨_, by simp (maxSteps := 999999) (implicitDefEqProofs := false) (disch := omega) only [zj8, f1, e8, h1, hrow, hpk, bz, z00, Nat.reduceEqDiff, Nat.reduceLT, Nat.reduceAdd]; exact rfl, ?_, ?_, ?_, ?_⟩ <;> simp only [pg, Nat.reduceEqDiff]
    obtain ⟨vs2, e, q1, q5, q6, q7⟩ := e
    rw [e]
    rw [hke, List.take_length, ← ztm hi] at e7
    exact ⟨trivial, vs2, h', nx', rfl, hn, hs, q1.trans e1, q5.trans e5, q6.trans e6, q7.trans e7⟩
theorem zry {S : Kn} (hS : S.Only [22]) {m : Nat} (hm : 2 ≤ m) {b : Bk} {z : Z} {vs : Vs} {h : Hp} {nx p1 : Nat} (hF : b.Fine) (hb : b.At h nx) (hr1 : rowL h p1 = some b.cells) (hp1 : p1 < nx) (hz : z.n0 ≤ nx)
    (g1 : vs 1 = some (pt p1)) (g5 : vs 5 = some (.slice none 0 0)) (g6 : vs 6 = some (vi 0)) {r : R} (hr : z14 (sC Tryz.prog 44 44 (z07 Tryz.prog vmL S m) zj7) z vs h nx = r) :
    ∃ vs' h' nx' v, r = .exi 0 z vs' h' nx' ∧ vs' 5 = some v ∧ OwnL h' nx nx' 1 v (nsV (bigQ b)) := by
  subst hr
  refine z0n (Post := fun r => ∃ vs' h' nx' v, r = .exi 0 z vs' h' nx' ∧ vs' 5 = some v ∧ OwnL h' nx nx' 1 v (nsV (bigQ b)))
    (fun i z' vs' h' nx' => i ≤ b.P.length ∧ z' = z ∧ nx ≤ nx' ∧ Same nx h h' ∧ vs' 1 = some (pt p1) ∧ (∃ v, vs' 5 = some v ∧ OwnL h' nx nx' 1 v (nsV (z6j b i))) ∧ vs' 6 = some (vi (i : Int))) b.P.length (by have := hF.p7; omega)
    ⟨Nat.zero_le _, rfl, Nat.le_refl _, Same.refl _ _, g1, ⟨_, g5, .nil⟩, g6⟩ ?_
  rintro i z' vs' h' nx' ⟨hi, rfl, hn, hs, e1, ⟨v, e5, ev⟩, e6⟩
  have h7 := hF.p7
  have hrow : rowL h' p1 = some b.cells := by rw [z0w hs hp1]; exact hr1
  obtain ⟨pa, pc, hpv, _⟩ := hb.p.form
  rw [List.length_map] at hpv
  have hpp : z09 false 1 b.cells 0 = some b.pv := rfl
  rw [hpv] at hpp
  by_cases hlt : i < b.P.length
  · left
    have h1 : ((i : Int) < (b.P.length : Int)) := by omega
    have hbn := hb.same hs (nx' := nx') hn
    have hsu := zd0 b i
    have hlen := z89 b i
    have body : ∃ vs2 h2 nx2 v2, sC Tryz.prog 44 44 (z07 Tryz.prog vmL S m) zj7 z' vs' h' nx' = .nor z' vs2 h2 nx2 ∧ nx ≤ nx2 ∧ Same nx h h2 ∧ vs2 1 = some (pt p1) ∧ vs2 5 = some v2 ∧ OwnL h2 nx nx2 1 v2 (nsV (z6j b (i + 1))) ∧ vs2 6 = some (vi ((i : Int) + 1)) := by
      simp (maxSteps := 999999) (implicitDefEqProofs := false) (disch := omega) only [zj7, z1j, e1, e6, h1, hrow, hpp, bz, z00, Nat.reduceEqDiff, Nat.reduceLT, Nat.reduceAdd]
      generalize hr : z14 _ _ _ _ _ = r
      obtain ⟨vs3, h3, nx3, rfl, hn3, hs3, w1, w5, w6, w7⟩ := zrz hS hm hF hbn hlt hrow (by omega) (by omega) (by simp only [pq, Nat.reduceEqDiff, e1]) (by simp only [pq, Nat.reduceEqDiff, e6]) rfl rfl hr
      have w1' := w1.trans (show _ = some (pt p1) by simp only [pq, Nat.reduceEqDiff, e1])
      have w5' := w5.trans (show _ = some v by simp only [pq, Nat.reduceEqDiff, e5])
      have w6' := w6.trans (show _ = some (vi (i : Int)) by simp only [pq, Nat.reduceEqDiff, e6])
      have hs4 : Same nx h h3 := hs.trans (hs3.mono (by omega))
      rcases Bool.eq_false_or_eq_true (tooQ b i) with ht | ht
      · rw [ht] at w7 hsu
        rw [show (if true = true then [i] else []) = [i] from rfl] at hsu
        obtain ⟨H2, eH2⟩ : ∃ x, x = hset h3 nx3 (.cells [vi i] none) := ⟨_, rfl⟩
        have evH2 : OwnL H2 nx (nx3 + 1) 1 v (nsV (z6j b i)) := ev.same (by omega) fun r len hv => by
          rcases ev.is with ⟨_, q⟩ | ⟨r', len', q1, q2, q3, _⟩
          · rw [q] at hv; cases hv
          · rw [q3] at hv; cases hv
            rw [eH2, z0l _ (by omega)]
            exact hs3 _ (by omega)
        obtain ⟨v', h2, M, ap, lg, own, fr, _⟩ := evH2.app (k := (z6j b i).length) (x := .slice (some ⟨nx3, 0, none⟩) 1 1) (new := [vi i]) (by omega) (z6k (by rw [eH2]; exact z01 _ _) rfl) rfl (by omega) (by simp [nsV]) (by omega)
        have lgz := lg z' hz
        refine ⟨_, _, _, v', by simp (maxSteps := 999999) (implicitDefEqProofs := false) (disch := omega) only [w1', w5', w6', w7, ← eH2, ap, lgz, zno, bz, z00, Nat.reduceEqDiff, Nat.reduceLT, Nat.reduceAdd]; exact rfl, ?_, ?_, ?_, ?_, ?_, ?_⟩
        rotate_left 1
        · intro s hss
          rw [fr s hss, eH2, z0l _ (by omega)]; exact hs4 s hss
        · simp only [pq, Nat.reduceEqDiff, w1']
        · simp only [pq, Nat.reduceEqDiff]
        · rw [hsu]
          have : nsV (z6j b i ++ [i]) = nsV (z6j b i) ++ [vi i] := by simp [nsV]
          rw [this]
          exact own
        · simp only [pq, Nat.reduceEqDiff]
        · omega
      · rw [ht] at w7 hsu
        rw [show (if false = true then [i] else []) = ([] : List Nat) from rfl, List.append_nil] at hsu
        refine ⟨_, _, _, v, by simp (maxSteps := 999999) (implicitDefEqProofs := false) (disch := omega) only [w1', w5', w6', w7, bz, z00, Nat.reduceEqDiff, Nat.reduceLT, Nat.reduceAdd]; exact rfl, by omega, hs4, ?_, ?_, ?_, ?_⟩
        · simp only [pq, Nat.reduceEqDiff, w1']
        · simp only [pq, Nat.reduceEqDiff, w5']
        · rw [hsu]
          refine ev.same (by omega) fun r len hv => ?_
          rcases ev.is with ⟨_, q⟩ | ⟨r', len', q1, q2, q3, _⟩
          · rw [q] at hv; cases hv
          · rw [q3] at hv; cases hv
            exact hs3 _ (by omega)
        · simp only [pq, Nat.reduceEqDiff]
    obtain ⟨vs2, h2, nx2, v2, e, a1, a2, a3, a5, a6, a7⟩ := body
    exact ⟨hlt, z', vs2, h2, nx2, e, by omega, rfl, a1, a2, a3, ⟨v2, a5, a6⟩, a7⟩
  · right
    have h1 : ¬ ((i : Int) < (b.P.length : Int)) := by omega
    have hie : i = b.P.length := by omega
    have e : ∃ vs2, sC Tryz.prog 44 44 (z07 Tryz.prog vmL S m) zj7 z' vs' h' nx' = .exi 0 z' vs2 h' nx' ∧ vs2 5 = vs' 5 := by
      refine ⟨_, by simp (maxSteps := 999999) (implicitDefEqProofs := false) (disch := omega) only [zj7, e1, e6, h1, hrow, hpp, bz, z00, Nat.reduceEqDiff, Nat.reduceLT, Nat.reduceAdd]; exact rfl, ?_⟩
      simp only [pg, Nat.reduceEqDiff]
    obtain ⟨vs2, e, q5⟩ := e
    rw [e]
    rw [hie] at ev
    exact ⟨trivial, vs2, _, _, v, rfl, q5.trans e5, ev⟩
theorem c20 {S : Kn} (hS : S.Only [22]) {m : Nat} (hm : 5 ≤ m) {b : Bk} {h : Hp} {nx : Nat} (hb : b.At h nx) : ∃ u h' nx', z06 20 [.agg b.cells.toArray] (z07 Tryz.prog vmL S m) h nx = .gen (.tuple #[u, vi (z2e b.valid true)]) h' nx' [] ∧ NewL h nx h' nx' 1 u (nsV (if b.valid then bigQ b else [])) := by
  refine fun20.listT (sz := 1) rfl (hS _ _ _ _ (by decide)) (by omega) (by simp) (zdi _) ?_
  obtain ⟨H, eH⟩ : ∃ x, x = hset h nx (.cells b.cells none) := ⟨_, rfl⟩
  have hsm : Same nx h H := by rw [eH]; exact (Same.refl nx h).set (Nat.le_refl _) _
  have hb' := hb.same hsm (nx' := nx + 1) (by omega)
  have r0 : rowL H nx = some b.cells := by rw [eH]; exact z01 _ _
  have hp7 : z09 true 7 b.cells 0 = some (.agg b.cells.toArray) := rfl
  have k16 := c16 hS (m := m - 1) (by omega) hb'
  rcases Bool.eq_false_or_eq_true b.valid with hv | hv
  · rw [hv, z27] at k16
    rw [hv, z27]
    simp (maxSteps := 999999) (implicitDefEqProofs := false) (disch := omega) only [s20, z1j, ← eH, r0, hp7, k16, zfg, show ((0 : Int) != 0) = false from rfl, bz, z00, Nat.reduceEqDiff, Nat.reduceLT, Nat.reduceAdd]
    generalize hr : z14 _ _ _ _ _ = r
    obtain ⟨vs', h', nx', v, rfl, e5, ev⟩ := zry hS (m := m - 1) (by omega) (Bk.fine hv) hb' r0 (by omega) (by show nx ≤ nx + 1; omega) rfl rfl rfl hr
    refine ⟨v, h', nx', ?_, by simp (maxSteps := 999999) (implicitDefEqProofs := false) (disch := omega) only [e5, bz, z00, Nat.reduceEqDiff, Nat.reduceLT, Nat.reduceAdd]⟩
    rcases ev.is with ⟨q1, q2⟩ | ⟨r, len, q1, q2, q3, q4, q5, q6⟩
    · exact .inl ⟨q1, q2⟩
    · exact .inr ⟨r, len, _, _, by omega, q3, q4, q5, q6⟩
  · rw [hv, z20] at k16
    rw [hv, z20]
    refine ⟨_, _, _, .inl ⟨rfl, rfl⟩, by simp (maxSteps := 999999) (implicitDefEqProofs := false) (disch := omega) only [s20, ← eH, r0, hp7, k16, zfg, show ((60 : Int) != 0) = true from rfl, bz, z00, Nat.reduceEqDiff, Nat.reduceLT, Nat.reduceAdd]; rfl⟩
theorem zui {ih : Rec} {zs : List Int} {z : Z} {vs : Vs} {h : Hp} {nx : Nat} {v w : Value} (hl : zs.length ≤ 1000) (hv : Lst h nx 1 v (ints zs)) (hw : Lst h nx 1 w (ints zs))
    (g0 : vs 0 = some v) (g1 : vs 1 = some w) (g5 : vs 5 = some (.bool true)) (g6 : vs 6 = some (vi 0)) {r : R} (hr : z14 (sC Tryz.prog 31 31 ih zm9) z vs h nx = r) :
    ∃ vs', r = .exi 0 z vs' h nx ∧ vs' 5 = some (.bool true) := by
  subst hr
  refine z0n (Post := fun r => ∃ vs', r = .exi 0 z vs' h nx ∧ vs' 5 = some (.bool true))
    (fun i z' vs' h' nx' => i ≤ zs.length ∧ z' = z ∧ nx' = nx ∧ h' = h ∧ vs' 0 = some v ∧ vs' 1 = some w ∧ vs' 5 = some (.bool true) ∧ vs' 6 = some (vi (i : Int))) zs.length (by omega)
    ⟨Nat.zero_le _, rfl, rfl, rfl, g0, g1, g5, g6⟩ ?_
  rintro i z' vs' h' nx' ⟨hi, rfl, rfl, rfl, e0, e1, e5, e6⟩
  by_cases hlt : i < zs.length
  · left
    have h1 : ((i : Int) < (zs.length : Int)) := by omega
    obtain ⟨rr, o, cs, c, rfl, hcs, hrn, hel⟩ := z99 hv hlt
    obtain ⟨rr2, o2, cs2, c2, rfl, hcs2, hrn2, hel2⟩ := z99 hw hlt
    refine ⟨hlt, z', _, _, _, (by simp (maxSteps := 999999) (implicitDefEqProofs := false) (disch := omega) only [zm9, zsf, e0, e1, e5, e6, h1, hcs, hel, hcs2, hel2, g_un, z3u, bz, z00, Nat.reduceEqDiff, Nat.reduceLT, Nat.reduceAdd]; exact rfl), by omega, rfl, rfl, rfl, ?_, ?_, ?_, ?_⟩
    · simp only [pq, Nat.reduceEqDiff, e0]
    · simp only [pq, Nat.reduceEqDiff, e1]
    · simp only [pq, Nat.reduceEqDiff, beq_self_eq_true]
    · simp only [pq, Nat.reduceEqDiff]; rfl
  · right
    have h1 : ¬ ((i : Int) < (zs.length : Int)) := by omega
    obtain ⟨a, c, rfl, _⟩ := hv.form
    rw [z1x] at e0
    have e : ∃ vs2, sC Tryz.prog 31 31 ih zm9 z' vs' h' nx' = .exi 0 z' vs2 h' nx' ∧ vs2 5 = vs' 5 := by
      refine ⟨_, by simp (maxSteps := 999999) (implicitDefEqProofs := false) (disch := omega) only [zm9, e0, e5, e6, h1, g_un, bz, z00, Nat.reduceEqDiff, Nat.reduceLT, Nat.reduceAdd]; exact rfl, ?_⟩
      simp only [pg, Nat.reduceEqDiff]
    obtain ⟨vs2, e, q5⟩ := e
    rw [e]
    exact ⟨trivial, vs2, rfl, q5.trans e5⟩
theorem c21 {S : Kn} (hS : S.Only [22]) {m : Nat} (hm : 1 ≤ m) {zs : List Int} {h : Hp} {nx : Nat} {v w : Value} (hl : zs.length ≤ 1000) (hv : Lst h nx 1 v (ints zs)) (hw : Lst h nx 1 w (ints zs)) : z06 21 [v, w] (z07 Tryz.prog vmL S m) h nx = .gen (.bool true) h nx [] := by
  refine fun21.ground (hS _ _ _ _ (by decide)) (by omega) rfl (by simp) ?_
  obtain ⟨a, c, e0, _⟩ := hv.form
  obtain ⟨a2, c2, e1, _⟩ := hw.form
  rw [z1x] at e0 e1
  have bs : ((zs.length : Int) == (zs.length : Int)) = true := beq_self_eq_true _
  rw [e0, e1]
  simp (maxSteps := 999999) (implicitDefEqProofs := false) (disch := omega) only [s21, z1j, bs, bz, z00, Nat.reduceEqDiff, Nat.reduceLT, Nat.reduceAdd]
  generalize hr : z14 _ _ _ _ _ = r
  obtain ⟨vs', rfl, q5⟩ := zui hl hv hw (by rw [e0]; rfl) (by rw [e1]; rfl) rfl rfl hr
  simp (maxSteps := 999999) (implicitDefEqProofs := false) (disch := omega) only [q5, bz, z00, Nat.reduceEqDiff, Nat.reduceLT, Nat.reduceAdd]
  exact ⟨_, _, rfl⟩
theorem c3 {S : Kn} (hS : S.Only [22]) (hK : zhi S) {m : Nat} (hm : 17 ≤ m) {b : Bk} {h : Hp} {nx : Nat} (hb : b.At h nx) {p : Pa} (hp : p.At h nx) (zone : Int) : z06 3 [.agg b.cells.toArray, .agg p.cells.toArray, vi zone] (z07 Tryz.prog vmL S m) h nx = .gen (.bool true) h nx [] := by
  refine fun3.ground (hS _ _ _ _ (by decide)) (by omega) rfl (by simp) ?_
  obtain ⟨G, eG⟩ : ∃ x, x = hset (hset h nx (.cells b.cells none)) (nx + 1) (.cells p.cells none) := ⟨_, rfl⟩
  have hsm : Same nx h G := by rw [eG]; exact ((Same.refl nx h).set (Nat.le_refl _) _).set (by omega) _
  have hb' := hb.same hsm (nx' := nx + 1 + 1) (by omega)
  have hp' := hp.same hsm (nx' := nx + 1 + 1) (by omega)
  have r0 : rowL G nx = some b.cells := by rw [eG, z0a _ (by omega)]; exact z01 _ _
  have r1 : rowL G (nx + 1) = some p.cells := by rw [eG]; exact z01 _ _
  have hp7 : z09 true 7 b.cells 0 = some (.agg b.cells.toArray) := rfl
  have hp2 : z09 true 2 p.cells 0 = some (.agg p.cells.toArray) := rfl
  have k13 := c13 hS (m := m - 1) (by omega) hb' hp'
  have k14 := c14 hS (m := m - 1) (by omega) hb' hp'
  have k15 := c15 hS (m := m - 1) (by omega) hb'
  have k16 := c16 hS (m := m - 1) (by omega) hb'
  have k17 := c17 hS (m := m - 1) (by omega) hb' hp' zone
  have k18 := c18 hS (m := m - 1) (by omega) hb' hp' zone
  obtain ⟨u, H2, n2, k19, w⟩ := c19 hS (m := m - 1) (by omega) hb'
  have t2 := w.keep.2
  have n2' := w.keep.1
  have hb2 := hb'.same t2 (nx' := n2) (by omega)
  have r20 : rowL H2 nx = some b.cells := by rw [z0w t2 (by omega)]; exact r0
  obtain ⟨u2, H3, n3, k20, w2⟩ := c20 hS (m := m - 1) (by omega) hb2
  have t3 := w2.keep.2
  have n3' := w2.keep.1
  have hb3 := hb2.same t3 (nx' := n3) (by omega)
  have hpos := hb.pos
  have hbl := z89 b b.P.length
  have hlen : (nsI (if b.valid = true then bigQ b else [])).length ≤ 1000 := by
    rw [z46]
    split
    · rename_i hv
      have := (Bk.fine hv).p7
      unfold bigQ; omega
    · simp
  have k21 := c21 hS (m := m - 1) (h := H3) (nx := n3) (by omega) hlen ((zlp w).same t3 (by omega)) (zlp w2)
  have k22 := c22 hK (m := m - 1) (h := H3) (nx := n3) (by omega) hb3.lim
  generalize (b.valid && (isQ b p && fitQ b p)) = F at *
  generalize z2e b.valid (isQ b p) = E at *
  generalize z2e b.valid true = E2 at *
  generalize zkw b p zone = N at *
  generalize zkx b p zone = E3 at *
  have nn : (F != F) = false := by cases F <;> rfl
  simp (maxSteps := 999999) (implicitDefEqProofs := false) (disch := omega) only [s3, zse, ← eG, r0, r1, hp7, hp2, k13, k14, k15, k16, k17, k18, k19, r20, k20, k21, k22, zwj, nn, bne_self_eq_false, beq_self_eq_true, zsy, zfg, zsx, zsw, zsv, zsu, g_un, z3u, bz, z00, Nat.reduceEqDiff, Nat.reduceLT, Nat.reduceAdd]
  exact ⟨_, _, rfl⟩
end Go.Proofs.YtcmkngajdckndaaGreatDoor
