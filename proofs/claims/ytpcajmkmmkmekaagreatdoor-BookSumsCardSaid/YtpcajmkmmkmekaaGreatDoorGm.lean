/- What a round of twins keeps: every block of cells but the list's. What a book's place is; which numbers clash: plain mathematics. -/
import Derived.Test.YtpcajmkmmkmekaaGreatDoorGb
import Derived.Test.YtpcajmkmmkmekaaGreatDoorGg
import Derived.Test.YtpcajmkmmkmekaaGreatDoorGj
import Derived.Deep.RegionHeld3
set_option linter.unusedVariables false
set_option linter.unusedSimpArgs false
namespace Go.Proofs.YtpcajmkmmkmekaaGreatDoor
open Go Go.RowKit Go.Shelf
theorem box_below {W W' : World} {b B : Nat} {t : TypeId} {cs : List Value} (h : CellsBox W b t cs) (hb : Below B W W') (hB : b < B) : CellsBox W' b t cs := (hb.block b hB).trans h
theorem box_alloc {W : World} {b : Nat} {t : TypeId} {cs : List Value} (h : CellsBox W b t cs) (o : Obj) : CellsBox (W.alloc o) b t cs := box_below h ((Below.refl _ W).alloc (Nat.le_refl _) o) h.lt
/-- whatever lay below n₀ lies as it lay, and every block of cells that are no plain numbers, the block L aside -/
structure KC (n₀ L : Nat) (w w' : World) : Prop where
  spare : Spare n₀ L w w'
  boxes : ∀ (k : Nat) (c : Array Value) (t : TypeId), k ≠ L → t ≠ 3 → w.heap[k]? = some (.cells c t (0, 0)) → w'.heap[k]? = some (.cells c t (0, 0))
theorem KC.refl (n₀ L : Nat) (w : World) : KC n₀ L w w := ⟨Spare.refl _ _ _, fun _ _ _ _ _ h => h⟩
theorem KC.trans {n₀ L : Nat} {a b c : World} (h : KC n₀ L a b) (k : KC n₀ L b c) : KC n₀ L a c :=
  ⟨h.spare.trans k.spare, fun i x t hl ht hi => k.boxes i x t hl ht (h.boxes i x t hl ht hi)⟩
theorem KC.size {n₀ L : Nat} {a b : World} (h : KC n₀ L a b) : a.heap.size ≤ b.heap.size := h.spare.size
theorem KC.turn {n₀ : Nat} (L : Nat) (W : World) (l : Nat) (o o' : Obj) (hn : n₀ ≤ l) (h : W.heap[l]? = some o) (h1 : o.isCells = false) : KC n₀ L W (W.putObj l o') :=
  ⟨⟨rfl, rfl, rfl, by simp, fun k hk _ => World.putObj_heap_other (by omega)⟩, fun k c t _ _ hk => by
    by_cases e : k = l
    · subst e; rw [h] at hk; cases hk; cases h1
    · exact (World.putObj_heap_other e).trans hk⟩
theorem kc_of_below {n₀ L : Nat} {a b : World} (h : Below a.heap.size a b) (hn : n₀ ≤ a.heap.size) : KC n₀ L a b :=
  ⟨spare_of_below L h hn, fun k c t _ _ hk => (h.block k (Array.getElem?_eq_some_iff.1 hk).1).trans hk⟩
theorem KC.box {n₀ L B : Nat} {a b : World} {t : TypeId} {cs : List Value} (h : KC n₀ L a b) (hl : B ≠ L) (ht : t ≠ 3) (hc : CellsBox a B t cs) : CellsBox b B t cs := h.boxes B _ t hl ht hc
theorem ownFrom_kc {β : Type} {n₀ L B : Nat} {w₀ : World} (hn : n₀ ≤ w₀.heap.size) (hB : n₀ ≤ B) : OwnFrom B (fun (_ : β) W => KC n₀ L w₀ W) := by
  intro s X Y row hs hg hr
  refine ⟨ownFrom_spare hn hB s X Y row hs.spare hg hr, fun k c t hl ht hk => ?_⟩
  have hX := hs.boxes k c t hl ht hk
  refine (hg.block k (Array.getElem?_eq_some_iff.1 hX).1 fun e => ?_).trans hX
  obtain ⟨_, o', ho', hc⟩ := hr k e.symm
  rw [hX] at ho'; cases ho'; cases hc
/-- an append to the list in the box L -/
theorem appended_kc {W w1 : World} {n₀ base L : Nat} {v v' : Value} {k m : Nat} {xs ys : List Value} {tmp : Obj}
    (hv : Boxed W L 36 v) (hrow : W.ownsRow base 3 1 v k xs) (hb : n₀ ≤ base) (hn₀ : base ≤ W.heap.size)
    (hown' : w1.ownsRow base 3 1 v' m ys) (hgrow : (W.alloc tmp).grownBy w1 v.ownBlock) :
    Boxed w1 L 36 v ∧ Boxed (w1.setCell ⟨L, 0, none⟩ v') L 36 v' ∧ (w1.setCell ⟨L, 0, none⟩ v').ownsRow base 3 1 v' m ys ∧ KeepsOthers W (w1.setCell ⟨L, 0, none⟩ v') ∧ KC n₀ L W (w1.setCell ⟨L, 0, none⟩ v') := by
  obtain ⟨h1, h2, h3, h4, h5⟩ := appended_spare hv (by decide) hrow hn₀ hown' hgrow
  refine ⟨h1, h2, h3, h4, ⟨h5.os, h5.tape, h5.output, h5.size, fun i hi hl => h5.block i (by omega) hl⟩, fun i c t hl ht hi => ?_⟩
  have hiW : i < W.heap.size := (Array.getElem?_eq_some_iff.1 hi).1
  have g1 := (grownBy_setCell' w1 L v').block i (by have := hgrow.size; simp at this; omega) (by simpa using hl)
  have g2 := hgrow.block i (by simp; omega) (fun e => by
    rcases hrow.2 with ⟨rfl, _⟩ | ⟨g, cp, cur, rfl, _, hh, _⟩
    · cases e
    · cases e
      rw [hi] at hh
      cases hh
      exact ht rfl)
  rw [g1, g2]
  exact (Below.heap_alloc _ _ _ hiW).trans hi

/- places -/
def placesL (bs : List (Nat × Issue)) : List (Int × Int) := bs.flatMap fun p => p.2.entries.map fun e => ((p.1 : Int), e.number)
theorem placesL_snoc (bs : List (Nat × Issue)) (i : Nat) (x : Issue) : placesL (bs ++ [(i, x)]) = placesL bs ++ x.entries.map fun e => ((i : Int), e.number) := by simp [placesL]
def entP (i : Nat) (x : Issue) (k : Nat) : List (Int × Int) := (x.entries.take k).map fun e => ((i : Int), e.number)
theorem entP_zero (i : Nat) (x : Issue) : entP i x 0 = [] := by simp [entP]
theorem entP_succ {i : Nat} {x : Issue} {k : Nat} {e : Entry} (h : x.entries[k]? = some e) : entP i x (k + 1) = entP i x k ++ [((i : Int), e.number)] := by
  obtain ⟨hk, rfl⟩ := List.getElem?_eq_some_iff.1 h
  rw [entP, List.take_succ_eq_append_getElem hk, List.map_append]
  rfl
theorem entP_all (bs : List (Nat × Issue)) (i : Nat) (x : Issue) : placesL bs ++ entP i x x.entries.length = placesL (bs ++ [(i, x)]) := by
  rw [placesL_snoc, entP, List.take_length]
def goodOf (l : List Issue) (p : Int × Int) : Int := (goodsF l p.1 p.2).getD 0
def clashB (l : List Issue) (h t : Int × Int) : Bool := !(t == h) && ((t.2 == h.2) && !(goodOf l t == goodOf l h))
def clashN (l : List Issue) (h : Int × Int) (ts : List (Int × Int)) : List Int := (ts.filter (clashB l h)).map fun _ => h.2
def twinsN (l : List Issue) (hs ts : List (Int × Int)) : List Int := hs.flatMap fun h => clashN l h ts
theorem clashN_yes {l : List Issue} {h t : Int × Int} {ts : List (Int × Int)} (hc : clashB l h t = true) : clashN l h (ts ++ [t]) = clashN l h ts ++ [h.2] := by simp [clashN, List.filter_append, hc]
theorem clashN_no {l : List Issue} {h t : Int × Int} {ts : List (Int × Int)} (hc : clashB l h t = false) : clashN l h (ts ++ [t]) = clashN l h ts := by simp [clashN, List.filter_append, hc]
theorem clashN_len (l : List Issue) (h : Int × Int) (ts : List (Int × Int)) : (clashN l h ts).length ≤ ts.length := by
  rw [clashN, List.length_map]; exact List.length_filter_le _ _
theorem twinsN_snoc (l : List Issue) (hs ts : List (Int × Int)) (h : Int × Int) : twinsN l (hs ++ [h]) ts = twinsN l hs ts ++ clashN l h ts := by simp [twinsN]
theorem twinsN_len (l : List Issue) (hs ts : List (Int × Int)) : (twinsN l hs ts).length ≤ hs.length * ts.length := by
  induction hs with
  | nil => simp [twinsN]
  | cons h hs ih =>
    have := clashN_len l h ts
    have e : twinsN l (h :: hs) ts = clashN l h ts ++ twinsN l hs ts := by simp [twinsN]
    rw [e, List.length_append, List.length_cons, Nat.add_mul]
    omega
def placesOn (r : Rack) (d : Int) : List (Int × Int) := placesL (bk r.issues (inUseQ d d) r.issues.length)
def twinsOn (r : Rack) (d : Int) : List Int := Lib.compact (sorted (twinsN r.issues (placesOn r d) (placesOn r d)))
theorem placesL_len {bs : List (Nat × Issue)} {m : Nat} (h : ∀ p ∈ bs, p.2.entries.length ≤ m) : (placesL bs).length ≤ bs.length * m := by
  induction bs with
  | nil => simp [placesL]
  | cons b bs ih =>
    have h1 := ih fun p hp => h p (List.mem_cons_of_mem _ hp)
    have h2 := h b (by simp)
    have e : placesL (b :: bs) = (b.2.entries.map fun e => ((b.1 : Int), e.number)) ++ placesL bs := by simp [placesL]
    rw [e, List.length_append, List.length_map, List.length_cons, Nat.add_mul]
    omega
end Go.Proofs.YtpcajmkmmkmekaaGreatDoor

/- placesInUse; what produces books, where rounds keep every block of cells but one. -/
namespace Go.Proofs.YtpcajmkmmkmekaaGreatDoor
open Go Go.RowKit Go.Shelf
set_option maxHeartbeats 1000000
attribute [local go_sem] Oper.semAt_some
/-- the value that placesInUse produces, and what it holds -/
structure PlacesAt (w : World) (bR bD : Nat) (r : Rack) (d : Int) : Prop where
  c0 : w.cell? ⟨bR, 0, none⟩ = some (vi r.goods)
  c1 : w.cell? ⟨bR, 1, none⟩ = some r.slice
  cD : w.cell? ⟨bD, 0, none⟩ = some (vi d)
  zR : bR < w.heap.size
  zD : bD < w.heap.size
abbrev placesV (bR bD : Nat) : Value := .func (.func 93) #[] #[.pointer (some ⟨bR, 0, none⟩), .pointer (some ⟨bD, 0, none⟩)]
theorem placesInUse_any (r : Rack) (d : Int) (w : World) :
    Calls Tryz.prog 74 #[r.val, vi d] w fun e w' => ∃ bR bD, e = .returned (placesV bR bD) ∧ (w.heap.size ≤ bR ∧ w.heap.size ≤ bD) ∧ PlacesAt w' bR bD r d ∧ Below w.heap.size w w' := by
  go_enter Tryz.func74, Tryz.ntmps74
  go_wp2
  go_ret
  refine ⟨_, _, rfl, ⟨Nat.le_refl _, by omega⟩, ⟨by simp [go_sem, *], by simp [go_sem, *], by simp [go_sem, *], by simp; omega, by simp⟩, ?_⟩
  (repeat (first | exact Below.refl _ _ | refine Below.setCell ?_ (by first | omega | (simp; omega) | (simp; done)) _ | refine Below.alloc ?_ (by first | omega | (simp; omega) | (simp; done)) _ | refine Below.drew ?_ | refine below_drewN ?_ _ | refine Below.trans ?_ (Below.mono (by assumption) (by first | omega | (simp; omega) | (simp; done)))))
set_option maxRecDepth 100000 in
set_option maxHeartbeats 2000000 in
theorem books1_kc (a b : Int) (q : Issue → Bool) (hq : q = inUseQ a b) (n : Nat) (hn : 1 ≤ n) (l bR bS bD n₀ B₀ L : Nat) (A : Option Addr) (cap : Nat) (xs : List Issue) (J Jx : List (Bk xs q) → World → Prop) (W : World)
    (hJ : AbidesFrom W.heap.size J)
    (hY : ∀ pre x W1, J pre W1 → pre.length < xs.length → YieldAt Fence.wide (n - 1) Tryz.prog l x.enc W1 fun e W' =>
      (e = .returned (.bool true) ∧ J (pre ++ [x]) W' ∧ KC n₀ L W1 W') ∨ (e = .returned (.bool false) ∧ Jx (pre ++ [x]) W'))
    (hn₀ : n₀ ≤ W.heap.size) (hB₀ : B₀ ≤ n₀) (hBL : B₀ ≤ L) (lS : bS ≠ L) (lD : bD ≠ L)
    (cR : W.cell? ⟨bR, 1, none⟩ = some (.slice A xs.length cap)) (cS : CellsBox W bS 139 [.func (.func 99) #[] #[]])
    (cD : CellsBox W bD 26 [vi a, vi b]) (hI : IssuesAt W B₀ A cap xs) (h0 : J [] W) :
    CallsIn Fence.wide n Tryz.prog 88 #[.func (.yield l) #[] #[], .pointer (some ⟨bR, 0, none⟩), .pointer (some ⟨bS, 0, none⟩), .pointer (some ⟨bD, 0, none⟩)] W fun e W' => (∃ v, e = .returned v) ∧
      ((∃ ys, Bks ys = bk xs q xs.length ∧ J ys W') ∨ (∃ pre, (∃ k, k ≤ xs.length ∧ Bks pre = bk xs q k) ∧ Jx pre W')) := by
  have hcap := hI.cap
  have hlen := hI.len
  have hcap2 : (xs.length : Int) ≤ 4398046511104 := by have := hI.few; omega
  refine callsIn_of_wp Tryz.func88 rfl trivial ?_ rfl
  simp only [Tryz.ntmps88, List.size_toArray, List.length_cons, List.length_nil, Nat.reduceAdd, Nat.reduceSub, Array.replicate_succ, Array.replicate_zero, List.push_toArray, List.append_toArray, List.nil_append, List.cons_append]
  gi_wp2
  gi_loopw [12] (fun i wr => ∃ (k : Nat) (ys : List (Bk xs q)), k ≤ xs.length ∧ i = .int .i64 k ∧ Bks ys = bk xs q k ∧ J ys wr ∧ KC n₀ L W wr ∧ W.heap.size ≤ wr.heap.size)
    (fun i _ => xs.length - (intOf i).toNat)
  case atStart => exact ⟨0, [], Nat.zero_le _, rfl, by simp [bk_zero], h0, KC.refl _ _ _, Nat.le_refl _⟩
  case round =>
    obtain ⟨k, ys, hk, rfl, hys, hJs, hnx, hsz⟩ := hrel
    by_cases hlt : k < xs.length
    · obtain ⟨x, hx⟩ : ∃ x, xs[k]? = some x := ⟨_, List.getElem?_eq_getElem hlt⟩
      obtain ⟨bb, off, hA, hb, c0, c1, c2, c3⟩ := row4 (hI.below (hnx.spare.below hB₀ hBL)).row hx rfl
      subst hA
      have DS := hnx.box lS (by decide) cS
      have DD := hnx.box lD (by decide) cD
      have dS := DS.cell (j := 0) rfl
      have dD := DD.cell (j := 0) rfl
      have dE := DD.cell (j := 1) rfl
      have yS : bS < wr.heap.size := DS.lt
      have yD : bD < wr.heap.size := DD.lt
      clear DS DD
      have hcap3 : (xs.length : Int) ≤ 4398046511104 := by omega
      rcases hqx : q x with _ | _
      · have hqm : meetB x.lo x.hi a b = false := by rw [← hqx, hq]
        gi_wp2_with (refine ⟨trivial, ?_⟩; gi_at_call 99; refine (callsIn_wide.2 (isInUse_any x a b _)).mono ?_; rintro e w1 ⟨rfl, hb1⟩; rw [hqm])
        refine ⟨fun _ h => (by cases h), ?_⟩
        gi_wp2
        go_roundw
        case rel =>
          have hB9 : Below wr.heap.size wr w1 := by (repeat (first | exact Below.refl _ _ | refine Below.setCell ?_ (by first | omega | (simp; omega) | (simp; done)) _ | refine Below.alloc ?_ (by first | omega | (simp; omega) | (simp; done)) _ | refine Below.drew ?_ | refine below_drewN ?_ _ | refine Below.trans ?_ (Below.mono (by assumption) (by first | omega | (simp; omega) | (simp; done)))))
          have hz9 := hB9.size
          exact ⟨k + 1, ys, by omega, by go_num, by rw [bk_no hx hqx]; exact hys, abides_below hJ hJs hB9, hnx.trans (kc_of_below hB9 (by omega)), by omega⟩
        case measure => simp [intOf]; omega
      · have hqm : meetB x.lo x.hi a b = true := by rw [← hqx, hq]
        gi_wp2
        refine ⟨trivial, ?_⟩
        refine (callsIn_wide.2 (isInUse_any x a b _)).mono ?_
        rintro e w1 ⟨rfl, hb1⟩
        rw [hqm]
        have hB9 : Below wr.heap.size wr w1 := by (repeat (first | exact Below.refl _ _ | refine Below.setCell ?_ (by first | omega | (simp; omega) | (simp; done)) _ | refine Below.alloc ?_ (by first | omega | (simp; omega) | (simp; done)) _ | refine Below.drew ?_ | refine below_drewN ?_ _ | refine Below.trans ?_ (Below.mono (by assumption) (by first | omega | (simp; omega) | (simp; done)))))
        have hz9 := hB9.size
        obtain ⟨fn, tmps, assign, body, hy, hR⟩ := hY ys ⟨(k, x), hx, hqx⟩ w1 (abides_below hJ hJs hB9) (by have h6 := congrArg List.length hys; have h7 := bk_len xs q k; rw [List.length_map] at h6; omega)
        dsimp only [Bk.enc] at hy
        have hcc0 := hb1.cell (p := ⟨wr.heap.size + 1, 0, none⟩) (by simp)
        have hcc1 := hb1.cell (p := ⟨wr.heap.size + 1, 1, none⟩) (by simp)
        have hcc2 := hb1.cell (p := ⟨wr.heap.size + 1, 2, none⟩) (by simp)
        have hcc3 := hb1.cell (p := ⟨wr.heap.size + 1, 3, none⟩) (by simp)
        gi_wp2
        refine hR.mono ?_
        clear hcc0 hcc1 hcc2 hcc3 hb1
        rintro e W3 (⟨rfl, hJ3, hk3⟩ | ⟨rfl, hJx3⟩)
        · have hk9 := hk3.size
          gi_wp2
          go_roundw
          case rel => exact ⟨k + 1, ys ++ [⟨(k, x), hx, hqx⟩], by omega, by go_num, by rw [bk_yes hx hqx, ← hys]; simp, hJ3, (hnx.trans (kc_of_below hB9 (by omega))).trans hk3, by omega⟩
          case measure => simp [intOf]; omega
        · gi_wp2
          refine bodyPost_ret (results_none rfl _ _ _) rfl ?_
          exact ⟨⟨_, rfl⟩, .inr ⟨_, ⟨k + 1, by omega, by rw [bk_yes hx hqx, ← hys]; simp⟩, hJx3⟩⟩
    · obtain rfl : k = xs.length := by omega
      gi_wp2
      go_end0
      exact ⟨⟨_, rfl⟩, .inl ⟨ys, hys, hJs⟩⟩
/-- what books holds, block by block -/
structure BooksBox (w : World) (bR bS bD : Nat) (A : Option Addr) (n cap : Nat) (a b : Int) : Prop where
  cR : w.cell? ⟨bR, 1, none⟩ = some (.slice A n cap)
  zR : bR < w.heap.size
  cS : CellsBox w bS 139 [.func (.func 99) #[] #[]]
  cD : CellsBox w bD 26 [vi a, vi b]
set_option maxRecDepth 100000 in
theorem books_box (r : Rack) (a b : Int) (w : World) :
    Calls Tryz.prog 70 #[r.val, vi 0, .agg #[vi a, vi b]] w fun e w' => ∃ bR bS bD, e = .returned (booksV bR bS bD) ∧ (w.heap.size ≤ bR ∧ w.heap.size ≤ bS ∧ w.heap.size ≤ bD) ∧ BooksBox w' bR bS bD r.ad r.issues.length r.cap a b ∧ Below w.heap.size w w' := by
  have hpk := pick_so (.func (.func 99) #[] #[]) (.func (.func 82) #[] #[])
  go_enter Tryz.func70, Tryz.ntmps70
  go_wp2_with fail
  refine (tellings_any _).mono ?_
  rintro e w1 ⟨rfl, hb1⟩
  have HD := box_below (CellsBox.new (w.alloc (.cells #[vi r.goods, r.slice] 56)) 26 [vi a, vi b]) hb1 (by simp)
  obtain ⟨⟨hc1, hf1, hs1⟩, hz1⟩ := after hb1
  (try simp only [World.size_alloc, World.size_setCell, World.size_drew] at hz1)
  simp only [World.size_alloc] at HD
  have HDa := box_alloc HD (.cells #[.func (.func 99) #[] #[]] 139)
  have HSa := CellsBox.new w1 139 [.func (.func 99) #[] #[]]
  have hq1 : w.heap.size < w1.heap.size := by omega
  have hq2 : w.heap.size + 1 < w1.heap.size := by omega
  go_wp2
  go_ret
  refine ⟨_, _, _, rfl, ⟨Nat.le_refl _, by omega, by omega⟩, ⟨by simp [go_sem, *], by simp; omega, HSa, HDa⟩, ?_⟩
  (repeat (first | exact Below.refl _ _ | refine Below.setCell ?_ (by first | omega | (simp; omega) | (simp; done)) _ | refine Below.alloc ?_ (by first | omega | (simp; omega) | (simp; done)) _ | refine Below.drew ?_ | refine below_drewN ?_ _ | refine Below.trans ?_ (Below.mono (by assumption) (by first | omega | (simp; omega) | (simp; done)))))
theorem books_stops_kc (n : Nat) (hn : 1 ≤ n) (a b : Int) (bR bS bD n₀ B₀ L : Nat) (A : Option Addr) (cap : Nat) (xs : List Issue) (w : World) (h : BooksBox w bR bS bD A xs.length cap a b)
    (hn₀ : n₀ ≤ w.heap.size) (hB₀ : B₀ ≤ n₀) (hBL : B₀ ≤ L) (lS : bS ≠ L) (lD : bD ≠ L) (hI : IssuesAt w B₀ A cap xs) :
    SeqStopsK Fence.wide n Tryz.prog 88 #[.pointer (some ⟨bR, 0, none⟩), .pointer (some ⟨bS, 0, none⟩), .pointer (some ⟨bD, 0, none⟩)] (Bk.enc (l := xs) (q := inUseQ a b)) (KC n₀ L)
      (fun ys => Bks ys = bk xs (inUseQ a b) xs.length) (fun pre => ∃ k, k ≤ xs.length ∧ Bks pre = bk xs (inUseQ a b) k) xs.length w := fun l J Jx W hW hJ hJx hY h0 => by
  have hz := hW.size
  exact books1_kc a b _ rfl n hn l bR bS bD n₀ B₀ L A cap xs J Jx W hJ hY (by omega) hB₀ hBL lS lD ((hW.cell (p := ⟨bR, 1, none⟩) h.zR).trans h.cR) (box_below h.cS hW h.cS.lt) (box_below h.cD hW h.cD.lt) (hI.below (hW.mono (by omega))) h0
end Go.Proofs.YtpcajmkmmkmekaaGreatDoor

/- What placesInUse produces. -/
namespace Go.Proofs.YtpcajmkmmkmekaaGreatDoor
open Go Go.RowKit Go.Shelf
set_option maxHeartbeats 2000000
attribute [local go_sem] Oper.semAt_some
abbrev plEnc (p : Int × Int) : Array Value := #[placeV p.1 p.2]
theorem yield_any {m m' l : Nat} {P : Program} {args : Array Value} {W : World} {R : Ending → World → Prop} (h : YieldAt Fence.wide m P l args W R) : YieldAt Fence.wide m' P l args W R := by
  obtain ⟨fn, tmps, assign, body, hy, h1, h2⟩ := h
  exact ⟨fn, tmps, assign, body, hy, h1, fun c cs _ => h2 c cs (fun d hd => by cases hd)⟩
theorem yield_in {m m' l l' : Nat} {P : Program} {args : Array Value} {W : World} {R : Ending → World → Prop} (h : YieldAt Fence.wide m P l args W R) : YieldAt (Fence.wide.inRound l') m' P l args W R := by
  obtain ⟨fn, tmps, assign, body, hy, h1, h2⟩ := h
  exact ⟨fn, tmps, assign, body, hy, h1, fun c cs _ => h2 c cs (fun d hd => by cases hd)⟩
theorem own_up {β : Type} {B B' : Nat} {I : β → World → Prop} (h : OwnFrom B I) (hB : B ≤ B') : OwnFrom B' I := fun s X Y row hs hg hr => h s X Y row hs hg fun r e => ⟨Nat.le_trans hB (hr r e).1, (hr r e).2⟩
theorem own_below {β : Type} {B : Nat} {J : β → World → Prop} (h : OwnFrom B J) {s : β} {w w' : World} (hs : J s w) (hb : Below w.heap.size w w') : J s w' :=
  h s w w' none hs (grown_of_below hb) fun r e => by cases e
set_option maxRecDepth 100000 in
theorem places_stops (n : Nat) (hn : 4 ≤ n) (r : Rack) (d : Int) (bR bD n₀ B₀ L : Nat) (w : World) (h : PlacesAt w bR bD r d) (hn₀ : n₀ ≤ w.heap.size) (hB₀ : B₀ ≤ n₀) (hBL : B₀ ≤ L) (hL : L < w.heap.size) (hI : IssuesAt w B₀ r.ad r.cap r.issues) (h24 : ∀ x ∈ r.issues, x.entries.length ≤ 24) :
    SeqO Fence.wide n Tryz.prog 93 #[.pointer (some ⟨bR, 0, none⟩), .pointer (some ⟨bD, 0, none⟩)] plEnc (KC n₀ L) (fun ys => ys = placesOn r d) (r.issues.length * 24) w := by
  intro l J W hW hJ hY h0
  have hzW := hW.size
  have e0 := (hW.cell (p := ⟨bR, 0, none⟩) h.zR).trans h.c0
  have e1 := (hW.cell (p := ⟨bR, 1, none⟩) h.zR).trans h.c1
  have e2 := (hW.cell (p := ⟨bD, 0, none⟩) h.zD).trans h.cD
  have zR := h.zR
  have zD := h.zD
  have zRW : bR < W.heap.size := by omega
  have zDW : bD < W.heap.size := by omega
  have zR1 : bR < W.heap.size + 1 := by omega
  have zD1 : bD < W.heap.size + 1 := by omega
  refine callsIn_of_wp_marks Tryz.func93 rfl trivial ?_ rfl
  simp only [Tryz.ntmps93, List.size_toArray, List.length_cons, List.length_nil, Nat.reduceAdd, Nat.reduceSub, Array.replicate_succ, Array.replicate_zero, List.push_toArray, List.append_toArray, List.nil_append, List.cons_append]
  gi_wp2_with fail
  refine wpIn_wide.2 ?_
  have hBa : Below W.heap.size W (W.alloc (.cells #[.func (.yield l) #[] #[]] 146)) := by (repeat (first | exact Below.refl _ _ | refine Below.setCell ?_ (by first | omega | (simp; omega) | (simp; done)) _ | refine Below.alloc ?_ (by first | omega | (simp; omega) | (simp; done)) _ | refine Below.drew ?_ | refine below_drewN ?_ _ | refine Below.trans ?_ (Below.mono (by assumption) (by first | omega | (simp; omega) | (simp; done)))))
  have f0 := (hBa.cell (p := ⟨bR, 0, none⟩) zRW).trans e0
  have f1 := (hBa.cell (p := ⟨bR, 1, none⟩) zRW).trans e1
  have f2 := (hBa.cell (p := ⟨bD, 0, none⟩) zDW).trans e2
  go_region_held3 (fun w' => w'.cell? ⟨bR, 0, none⟩ = some (vi r.goods) ∧ w'.cell? ⟨bR, 1, none⟩ = some r.slice ∧ w'.cell? ⟨bD, 0, none⟩ = some (vi d))
    (first
      | go_keep
      | (go_split_ands
         refine ⟨?_, ?_, ?_⟩
         all_goals first
           | ((rw [hba.cell (by first | omega | (simp; omega) | (simp; done))]); assumption)
           | ((rw [hbq.cell (by first | omega | (simp; omega) | (simp; done))]); assumption)))
    (first
      | (go_at_call 58; refine (oneDay_any _ _).mono ?_; rintro e wa ⟨rfl, hba⟩; have hza := hba.size; (try simp only [World.size_drew, World.size_alloc] at hza))
      | (go_at_call 70; refine (books_box r d d _).mono ?_; rintro e wq ⟨cR, cS, cD, rfl, ⟨y1, y2, y3⟩, hBk, hbq⟩; have hzq := hbq.size))
  have HB2 : Below W.heap.size W wq := by (repeat (first | exact Below.refl _ _ | refine Below.setCell ?_ (by first | omega | (simp; omega) | (simp; done)) _ | refine Below.alloc ?_ (by first | omega | (simp; omega) | (simp; done)) _ | refine Below.drew ?_ | refine below_drewN ?_ _ | refine Below.trans ?_ (Below.mono (by assumption) (by first | omega | (simp; omega) | (simp; done)))))
  have zQ : W.heap.size < wq.heap.size := by omega
  have CY : CellsBox wq W.heap.size 146 [.func (.yield l) #[] #[]] := box_below (CellsBox.new W 146 [.func (.yield l) #[] #[]]) (((Below.refl _ _).drew.trans (hba.mono (by simp))).trans (hbq.mono (by omega))) (Nat.lt_succ_self W.heap.size)
  have hcap := hI.cap
  have hlen := hI.len
  have H24 := Lib.hid h24
  have hIq : IssuesAt wq B₀ r.ad r.cap r.issues := (hI.below (hW.mono (by omega))).below (HB2.mono (by omega))
  clear e0 e1 e2 f0 f1 f2 hBa hba hbq h24
  rename_i hHeld
  clear hHeld
  go_wp2_with fail
  gi_wp2_with fail
  refine wpIn_rangeFunc_ownH rfl (by omega) (gf := 88) (lb := #[.pointer (some ⟨cR, 0, none⟩), .pointer (some ⟨cS, 0, none⟩), .pointer (some ⟨cD, 0, none⟩)]) rfl trivial (enters_of Tryz.func88 (by kernel_rfl) rfl)
    (books_stops_kc _ (by omega) d d cR cS cD n₀ B₀ L r.ad r.cap r.issues wq hBk (by omega) hB₀ hBL (by omega) (by omega) hIq) (fun h k => KC.trans h k) (fun X k o o' hl hk hc _ => KC.turn L X k o o' (by omega) hk hc) (Below.refl _ _) (fun _ => rfl)
    (fun ys X => J (placesL (Bks ys)) X ∧ KC n₀ L wq X)
    (fun _ _ _ => False)
    (OwnFrom.and (fun s X Y row hs hg hr => hJ _ X Y row hs hg fun r e => ⟨by have := (hr r e).1; omega, (hr r e).2⟩) (ownFrom_kc (by omega) (by omega)))
    (fun _ _ _ _ _ hs _ _ => hs)
    ⟨own_below hJ h0 HB2, KC.refl _ _ _⟩
    (fun x a' X => ∃ Bx, wq.heap.size ≤ Bx ∧ CellsBox X Bx 82 [vi x.1.2.lo, vi x.1.2.hi, vi x.1.2.held, x.1.2.slice] ∧ a' = { tmps := #[.func (.yield l) #[] #[], .pointer (some ⟨bR, 0, none⟩), .pointer (some ⟨bD, 0, none⟩), .pointer (some ⟨W.heap.size, 0, none⟩), vi x.1.1, .pointer (some ⟨Bx, 0, none⟩), undef, undef, .agg #[vi r.goods, r.slice], vi d, .agg #[vi d, vi d], booksV cR cS cD, vi x.1.1, x.1.2.val, undef, undef, undef, undef, undef, undef, undef, undef, undef, undef, undef, undef, undef, undef, undef, undef], defers := [] })
    (fun x a' _ X Y row hs hg hr => by obtain ⟨Bx, h1, h2, h3⟩ := hs; exact ⟨Bx, h1, cellsBox_own Bx 82 (fun (_ : Unit) => [vi x.1.2.lo, vi x.1.2.hi, vi x.1.2.held, x.1.2.slice]) () X Y row h2 hg (fun r e => (hr r e).2), h3⟩)
    ?assign ?body ?done ?stop
  case assign =>
    rintro l' pre ⟨⟨i, x⟩, hx, hqx⟩ X K ⟨hj, hk⟩ hK
    have hs9 := hk.size
    gi_wp2
    exact hK _ _ ((KeepsOthers.alloc _ _).from _) (kc_of_below ((Below.refl _ X).alloc (Nat.le_refl _) _) (by omega)) ⟨own_below hJ hj ((Below.refl _ X).alloc (Nat.le_refl _) _), hk.trans (kc_of_below ((Below.refl _ X).alloc (Nat.le_refl _) _) (by omega))⟩ ⟨X.heap.size, by omega, CellsBox.new X 82 [vi x.lo, vi x.hi, vi x.held, x.slice], rfl⟩
  case body =>
    rintro l' pre ⟨⟨i, ⟨xlo, xhi, xhd, xA, xcap, xl⟩⟩, hx, hqx⟩ a' X hl' ⟨rr, hrr⟩ ⟨hj, hk⟩ ⟨Bx, hBx, hbx, rfl⟩ hlt
    have hs9 := hk.size
    have hxe : EntriesAt X B₀ xA xcap xl := (hIq.below (hk.spare.below hB₀ hBL)).at_ hx
    have hxc := hxe.cap
    have hxl := hxe.len
    have hx24 : xl.length ≤ 24 := H24.out _ (List.mem_of_getElem? hx)
    have hpl : (placesL (Bks pre)).length ≤ pre.length * 24 := by
      have := placesL_len (bs := Bks pre) (m := 24) (by
        intro p hp
        obtain ⟨y, _, rfl⟩ := List.mem_map.1 hp
        exact H24.out _ (List.mem_of_getElem? y.2.1))
      rwa [List.length_map] at this
    have hp : pre.length < r.issues.length := hlt
    have HX : Hid (r.issues[i]? = some ⟨xlo, xhi, xhd, xA, xcap, xl⟩) := hx
    replace hbx : CellsBox X Bx 82 [vi xlo, vi xhi, vi xhd, .slice xA xl.length xcap] := hbx
    have x3 := hbx.cell (j := 3) rfl
    have zx := hbx.lt
    gi_wp2_with fail
    have hxc2 : (xcap : Int) ≤ 4398046511104 := by omega
    have hxl2 : (xl.length : Int) ≤ 24 := by omega
    gi_loopw [18] (fun j wr => ∃ k : Nat, k ≤ xl.length ∧ j = .int .i64 k ∧ J (placesL (Bks pre) ++ entP i ⟨xlo, xhi, xhd, xA, xcap, xl⟩ k) wr ∧ KC n₀ L X wr ∧ KeepsFrom wq.heap.size X wr) (fun j _ => xl.length - (intOf j).toNat)
    case atStart => exact ⟨0, Nat.zero_le _, rfl, by rw [entP_zero, List.append_nil]; exact hj, KC.refl _ _ _, KeepsFrom.refl _ _⟩
    case round =>
      obtain ⟨k, hkl, rfl, hjr, hkr, hfr⟩ := hrel
      have hsr := hkr.size
      by_cases hlt2 : k < xl.length
      · obtain ⟨e, he⟩ : ∃ e, xl[k]? = some e := ⟨_, List.getElem?_eq_getElem hlt2⟩
        obtain ⟨bb, off, rfl, hb, c0, c1, c2, c3⟩ := row4 (hxe.below (hkr.spare.below hB₀ hBL)).row he rfl
        have cYr := (hkr.box (by omega) (by decide) (hk.box (by omega) (by decide) CY)).cell (j := 0) rfl
        have zY : W.heap.size < wr.heap.size := by omega
        have zb : bb < wr.heap.size := by omega
        have hstep : Hid (entP i ⟨xlo, xhi, xhd, some ⟨bb, off, none⟩, xcap, xl⟩ (k + 1) = entP i ⟨xlo, xhi, xhd, some ⟨bb, off, none⟩, xcap, xl⟩ k ++ [((i : Int), e.number)]) := entP_succ he
        have hel : (entP i ⟨xlo, xhi, xhd, some ⟨bb, off, none⟩, xcap, xl⟩ k).length ≤ k := by rw [entP, List.length_map, List.length_take]; omega
        have hle : (placesL (Bks pre) ++ entP i ⟨xlo, xhi, xhd, some ⟨bb, off, none⟩, xcap, xl⟩ k).length < r.issues.length * 24 := by
          rw [List.length_append]
          omega
        have hkI : (k : Int) < xl.length := by omega
        have h0I : (0 : Int) ≤ k := by omega
        have hY1 := yield_in (l' := l') (m' := n - 1 - 1 - 1) (hY _ ((i : Int), e.number) (wr.alloc (.cells #[vi e.number, vi e.good, vi e.colours, e.slice] 68)) (hJ.alloc _ hjr) hle)
        clear he hle hel
        obtain ⟨fn, tmps, assign, body, hy, hR⟩ := hY1
        dsimp only [plEnc] at hy
        gi_wp2
        refine ⟨fun _ => by omega, hR.mono ?_⟩
        rintro e' W3 ⟨rfl, hj3, hk3, hf3⟩
        gi_wp2
        go_roundw
        case rel =>
          exact ⟨k + 1, by omega, by go_num, by rw [hstep.out, ← List.append_assoc]; exact hj3, hkr.trans ((kc_of_below ((Below.refl _ wr).alloc (Nat.le_refl _) _) (by omega)).trans hk3), hfr.trans (((KeepsOthers.alloc _ _).from _).trans (keeps_up hf3 (by omega)))⟩
        case measure => simp [intOf]; omega
      · obtain rfl : k = xl.length := by omega
        gi_wp2
        refine ⟨hfr, hkr, ?_, hk.trans hkr⟩
        have hall : placesL (Bks pre) ++ entP i ⟨xlo, xhi, xhd, xA, xcap, xl⟩ xl.length = placesL (Bks (pre ++ [⟨(i, ⟨xlo, xhi, xhd, xA, xcap, xl⟩), hx, hqx⟩])) := by
          rw [Bks, Bks, List.map_append]
          exact entP_all _ i ⟨xlo, xhi, xhd, xA, xcap, xl⟩
        rw [← hall]
        exact hjr
  case done =>
    rintro D ys X hD hys ⟨hj, hk⟩ hK
    have HYS := Lib.hid hys
    clear hys
    gi_wp2
    refine ⟨by simp, .inl ⟨_, _, rfl, run_takeDeferred hK, ?_⟩⟩
    refine ⟨_, results_none rfl _ _ _, ⟨_, rfl⟩, _, ?_, hJ.putObj _ hj (by omega) hK rfl⟩
    rw [placesOn, HYS.out]
  case stop =>
    rintro D c pre W _ _ h _
    exact h.elim
end Go.Proofs.YtpcajmkmmkmekaaGreatDoor

