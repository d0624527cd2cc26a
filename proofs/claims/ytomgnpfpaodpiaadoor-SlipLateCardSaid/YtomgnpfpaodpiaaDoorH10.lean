/- Contract of floor.isRoster. -/
import Derived.Test.YtomgnpfpaodpiaaDoorH06
import Derived.Test.YtomgnpfpaodpiaaDoorH09
import Derived.Test.YtomgnpfpaodpiaaDoorH01
import Derived.OpenShut
set_option linter.unusedVariables false
set_option linter.unusedSimpArgs false
namespace Go.Proofs.YtomgnpfpaodpiaaDoor
open Go Go.RowKit
set_option maxHeartbeats 2000000
structure SRow where
  ad : Option Addr
  cap : Nat
  slips : List Int
abbrev SRow.slice (t : SRow) : Value := .slice t.ad t.slips.length t.cap
def SRow.cells (t : SRow) : List Value := [t.slice]
structure RosterAt (w : World) (B : Nat) (A : Option Addr) (cap : Nat) (ts : List SRow) : Prop where
  rows : RowsAt w B 1 A cap (ts.map SRow.cells)
  each : ∀ t ∈ ts, IntsAt w B t.ad t.cap t.slips
theorem RosterAt.to {w w' : World} {A : Option Addr} {cap : Nat} {ts : List SRow} (h : RosterAt w w.heap.size A cap ts) (hb : Below w.heap.size w w') : RosterAt w' w'.heap.size A cap ts := ⟨h.rows.to hb, fun t ht => (h.each t ht).to hb⟩
def stepR (f : Floor) (o : Option Nat) (n : Int) : Option Nat := match o with | none => none | some m => if slipB f n && !(m.testBit n.toNat) then some (m ||| 2 ^ n.toNat) else none
theorem step_none (f : Floor) : ∀ l : List Int, l.foldl (stepR f) none = none
  | [] => rfl
  | _ :: l => step_none f l
def rowsR (f : Floor) (o : Option Nat) (ts : List SRow) : Option Nat := ts.foldl (fun o t => t.slips.foldl (stepR f) o) o
theorem rows_none (f : Floor) : ∀ ts : List SRow, rowsR f none ts = none
  | [] => rfl
  | t :: ts => by
    unfold rowsR
    rw [List.foldl_cons, step_none]
    exact rows_none f ts
def rosterB (f : Floor) (ts : List SRow) : Bool := hasB 1 5 ts.length && (rowsR f (some 0) ts == some (2 ^ f.slips.length - 1))
theorem rows_succ {f : Floor} {ts : List SRow} {k : Nat} {t : SRow} (h : ts[k]? = some t) : rowsR f (some 0) (ts.take (k + 1)) = t.slips.foldl (stepR f) (rowsR f (some 0) (ts.take k)) := by
  obtain ⟨hk, rfl⟩ := List.getElem?_eq_some_iff.1 h
  unfold rowsR
  rw [List.take_succ_eq_append_getElem hk, List.foldl_append]
  rfl
theorem rows_rest {f : Floor} {ts : List SRow} {k : Nat} (hk : rowsR f (some 0) (ts.take k) = none) : rowsR f (some 0) ts = none := by
  have e : rowsR f (some 0) (ts.take k ++ ts.drop k) = rowsR f (rowsR f (some 0) (ts.take k)) (ts.drop k) := by unfold rowsR; rw [List.foldl_append]
  rw [List.take_append_drop, hk, rows_none] at e
  exact e
theorem step_succ {f : Floor} {l : List Int} {j : Nat} {x : Int} (o : Option Nat) (h : l[j]? = some x) : (l.take (j + 1)).foldl (stepR f) o = stepR f ((l.take j).foldl (stepR f) o) x := by
  obtain ⟨hj, rfl⟩ := List.getElem?_eq_some_iff.1 h
  rw [List.take_succ_eq_append_getElem hj, List.foldl_append]
  rfl
theorem step_rest {f : Floor} {l : List Int} {j : Nat} {o : Option Nat} (hj : (l.take j).foldl (stepR f) o = none) : l.foldl (stepR f) o = none := by
  have e : (l.take j ++ l.drop j).foldl (stepR f) o = (l.drop j).foldl (stepR f) ((l.take j).foldl (stepR f) o) := by rw [List.foldl_append]
  rw [List.take_append_drop, hj, step_none] at e
  exact e
theorem all_is {f : Floor} {a : Int} (ha : ((2 ^ f.slips.length - 1 : Nat) : Int) = a) (hs : f.slips.length ≤ 9) (w : World) :
    Calls Tryd.prog 71 #[f.val] w fun e w' => e = .returned (vi a) ∧ Below w.heap.size w w' := by
  subst ha
  exact all_any f hs w
theorem isRoster_any (f : Floor) (hf9 : f.slips.length ≤ 9) (A : Option Addr) (cap : Nat) (ts : List SRow) (w : World) (hl : Lim w) (ht : RosterAt w w.heap.size A cap ts) :
    Calls Tryd.prog 65 #[f.val, .slice A ts.length cap] w fun e w' => e = .returned (.bool (rosterB f ts)) ∧ Below w.heap.size w w' := by
  have htl := ht.rows.lens
  have HL := Lib.hid hl
  have HT := Lib.hid ht
  obtain ⟨r0, r1⟩ := hl.row 9 (by omega) (a := 1) (b := 5) (by decide) (by decide)
  have hp := hl.pos
  have HF9 := Lib.hid hf9
  obtain ⟨an, han⟩ : ∃ an, an = rosterB f ts := ⟨_, rfl⟩
  rcases h1 : hasB 1 5 ts.length with _ | _
  · have E : Hid (an = false) := by unfold Hid; rw [han, rosterB, h1]; rfl
    have H1 := Lib.hid h1
    rw [← han]
    clear h1 han ht hl hf9
    obtain ⟨fA, fC, ff, slo, shi, pA, pC, fp, fc, sA, sC, fs⟩ := f
    show Calls Tryd.prog 65 #[.agg #[.slice fA ff.length fC, vi slo, vi shi, .slice pA fp.length pC, vi fc, .slice sA fs.length sC], .slice A ts.length cap] w _
    go_enter Tryd.func65, Tryd.ntmps65
    go_wp2_with (go_at_call 73; refine (has_is H1.out _).mono ?_; rintro e w1 ⟨rfl, hb1⟩; obtain ⟨⟨hc1, hf1, hs1⟩, hz1⟩ := after hb1; (try simp only [World.size_alloc, World.size_setCell, World.size_drew] at hz1))
    go_ret
    refine ⟨retB E.out.symm, ?_⟩
    (repeat (first | exact Below.refl _ _ | refine Below.setCell ?_ (by first | omega | (simp; omega) | (simp; done)) _ | refine Below.alloc ?_ (by first | omega | (simp; omega) | (simp; done)) _ | refine Below.drew ?_ | refine below_drewN ?_ _ | refine Below.trans ?_ (Below.mono (by assumption) (by first | omega | (simp; omega) | (simp; done)))))
  have H1 := Lib.hid h1
  have BAD : Hid (∀ k, rowsR f (some 0) (ts.take k) = none → an = false) := fun k hk => by
    rw [han, rosterB, rows_rest hk, h1]; rfl
  have HX : Hid (∀ (k : Nat) (t : SRow), ts[k]? = some t → rowsR f (some 0) (ts.take (k + 1)) = t.slips.foldl (stepR f) (rowsR f (some 0) (ts.take k))) := fun k t hk => rows_succ hk
  have AL := Lib.hid (fun (a : Int) ha => all_is (f := f) (a := a) ha hf9)
  have FIN : Hid (∀ m : Nat, rowsR f (some 0) (ts.take ts.length) = some m → an = (((m : Int)) == ((2 ^ f.slips.length - 1 : Nat) : Int))) := fun m hm => by
    rw [List.take_length] at hm
    rw [han, rosterB, h1, hm, Bool.true_and, Bool.eq_iff_iff]
    simp
    omega
  have SB := Lib.hid (fun (n : Int) (b : Bool) (hb : slipB f n = b) (W : World) => slip_is hb W (by omega : f.slips.length ≤ 35184372088832))
  have ST : Hid (∀ (m : Nat) (n : Int), stepR f (some m) n = if slipB f n && !(m.testBit n.toNat) then some (m ||| 2 ^ n.toNat) else none) := fun m n => rfl
  have SR : Hid (∀ n : Int, slipB f n = true → ∃ s : Nat, n = s ∧ s < 9) := fun n hn => by
    unfold slipB at hn
    simp only [Bool.and_eq_true, decide_eq_true_eq] at hn
    exact ⟨n.toNat, by omega, by omega⟩
  have H0 : Hid (rowsR f (some 0) (ts.take 0) = some 0) := rfl
  rw [← han]
  clear h1 han ht hl hf9
  obtain ⟨al, hal⟩ : ∃ al : Int, ((2 ^ f.slips.length - 1 : Nat) : Int) = al := ⟨_, rfl⟩
  have AL2 := Lib.hid (AL.out al hal)
  rw [hal] at FIN
  clear AL hal
  obtain ⟨st, hst⟩ : ∃ st, st = stepR f := ⟨_, rfl⟩
  obtain ⟨sb, hsb⟩ : ∃ sb, sb = slipB f := ⟨_, rfl⟩
  obtain ⟨G, hG⟩ : ∃ G, G = fun k => rowsR f (some 0) (ts.take k) := ⟨_, rfl⟩
  have eG : ∀ k, rowsR f (some 0) (ts.take k) = G k := fun k => by rw [hG]
  have SUC : Hid (∀ (l : List Int) (j : Nat) (x : Int) (o : Option Nat), l[j]? = some x → (l.take (j + 1)).foldl st o = st ((l.take j).foldl st o) x) := fun l j x o h => by rw [hst]; exact step_succ o h
  have RES : Hid (∀ (l : List Int) (j : Nat) (o : Option Nat), (l.take j).foldl st o = none → l.foldl st o = none) := fun l j o h => by rw [hst] at h ⊢; exact step_rest h
  simp only [eG] at BAD HX FIN H0
  rw [← hst] at HX ST
  rw [← hsb] at SB ST SR
  clear hst hsb hG eG
  obtain ⟨fA, fC, ff, slo, shi, pA, pC, fp, fc, sA, sC, fs⟩ := f
  show Calls Tryd.prog 65 #[.agg #[.slice fA ff.length fC, vi slo, vi shi, .slice pA fp.length pC, vi fc, .slice sA fs.length sC], .slice A ts.length cap] w _
  go_enter Tryd.func65, Tryd.ntmps65
  go_wp2_with fail
  refine (has_is H1.out _).mono ?_
  rintro e W ⟨rfl, hb⟩
  have HB0 : Below w.heap.size w W := by (repeat (first | exact Below.refl _ _ | refine Below.setCell ?_ (by first | omega | (simp; omega) | (simp; done)) _ | refine Below.alloc ?_ (by first | omega | (simp; omega) | (simp; done)) _ | refine Below.drew ?_ | refine below_drewN ?_ _ | refine Below.trans ?_ (Below.mono (by assumption) (by first | omega | (simp; omega) | (simp; done)))))
  have a0 : W.cell? ⟨w.heap.size, 0, none⟩ = some (.slice fA ff.length fC) := cell_keep hb (by simp [go_sem])
  have a1 : W.cell? ⟨w.heap.size, 1, none⟩ = some (vi slo) := cell_keep hb (by simp [go_sem])
  have a2 : W.cell? ⟨w.heap.size, 2, none⟩ = some (vi shi) := cell_keep hb (by simp [go_sem])
  have a3 : W.cell? ⟨w.heap.size, 3, none⟩ = some (.slice pA fp.length pC) := cell_keep hb (by simp [go_sem])
  have a4 : W.cell? ⟨w.heap.size, 4, none⟩ = some (vi fc) := cell_keep hb (by simp [go_sem])
  have a5 : W.cell? ⟨w.heap.size, 5, none⟩ = some (.slice sA fs.length sC) := cell_keep hb (by simp [go_sem])
  have za := cell_lt a0
  clear hb r0 r1 hp
  go_wp2_with fail
  go_loopw [5, 7, 9, 18, 24] (fun x v y i i2 wr => ∃ k m : Nat, k ≤ ts.length ∧ i = .int .i64 k ∧ Below W.heap.size W wr ∧ x = vi m ∧ m < 512 ∧ Hid (G k = some m)) (fun _ _ _ i _ _ => ts.length - (intOf i).toNat)
  case atStart => exact ⟨0, 0, Nat.zero_le _, rfl, Below.refl _ _, rfl, by omega, H0.out⟩
  obtain ⟨k, m, hk, rfl, hB, rfl, hm, HG⟩ := hrel
  have hz := hB.size
  have HBr : Below w.heap.size w wr := gr_trans HB0 hB
  obtain ⟨wo, hwo⟩ : ∃ wo, wo = wr := ⟨_, rfl⟩
  subst hwo
  have a0r := cell_keep hB a0
  have a1r := cell_keep hB a1
  have a2r := cell_keep hB a2
  have a3r := cell_keep hB a3
  have a4r := cell_keep hB a4
  have a5r := cell_keep hB a5
  have zar := cell_lt a0r
  by_cases hlt : k < ts.length
  · obtain ⟨t, ht⟩ : ∃ t, ts[k]? = some t := ⟨_, List.getElem?_eq_getElem hlt⟩
    have hTr := HT.out.to HBr
    obtain ⟨bb, off, rfl, hbb, x0⟩ := row1 hTr.rows.row ht rfl
    have HTL := Lib.hid (hTr.each t (List.mem_of_getElem? ht))
    have hln := HTL.out.lens
    have HXk := Lib.hid (HX.out k t ht)
    have zbb : bb < wo.heap.size := cell_lt x0
    have hkI : (k : Int) < ts.length := by omega
    have h0k : (0 : Int) ≤ k := by omega
    clear ht hTr
    obtain ⟨tA, tC, tl⟩ := t
    simp only at HTL HXk hln
    replace x0 : wo.cell? ⟨bb, off + k, none⟩ = some (.slice tA tl.length tC) := x0
    go_wp2_with fail
    go_loopw [5, 9, 24] (fun x y i w2 => ∃ j m2 : Nat, j ≤ tl.length ∧ i = .int .i64 j ∧ Below wo.heap.size wo w2 ∧ x = vi m2 ∧ m2 < 512 ∧ Hid ((tl.take j).foldl st (some m) = some m2)) (fun _ _ i _ => tl.length - (intOf i).toNat)
    case atStart => exact ⟨0, m, Nat.zero_le _, rfl, Below.refl _ _, rfl, hm, rfl⟩
    obtain ⟨j, m2, hj, rfl, hB2, rfl, hm2, HJ⟩ := hrel
    have hz2 := hB2.size
    have HBW : Below W.heap.size W wr := gr_trans hB hB2
    have HBw : Below w.heap.size w wr := gr_trans HB0 HBW
    by_cases hjl : j < tl.length
    · obtain ⟨x, hx⟩ : ∃ x, tl[j]? = some x := ⟨_, List.getElem?_eq_getElem hjl⟩
      obtain ⟨bc, oc, rfl, hbc, y0⟩ := ints_at (HTL.out.to hB2) hx
      have SX := SUC.out tl j x (some m) hx
      rw [HJ.out, ST.out m2 x] at SX
      have SXX := Lib.hid SX
      have hjI : (j : Int) < tl.length := by omega
      have h0j : (0 : Int) ≤ j := by omega
      have zbc : bc < wr.heap.size := cell_lt y0
      have b0 := cell_keep hB2 a0r
      have b1 := cell_keep hB2 a1r
      have b2 := cell_keep hB2 a2r
      have b3 := cell_keep hB2 a3r
      have b4 := cell_keep hB2 a4r
      have b5 := cell_keep hB2 a5r
      have zb := cell_lt b0
      have NONE : Hid ((tl.take (j + 1)).foldl st (some m) = none → an = false) := fun h => BAD.out (k + 1) (by rw [HXk.out, HG.out]; exact RES.out tl (j + 1) (some m) h)
      clear hx SX a0r a1r a2r a3r a4r a5r x0
      rcases hs : sb x with _ | _
      · have E : Hid (an = false) := NONE.out (by rw [SXX.out, hs]; rfl)
        have SB1 := Lib.hid (SB.out x false hs)
        clear hs
        go_wp2_with fail
        refine (SB1.out _).mono ?_
        rintro e W3 ⟨rfl, hb3⟩
        go_wp2_with fail
        go_ret
        exact ⟨retB E.out.symm, gr_trans HBw hb3⟩
      · have SB1 := Lib.hid (SB.out x true hs)
        obtain ⟨s, rfl, s9⟩ := SR.out x hs
        have HSX := Lib.hid hs
        clear hs
        rcases hb : m2.testBit s with _ | _
        · have HH := Lib.hid (setHas_is hb hm2 s9)
          have HW := Lib.hid (setWith_any m2 s hm2 s9)
          have NEXT : Hid ((tl.take (j + 1)).foldl st (some m) = some (m2 ||| 2 ^ s)) := by unfold Hid; rw [SXX.out, HSX.out]; simp [hb]
          have hlt2 : m2 ||| 2 ^ s < 512 := Nat.or_lt_two_pow (n := 9) (by omega) (Nat.pow_lt_pow_right (by omega) s9)
          obtain ⟨m3, hm3⟩ : ∃ m3, m3 = m2 ||| 2 ^ s := ⟨_, rfl⟩
          rw [← hm3] at HW NEXT hlt2
          clear hb hm3
          go_wp2_with fail
          refine (SB1.out _).mono ?_
          rintro e W3 ⟨rfl, hb3⟩
          go_wp2_with fail
          refine (HH.out _).mono ?_
          rintro e W4 ⟨rfl, hb4⟩
          go_wp2_with fail
          refine (HW.out _).mono ?_
          rintro e W5 ⟨rfl, hb5⟩
          go_wp2_with fail
          go_roundw
          case rel => exact ⟨j + 1, m3, by omega, by go_num, gr_trans (gr_trans (gr_trans hB2 hb3) hb4) hb5, rfl, hlt2, NEXT.out⟩
          case measure => simp [intOf]; omega
        · have HH := Lib.hid (setHas_is hb hm2 s9)
          have E : Hid (an = false) := NONE.out (by rw [SXX.out, HSX.out]; simp [hb])
          clear hb
          go_wp2_with fail
          refine (SB1.out _).mono ?_
          rintro e W3 ⟨rfl, hb3⟩
          go_wp2_with fail
          refine (HH.out _).mono ?_
          rintro e W4 ⟨rfl, hb4⟩
          go_wp2_with fail
          go_ret
          exact ⟨retB E.out.symm, gr_trans (gr_trans HBw hb3) hb4⟩
    · obtain rfl : j = tl.length := by omega
      have NEXT : Hid (G (k + 1) = some m2) := by unfold Hid; rw [HXk.out, HG.out, ← HJ.out, List.take_length]
      go_wp2_with fail
      go_roundw
      case rel => exact ⟨k + 1, m2, by omega, by go_num, HBW, rfl, hm2, NEXT.out⟩
      case measure => simp [intOf]; omega
  · obtain rfl : k = ts.length := by omega
    have E := Lib.hid (FIN.out m HG.out)
    go_wp2_with fail
    refine (AL2.out _).mono ?_
    rintro e W3 ⟨rfl, hb3⟩
    go_wp2_with fail
    go_ret
    exact ⟨retB E.out.symm, gr_trans HBr hb3⟩
end Go.Proofs.YtomgnpfpaodpiaaDoor

/- How a floor, tours, and lists of slips read as data. -/
namespace Go.Proofs.YtomgnpfpaodpiaaDoor
open Go Go.RowKit Go.Deep Go.ChangeShapes Go.WideShapes
set_option maxHeartbeats 1000000
instance : Inhabited SLine := ⟨⟨0, 0⟩⟩
instance : Inhabited SSlip := ⟨⟨none, 0, [], 0⟩⟩
instance : Inhabited STour := ⟨⟨none, 0, []⟩⟩
instance : Inhabited SRow := ⟨⟨none, 0, []⟩⟩
section
variable {H : Type} {enc : TypeId × Value → H} {w : World}
abbrev Rd (P : Program) (enc : TypeId × Value → H) (w : World) (n : Nat) (t : TypeId) (cs : List Value) : Option (DataW H × List MemPlace) := DataW.trod enc P w 0 (fun _ => true) true n t cs
theorem read_fields {t : TypeId} {L : List (TypeId × Nat)} (hu : Tryd.prog.underlying t = some (.struct (Tryd.prog.fieldsOf t))) (hL : ((Tryd.prog.fieldsOf t).toList.map fun f => (f.type, f.offset)) = L)
    {n : Nat} {cs : List Value} {y : DataW H × List MemPlace} (h : Rd Tryd.prog enc w n t cs = some y) (hy : Fair Tryd.prog t y.1) :
    cs.length = Tryd.prog.cellsOf t ∧ ∃ m, ∀ (i : Nat) (ty : TypeId) (off : Nat), L[i]? = some (ty, off) → ∃ z, Rd Tryd.prog enc w m ty ((cs.drop off).take (Tryd.prog.cellsOf ty)) = some z ∧ Fair Tryd.prog ty z.1 := by
  obtain ⟨xs, m, _, rfl, hl, hlen, hf⟩ := DataW.trod_struct hu h
  refine ⟨hl, m, fun i ty off hi => ?_⟩
  rw [← hL, List.getElem?_map] at hi
  cases hfi : (Tryd.prog.fieldsOf t).toList[i]? with
  | none => rw [hfi] at hi; cases hi
  | some f =>
    rw [hfi] at hi
    simp only [Option.map_some, Option.some.injEq, Prod.mk.injEq] at hi
    obtain ⟨rfl, rfl⟩ := hi
    have h1 := hf i f (by simpa using hfi)
    have hilt : i < xs.length := by
      have := (List.getElem?_eq_some_iff.1 hfi).1
      rw [hlen]; simpa using this
    rw [List.getElem?_eq_getElem hilt] at h1
    refine ⟨_, h1, fun k hk => hy k ?_⟩
    simp only [DataW.weights, hu]
    exact DataW.weights_mem_each (j := i) (by rw [List.getElem?_map, hfi]; rfl) (by rw [List.getElem?_map, List.getElem?_eq_getElem hilt]; rfl) k hk
theorem read_int {n : Nat} {cs : List Value} {y : DataW H × List MemPlace} (h : Rd Tryd.prog enc w n 3 cs = some y) : ∃ k, cs = [vi k] := by
  obtain ⟨k, h1, _⟩ := DataW.trod_int Tryd.underlying3 h
  exact ⟨k, h1⟩
theorem list4 {α : Type} {l : List α} (h : l.length = 4) : ∃ a b c d, l = [a, b, c, d] := by
  match l, h with
  | [a, b, c, d], _ => exact ⟨a, b, c, d, rfl⟩
theorem list2 {α : Type} {l : List α} (h : l.length = 2) : ∃ a b, l = [a, b] := by
  match l, h with
  | [a, b], _ => exact ⟨a, b, rfl⟩
theorem list3 {α : Type} {l : List α} (h : l.length = 3) : ∃ a b c, l = [a, b, c] := by
  match l, h with
  | [a, b, c], _ => exact ⟨a, b, c, rfl⟩
theorem list6 {α : Type} {l : List α} (h : l.length = 6) : ∃ a b c d e f, l = [a, b, c, d, e, f] := by
  match l, h with
  | [a, b, c, d, e, f], _ => exact ⟨a, b, c, d, e, f, rfl⟩
theorem us : Tryd.prog.underlying 24 = some (.struct (Tryd.prog.fieldsOf 24)) := by kernel_rfl
theorem ls : ((Tryd.prog.fieldsOf 24).toList.map fun f => (f.type, f.offset)) = [(3, 0), (3, 1)] := by kernel_rfl
theorem ul : Tryd.prog.underlying 64 = some (.struct (Tryd.prog.fieldsOf 64)) := by kernel_rfl
theorem ll : ((Tryd.prog.fieldsOf 64).toList.map fun f => (f.type, f.offset)) = [(3, 0), (3, 1)] := by kernel_rfl
theorem ux : Tryd.prog.underlying 52 = some (.struct (Tryd.prog.fieldsOf 52)) := by kernel_rfl
theorem lx : ((Tryd.prog.fieldsOf 52).toList.map fun f => (f.type, f.offset)) = [(50, 0), (3, 1)] := by kernel_rfl
theorem ur : Tryd.prog.underlying 28 = some (.struct (Tryd.prog.fieldsOf 28)) := by kernel_rfl
theorem lr : ((Tryd.prog.fieldsOf 28).toList.map fun f => (f.type, f.offset)) = [(22, 0), (24, 1), (25, 3), (3, 4), (26, 5)] := by kernel_rfl
theorem ki : Tryd.prog.cellsOf 3 = 1 := by kernel_rfl
theorem ks : Tryd.prog.cellsOf 24 = 2 := by kernel_rfl
theorem kl : Tryd.prog.cellsOf 64 = 2 := by kernel_rfl
theorem kx : Tryd.prog.cellsOf 52 = 2 := by kernel_rfl
theorem kr : Tryd.prog.cellsOf 28 = 6 := by kernel_rfl
theorem kl1 : Tryd.prog.cellsOf 50 = 1 := by kernel_rfl
theorem kl2 : Tryd.prog.cellsOf 22 = 1 := by kernel_rfl
theorem kl3 : Tryd.prog.cellsOf 25 = 1 := by kernel_rfl
theorem kl4 : Tryd.prog.cellsOf 26 = 1 := by kernel_rfl
theorem bi : Tryd.prog.bytesOf 3 = 8 := by kernel_rfl
theorem bs : Tryd.prog.bytesOf 24 = 16 := by kernel_rfl
theorem bl : Tryd.prog.bytesOf 64 = 16 := by kernel_rfl
theorem bx : Tryd.prog.bytesOf 52 = 32 := by kernel_rfl
theorem bl1 : Tryd.prog.bytesOf 50 = 24 := by kernel_rfl
theorem bl2 : Tryd.prog.bytesOf 22 = 24 := by kernel_rfl
/-- a list as it reads -/
theorem rows_of {sz b : Nat} {A : Option Addr} {cap : Nat} {α : Type} {code : α → List Value} {l : List α} (h2 : l.length ≤ cap) (h3 : cap * b ≤ reachBytes) (h4 : cap ≤ maxLen) (h5 : RowAt w w.heap.size sz A (l.map code)) (hb : 8 ≤ b) : RowsAt w w.heap.size sz A cap (l.map code) := by
  have h6 : cap * 8 ≤ cap * b := Nat.mul_le_mul_left _ hb
  unfold reachBytes at h3
  unfold maxLen at h4
  exact ⟨by simpa using h2, by omega, by simp; omega, h5⟩
theorem read_span {n : Nat} {cs : List Value} {y : DataW H × List MemPlace} (h : Rd Tryd.prog enc w n 24 cs = some y) (hy : Fair Tryd.prog 24 y.1) : ∃ a b, cs = [vi a, vi b] := by
  obtain ⟨hl, m, hm⟩ := read_fields us ls h hy
  obtain ⟨c0, c1, rfl⟩ := list2 (hl.trans ks)
  obtain ⟨z0, h0, _⟩ := hm 0 _ _ rfl
  obtain ⟨z1, h1, _⟩ := hm 1 _ _ rfl
  rw [ki] at h0 h1
  obtain ⟨a, e0⟩ := read_int h0
  obtain ⟨b, e1⟩ := read_int h1
  simp at e0 e1
  exact ⟨a, b, by rw [e0, e1]⟩
theorem read_line (n : Nat) (cs : List Value) (y : DataW H × List MemPlace) (h : Rd Tryd.prog enc w n 64 cs = some y) (hy : Fair Tryd.prog 64 y.1) : ∃ x : SLine, cs = x.cells ∧ True := by
  obtain ⟨hl, m, hm⟩ := read_fields ul ll h hy
  obtain ⟨c0, c1, rfl⟩ := list2 (hl.trans kl)
  obtain ⟨z0, h0, _⟩ := hm 0 _ _ rfl
  obtain ⟨z1, h1, _⟩ := hm 1 _ _ rfl
  rw [ki] at h0 h1
  obtain ⟨a, e0⟩ := read_int h0
  obtain ⟨b, e1⟩ := read_int h1
  simp at e0 e1
  exact ⟨⟨a, b⟩, by rw [e0, e1]; rfl, trivial⟩
theorem read_lines {n : Nat} {cs : List Value} {y : DataW H × List MemPlace} (h : Rd Tryd.prog enc w n 50 cs = some y) (hy : Fair Tryd.prog 50 y.1) : ∃ (A : Option Addr) (cap : Nat) (l : List SLine), cs = [.slice A l.length cap] ∧ SLinesAt w w.heap.size A cap l := by
  obtain ⟨A, cap, l, h1, h2, h3, h4, h5, _⟩ := open_rows (α := SLine) SLine.cells (fun _ => True) Tryd.underlying50 kl (by omega) read_line h hy
  rw [bl] at h3
  exact ⟨A, cap, l, h1, rows_of h2 h3 h4 h5 (by omega)⟩
theorem read_ints {n : Nat} {cs : List Value} {y : DataW H × List MemPlace} (h : Rd Tryd.prog enc w n 22 cs = some y) (hy : Fair Tryd.prog 22 y.1) : ∃ (A : Option Addr) (cap : Nat) (l : List Int), cs = [.slice A l.length cap] ∧ IntsAt w w.heap.size A cap l := by
  obtain ⟨A, cap, l, h1, h2, h3, h4, h5, _⟩ := open_rows (α := Int) intC (fun _ => True) Tryd.underlying22 ki (by omega) (fun n cs y hn _ => by
    obtain ⟨k, e⟩ := read_int hn
    exact ⟨k, e, trivial⟩) h hy
  rw [bi] at h3
  exact ⟨A, cap, l, h1, rows_of h2 h3 h4 h5 (by omega)⟩
theorem read_spans {n : Nat} {cs : List Value} {y : DataW H × List MemPlace} (h : Rd Tryd.prog enc w n 25 cs = some y) (hy : Fair Tryd.prog 25 y.1) : ∃ (A : Option Addr) (cap : Nat) (l : List (Int × Int)), cs = [.slice A l.length cap] ∧ RowsAt w w.heap.size 2 A cap (l.map spanC) := by
  obtain ⟨A, cap, l, h1, h2, h3, h4, h5, _⟩ := open_rows (α := Int × Int) spanC (fun _ => True) Tryd.underlying25 ks (by omega) (fun n cs y hn hf => by
    obtain ⟨a, b, e⟩ := read_span hn hf
    exact ⟨(a, b), e, trivial⟩) h hy
  rw [bs] at h3
  exact ⟨A, cap, l, h1, rows_of h2 h3 h4 h5 (by omega)⟩
theorem read_slip (n : Nat) (cs : List Value) (y : DataW H × List MemPlace) (h : Rd Tryd.prog enc w n 52 cs = some y) (hy : Fair Tryd.prog 52 y.1) : ∃ x : SSlip, cs = x.cells ∧ SLinesAt w w.heap.size x.ad x.cap x.lines := by
  obtain ⟨hl, m, hm⟩ := read_fields ux lx h hy
  obtain ⟨c0, c1, rfl⟩ := list2 (hl.trans kx)
  obtain ⟨z0, h0, y0⟩ := hm 0 _ _ rfl
  obtain ⟨z1, h1, _⟩ := hm 1 _ _ rfl
  rw [kl1] at h0
  rw [ki] at h1
  obtain ⟨A, cap, l, e0, hl⟩ := read_lines h0 y0
  obtain ⟨b, e1⟩ := read_int h1
  simp at e0 e1
  exact ⟨⟨A, cap, l, b⟩, by rw [e0, e1]; rfl, hl⟩
set_option maxRecDepth 100000 in
theorem read_floor {v : Value} {d : DataW H} {ps : List MemPlace} {base : Nat} (hv : Value.okWide Tryd.prog w .any base 28 v) (h : DataW.Trod enc Tryd.prog w 0 (fun _ => true) true 28 v d ps) (hd : Fair Tryd.prog 28 d) : ∃ f : Floor, v = f.val ∧ FloorAt w w.heap.size f := by
  obtain ⟨cs, rfl, hsz⟩ := okWide_struct ur hv
  obtain ⟨n, h⟩ := h
  obtain ⟨hl, m, hm⟩ := read_fields (y := (d, ps)) ur lr h hd
  obtain ⟨c0, c1, c2, c3, c4, c5, hc⟩ := list6 (l := cs.toList) (by rw [Array.length_toList]; exact hsz.trans kr)
  obtain rfl : cs = #[c0, c1, c2, c3, c4, c5] := by rw [← Array.toArray_toList (xs := cs), hc]
  obtain ⟨z0, h0, y0⟩ := hm 0 _ _ rfl
  obtain ⟨z1, h1, y1⟩ := hm 1 _ _ rfl
  obtain ⟨z2, h2, y2⟩ := hm 2 _ _ rfl
  obtain ⟨z3, h3, _⟩ := hm 3 _ _ rfl
  obtain ⟨z4, h4, y4⟩ := hm 4 _ _ rfl
  rw [kl2] at h0
  rw [ks] at h1
  rw [kl3] at h2
  rw [ki] at h3
  rw [kl4] at h4
  obtain ⟨fA, fC, ff, e0, g0⟩ := read_ints h0 y0
  obtain ⟨slo, shi, e1⟩ := read_span h1 y1
  obtain ⟨pA, pC, fp, e2, g2⟩ := read_spans h2 y2
  obtain ⟨fc, e3⟩ := read_int h3
  obtain ⟨sA, sC, fs, e4, k2, k3, k4, k5, k6⟩ := open_rows (α := SSlip) SSlip.cells (fun x => SLinesAt w w.heap.size x.ad x.cap x.lines) Tryd.underlying26 kx (by omega) read_slip h4 y4
  simp [Value.cells] at e0 e1 e2 e3 e4
  obtain ⟨e1, e5⟩ := e1
  rw [bx] at k3
  exact ⟨⟨fA, fC, ff, slo, shi, pA, pC, fp, fc, sA, sC, fs⟩, by rw [e0, e1, e2, e3, e4, e5], g0, g2, rows_of k2 k3 k4 k5 (by omega), k6⟩
set_option maxRecDepth 100000 in
theorem read_tours {v : Value} {d : DataW H} {ps : List MemPlace} {base : Nat} (hv : Value.okWide Tryd.prog w .any base 29 v) (h : DataW.Trod enc Tryd.prog w 0 (fun _ => true) true 29 v d ps) (hd : Fair Tryd.prog 29 d) : ∃ (A : Option Addr) (cap : Nat) (ts : List STour), v = .slice A ts.length cap ∧ ToursAt w w.heap.size A cap ts := by
  obtain ⟨a, n, c, rfl⟩ := okWide_slice Tryd.underlying29 hv
  obtain ⟨m, h⟩ := h
  obtain ⟨A, cap, l, h1, h2, h3, h4, h5, h6⟩ := open_rows (α := STour) STour.cells (fun t => SLinesAt w w.heap.size t.ad t.cap t.lines) Tryd.underlying29 kl1 (by omega) (fun n cs y hn hf => by
    obtain ⟨A, cap, l, e, hl⟩ := read_lines hn hf
    exact ⟨⟨A, cap, l⟩, e, hl⟩) h hd
  simp [Value.cells] at h1
  obtain ⟨rfl, rfl, rfl⟩ := h1
  rw [bl1] at h3
  exact ⟨a, c, l, rfl, rows_of h2 h3 h4 h5 (by omega), h6⟩
set_option maxRecDepth 100000 in
theorem read_roster {v : Value} {d : DataW H} {ps : List MemPlace} {base : Nat} (hv : Value.okWide Tryd.prog w .any base 43 v) (h : DataW.Trod enc Tryd.prog w 0 (fun _ => true) true 43 v d ps) (hd : Fair Tryd.prog 43 d) : ∃ (A : Option Addr) (cap : Nat) (ts : List SRow), v = .slice A ts.length cap ∧ RosterAt w w.heap.size A cap ts := by
  obtain ⟨a, n, c, rfl⟩ := okWide_slice Tryd.underlying43 hv
  obtain ⟨m, h⟩ := h
  obtain ⟨A, cap, l, h1, h2, h3, h4, h5, h6⟩ := open_rows (α := SRow) SRow.cells (fun t => IntsAt w w.heap.size t.ad t.cap t.slips) Tryd.underlying43 kl2 (by omega) (fun n cs y hn hf => by
    obtain ⟨A, cap, l, e, hl⟩ := read_ints hn hf
    exact ⟨⟨A, cap, l⟩, e, hl⟩) h hd
  simp [Value.cells] at h1
  obtain ⟨rfl, rfl, rfl⟩ := h1
  rw [bl2] at h3
  exact ⟨a, c, l, rfl, rows_of h2 h3 h4 h5 (by omega), h6⟩
end
end Go.Proofs.YtomgnpfpaodpiaaDoor

