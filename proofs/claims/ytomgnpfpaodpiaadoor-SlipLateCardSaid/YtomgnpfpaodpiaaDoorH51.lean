/- Contract of the specification's Late. -/
import Derived.Test.YtomgnpfpaodpiaaDoorH50
import Derived.Test.YtomgnpfpaodpiaaDoorH36
import Derived.Test.YtomgnpfpaodpiaaDoorH20
import Derived.Test.YtomgnpfpaodpiaaDoorH42
import Derived.Deep.CutRange
set_option linter.unusedVariables false
set_option linter.unusedSimpArgs false
namespace Go.Proofs.YtomgnpfpaodpiaaDoor
open Go Go.RowKit
set_option maxHeartbeats 4000000
set_option maxRecDepth 100000 in
theorem rLate_bad (f : Floor) (n : Int) (b : Bool) (hb : hasB 1 5 n = b) (c : Int) (hc : askedV f b = c) (hc0 : c ≠ 0) (w : World) (h : FloorAt w w.heap.size f) :
    Calls Tryd.prog 31 #[f.val, vi n] w fun e w' => e = .returned (.tuple #[.slice none 0 0, vi c]) ∧ Below w.heap.size w w' := by
  have HF := Lib.hid h
  have TW := Lib.hid (fun (W : World) => tween_is hb W)
  have AS := Lib.hid (fun (W : World) hW => asked_is hc W hW)
  have hne : (c != 0) = true := by simpa using hc0
  clear h hb hc hc0
  obtain ⟨fA, fC, ff, slo, shi, pA, pC, fp, fc, sA, sC, fs⟩ := f
  show Calls Tryd.prog 31 #[.agg #[.slice fA ff.length fC, vi slo, vi shi, .slice pA fp.length pC, vi fc, .slice sA fs.length sC], vi n] w _
  have hb0 := below1 w (.cells #[.slice fA ff.length fC, vi slo, vi shi, .slice pA fp.length pC, vi fc, .slice sA fs.length sC] 28)
  have X0 := CellsBox.new w 28 [.slice fA ff.length fC, vi slo, vi shi, .slice pA fp.length pC, vi fc, .slice sA fs.length sC]
  go_enter Tryd.func31, Tryd.ntmps31
  go_wp2_with fail
  obtain ⟨wl, hW⟩ : ∃ W, W = w.alloc (.cells #[.slice fA ff.length fC, vi slo, vi shi, .slice pA fp.length pC, vi fc, .slice sA fs.length sC] 28) := ⟨_, rfl⟩
  rw [← hW] at hb0 X0 ⊢
  (have a0 := X0.cell (j := 0) rfl; have a1 := X0.cell (j := 1) rfl; have a2 := X0.cell (j := 2) rfl; have a3 := X0.cell (j := 3) rfl; have a4 := X0.cell (j := 4) rfl; have a5 := X0.cell (j := 5) rfl; have za := X0.lt)
  clear hW X0
  (refine wp_region_grow_lit (by kernel_rfl) (by kernel_rfl) ?_; (repeat (go_big_quiet_step (first | (go_at_call 39; refine Calls.grow_same (TW.out _)) | (go_at_call 54; refine Calls.grow_of (AS.out _ (HF.out.to (hb0.trans ((plus_below _ _).mono hb0.size)))))))); refine wpQuiet_nil ?_; intro w1 hw1; have hb1 := below_of_plus hw1; clear hw1; obtain ⟨⟨hc1, hf1, hs1⟩, hz1⟩ := after hb1; (try simp only [World.size_alloc, World.size_setCell, World.size_drew] at hz1))
  have HB1 : Below w.heap.size w w1 := hb0.trans (hb1.mono hb0.size)
  clear hb1 hc1 hf1 hs1 hz1 a0 a1 a2 a3 a4 a5 za
  go_wp2_with fail
  go_ret2
  exact ⟨rfl, HB1⟩
theorem pass_step (f : Floor) (p : Int) (L0 : List Int) (k : Nat) : (List.range (k + 1)).foldl (passQ f p) L0 = passQ f p ((List.range k).foldl (passQ f p) L0) k := by
  rw [List.range_succ, List.foldl_append]
  rfl
theorem out_at_few (f : Floor) {m : Nat} (hm : m < 2 ^ f.slips.length) : (PM.outG (aloneQ f) (2 ^ f.slips.length))[m]? = some (fewQ f m) := by
  rw [PM.out_at _ hm, fewQ, PM.fewG]
  have hl : m < (PM.outG (aloneQ f) (m + 1)).length := by rw [PM.out_len]; omega
  rw [List.getElem?_eq_getElem hl]
  rfl
set_option maxRecDepth 100000 in
theorem rLate_ok (f : Floor) (hv : validB f = true) (n : Int) (hb : hasB 1 5 n = true) (w : World) (h : FloorAt w w.heap.size f) :
    Calls Tryd.prog 31 #[f.val, vi n] w fun e w' => ∃ A cap, e = .returned (.tuple #[.slice A (lateQ f n).length cap, vi 0]) ∧ IntsAt w' w'.heap.size A cap (lateQ f n) ∧ Below w.heap.size w w' := by
  have HF := Lib.hid h
  have hc : askedV f true = 0 := by
    unfold askedV checkV
    rw [if_pos hv, if_pos rfl, if_pos rfl]
  have TW := Lib.hid (fun (W : World) => tween_is hb W)
  have AS := Lib.hid (fun (W : World) hW => asked_is hc W hW)
  have FE := Lib.hid (fun (W : World) hW => fewest_any2 f hv W hW)
  have h9 := (fine hv).slips9
  have hN := pow_512 h9
  have hN1 : 1 ≤ 2 ^ f.slips.length := Nat.two_pow_pos _
  have hall := all_fact ⟨f.slips.length, by omega⟩
  simp only at hall
  have hn1 := hasB_iff.1 hb
  have OFF : Hid (∀ (m : Nat), m < 512 → ∀ W : World, Calls Tryd.prog 47 #[vi m, vi f.slips.length] W fun e w' => ∃ A cap, e = .returned (.slice A (lateM f m).length cap) ∧ IntsAt w' w'.heap.size A cap (lateM f m) ∧ Below W.heap.size W w') := fun m hm W => by
    refine (of_set_any m f.slips.length hm h9 W).mono ?_
    rintro e w' ⟨A, cap, rfl, h1, _, h2⟩
    have hl : (lateM f m).length = (membersK m f.slips.length).length := by unfold lateM natsC; rw [List.length_map]
    rw [hl]
    exact ⟨A, cap, rfl, h1, h2⟩
  have HLM : Hid (∀ m : Nat, (lateM f m).length ≤ 9) := fun m => by
    have hl : (lateM f m).length = (membersK m f.slips.length).length := by unfold lateM natsC; rw [List.length_map]
    have := membersK_le m f.slips.length
    omega
  have HOA : Hid (∀ m : Nat, m < 2 ^ f.slips.length → (PM.outG (aloneQ f) (2 ^ f.slips.length))[m]? = some (fewQ f m)) := fun m hm => out_at_few f hm
  have HOL : Hid ((PM.outG (aloneQ f) (2 ^ f.slips.length)).length = 2 ^ f.slips.length) := PM.out_len _ _
  have HST : Hid (∀ (k : Nat), (List.range (k + 1)).foldl (passQ f n) (lateM f (allF f)) = passQ f n ((List.range k).foldl (passQ f n) (lateM f (allF f))) k) := fun k => pass_step f n _ k
  have HPQ : Hid (∀ (L : List Int) (k : Nat), passQ f n L k = if decide (fewQ f (allF f - k) ≤ n) && PM.prefB (lateM f k) L then lateM f k else L) := fun L k => rfl
  have HPF : Hid (∀ a b : List Int, PM.prefB a b = (decide (a.length < b.length) || (decide (a.length = b.length) && PM.aheadB a b))) := fun a b => rfl
  have HEND : Hid ((List.range (allF f + 1)).foldl (passQ f n) (lateM f (allF f)) = lateQ f n) := rfl
  have AH : Hid (∀ (A B : Option Addr) (ca cb : Nat) (a b : List Int) (r : Bool), PM.aheadB a b = r → ∀ W : World, IntsAt W W.heap.size A a.length a → IntsAt W W.heap.size B b.length b → Calls Tryd.prog 45 #[.slice A a.length ca, .slice B b.length cb] W fun e w' => e = .returned (.bool r) ∧ Below W.heap.size W w') := fun A B ca cb a b r hr W h1 h2 => by
    rw [← hr]
    exact ahead_any A B ca cb a b W h1 h2
  obtain ⟨O, hO⟩ : ∃ O, O = PM.outG (aloneQ f) (2 ^ f.slips.length) := ⟨_, rfl⟩
  rw [← hO] at FE HOA HOL
  obtain ⟨FQ, hFQ⟩ : ∃ FQ, FQ = fewQ f := ⟨_, rfl⟩
  rw [← hFQ] at HOA HPQ
  obtain ⟨LM, hLM⟩ : ∃ LM, LM = lateM f := ⟨_, rfl⟩
  obtain ⟨PS, hPS⟩ : ∃ PS, PS = passQ f n := ⟨_, rfl⟩
  rw [← hLM] at OFF HLM HST HPQ HEND
  rw [← hPS] at HST HPQ HEND
  have e1 : allF f = 2 ^ f.slips.length - 1 := rfl
  obtain ⟨al, hal⟩ : ∃ al, al = 2 ^ f.slips.length - 1 := ⟨_, rfl⟩
  rw [e1, ← hal] at HST HEND
  simp only [e1, ← hal] at HPQ
  rw [← hal] at hall
  obtain ⟨N, hNN⟩ : ∃ N, N = 2 ^ f.slips.length := ⟨_, rfl⟩
  rw [← hNN] at HOA HOL hN hN1 hal
  obtain ⟨an, han⟩ : ∃ an, an = lateQ f n := ⟨_, rfl⟩
  rw [← han] at HEND ⊢
  have hal1 : al < N := by omega
  have hal2 : N ≤ al + 1 := by omega
  clear hO hFQ hLM hPS e1 hNN han h hv hb hc hal
  obtain ⟨fA, fC, ff, slo, shi, pA, pC, fp, fc, sA, sC, fs⟩ := f
  simp only at h9 hall OFF
  show Calls Tryd.prog 31 #[.agg #[.slice fA ff.length fC, vi slo, vi shi, .slice pA fp.length pC, vi fc, .slice sA fs.length sC], vi n] w _
  have hl0 : (0 : Int) ≤ fs.length := by omega
  have hl9 : (fs.length : Int) ≤ 9 := by omega
  have hb0 := below1 w (.cells #[.slice fA ff.length fC, vi slo, vi shi, .slice pA fp.length pC, vi fc, .slice sA fs.length sC] 28)
  have X0 := CellsBox.new w 28 [.slice fA ff.length fC, vi slo, vi shi, .slice pA fp.length pC, vi fc, .slice sA fs.length sC]
  go_enter Tryd.func31, Tryd.ntmps31
  go_wp2_with fail
  obtain ⟨wl, hW⟩ : ∃ W, W = w.alloc (.cells #[.slice fA ff.length fC, vi slo, vi shi, .slice pA fp.length pC, vi fc, .slice sA fs.length sC] 28) := ⟨_, rfl⟩
  rw [← hW] at hb0 X0 ⊢
  (have a0 := X0.cell (j := 0) rfl; have a1 := X0.cell (j := 1) rfl; have a2 := X0.cell (j := 2) rfl; have a3 := X0.cell (j := 3) rfl; have a4 := X0.cell (j := 4) rfl; have a5 := X0.cell (j := 5) rfl; have za := X0.lt)
  have HX := Lib.hid X0
  clear hW X0
  (refine wp_region_grow_lit (by kernel_rfl) (by kernel_rfl) ?_; (repeat (go_big_quiet_step (first | (go_at_call 39; refine Calls.grow_same (TW.out _)) | (go_at_call 54; refine Calls.grow_of (AS.out _ (HF.out.to (hb0.trans ((plus_below _ _).mono hb0.size)))))))); refine wpQuiet_nil ?_; intro w1 hw1; have hb1 := below_of_plus hw1; clear hw1; obtain ⟨⟨hc1, hf1, hs1⟩, hz1⟩ := after hb1; (try simp only [World.size_alloc, World.size_setCell, World.size_drew] at hz1))
  have HB : Below w.heap.size w w1 := hb0.trans (hb1.mono hb0.size)
  replace HX := Lib.hid (HX.out.keep hb1)
  clear hb1 hc1 hf1 hs1 hz1 a0 a1 a2 a3 a4 a5 za hb0
  (have a0 := HX.out.cell (j := 0) rfl; have a1 := HX.out.cell (j := 1) rfl; have a2 := HX.out.cell (j := 2) rfl; have a3 := HX.out.cell (j := 3) rfl; have a4 := HX.out.cell (j := 4) rfl; have a5 := HX.out.cell (j := 5) rfl; have za := HX.out.lt)
  go_wp2_with fail
  refine (FE.out _ (HF.out.to HB)).mono ?_
  rintro e W2 ⟨A1, c1, rfl, hA1, hb⟩
  have HA1 := Lib.hid hA1
  have hOL := HOL.out
  clear hA1
  (replace HX := Lib.hid (HX.out.keep hb); replace HB : Below w.heap.size w W2 := HB.trans (hb.mono HB.size); clear hb a0 a1 a2 a3 a4 a5 za; (have a0 := HX.out.cell (j := 0) rfl; have a1 := HX.out.cell (j := 1) rfl; have a2 := HX.out.cell (j := 2) rfl; have a3 := HX.out.cell (j := 3) rfl; have a4 := HX.out.cell (j := 4) rfl; have a5 := HX.out.cell (j := 5) rfl; have za := HX.out.lt))
  rw [hOL]
  clear hOL
  go_wp2_with fail
  refine (OFF.out al (by omega) _).mono ?_
  rintro e W3 ⟨A0, c0, rfl, hA0, hb⟩
  have HA0 := Lib.hid hA0
  replace HA1 := Lib.hid (HA1.out.to hb)
  clear hA0
  (replace HX := Lib.hid (HX.out.keep hb); replace HB : Below w.heap.size w W3 := HB.trans (hb.mono HB.size); clear hb a0 a1 a2 a3 a4 a5 za; (have a0 := HX.out.cell (j := 0) rfl; have a1 := HX.out.cell (j := 1) rfl; have a2 := HX.out.cell (j := 2) rfl; have a3 := HX.out.cell (j := 3) rfl; have a4 := HX.out.cell (j := 4) rfl; have a5 := HX.out.cell (j := 5) rfl; have za := HX.out.lt))
  have h0l := HLM.out al
  clear a0 a1 a2 a3 a4 a5 za
  go_wp2_with fail
  go_loopw [9, 10, 11] (fun b i x wr => ∃ (k : Nat) (L : List Int) (A : Option Addr) (c : Nat), k ≤ al + 1 ∧ i = .int .i64 k ∧ b = .slice A L.length c ∧ L.length ≤ 9 ∧ Hid (IntsAt wr wr.heap.size A c L) ∧ Hid ((List.range k).foldl PS (LM al) = L) ∧ Below W3.heap.size W3 wr) (fun _ i _ _ => al + 1 - (intOf i).toNat)
  case atStart => exact ⟨0, LM al, A0, c0, Nat.zero_le _, rfl, rfl, h0l, HA0, rfl, Below.refl _ _⟩
  obtain ⟨k, L, A, c, hk, rfl, rfl, hL9, HL, HK, hB⟩ := hrel
  have HBr : Below w.heap.size w wr := HB.trans (hB.mono HB.size)
  have XR := HX.out.keep hB
  (have a0 := XR.cell (j := 0) rfl; have a1 := XR.cell (j := 1) rfl; have a2 := XR.cell (j := 2) rfl; have a3 := XR.cell (j := 3) rfl; have a4 := XR.cell (j := 4) rfl; have a5 := XR.cell (j := 5) rfl; have za := XR.lt)
  clear XR
  by_cases hlt : k ≤ al
  · have hkI : (k : Int) ≤ al := by omega
    have HKS := Lib.hid (HST.out k)
    rw [HK.out, HPQ.out, HPF.out] at HKS
    have hM9 := HLM.out k
    obtain ⟨d, hd⟩ : ∃ d : Nat, d = al - k := ⟨_, rfl⟩
    rw [← hd] at HKS
    have hwd : IntKind.wrap .i64 ((al : Int) - (k : Int)) = (d : Int) := by rw [wrapI (by omega) (by omega)]; omega
    obtain ⟨bo, oo, rfl, hbo, o0⟩ := ints_at (HA1.out.to hB) (HOA.out d (by omega))
    obtain ⟨y, hy⟩ : ∃ y, y = FQ d := ⟨_, rfl⟩
    rw [← hy] at HKS o0
    have h0d : (0 : Int) ≤ d := by omega
    have hdN : (d : Int) < N := by omega
    have OFK := Lib.hid (OFF.out k (by omega))
    obtain ⟨M, hM⟩ : ∃ M, M = LM k := ⟨_, rfl⟩
    rw [← hM] at HKS hM9 OFK
    have HO0 := Lib.hid o0
    clear hy hd hM HK o0
    go_wp2_with fail
    refine (OFK.out _).mono ?_
    rintro e W4 ⟨A4, c4, rfl, hA4, hb4⟩
    have HA4 := Lib.hid hA4
    have HL4 := Lib.hid (HL.out.to hb4)
    have hB4 := gr_trans hB hb4
    have HO4 := Lib.hid (cell_keep hb4 HO0.out)
    have o4 := HO4.out
    have zo : bo < W4.heap.size := cell_lt o4
    clear hA4 hb4 HO0 a0 a1 a2 a3 a4 a5 za HL hbo
    rcases hd1 : decide (y ≤ n) with _ | _
    · have NEXT : Hid ((List.range (k + 1)).foldl PS (LM al) = L) := by unfold Hid; rw [HKS.out, hd1]; rfl
      clear HKS
      go_wp2_with fail
      go_roundw
      case rel => exact ⟨k + 1, L, A, c, by omega, by go_num, rfl, hL9, HL4, NEXT, hB4⟩
      case measure => simp [intOf]; omega
    · rcases hd2 : decide (M.length < L.length) with _ | _
      · have hd2i : decide ((M.length : Int) < L.length) = false := by simp at hd2 ⊢; omega
        rcases hd3 : decide (M.length = L.length) with _ | _
        · have hd3i : ((M.length : Int) == L.length) = false := by simp at hd3 ⊢; omega
          have NEXT : Hid ((List.range (k + 1)).foldl PS (LM al) = L) := by unfold Hid; rw [HKS.out, hd1, hd2, hd3]; rfl
          clear HKS
          go_wp2_with fail
          go_roundw
          case rel => exact ⟨k + 1, L, A, c, by omega, by go_num, rfl, hL9, HL4, NEXT, hB4⟩
          case measure => simp [intOf]; omega
        · have hd3i : ((M.length : Int) == L.length) = true := by simp at hd3 ⊢; omega
          obtain ⟨r, hr⟩ : ∃ r, PM.aheadB M L = r := ⟨_, rfl⟩
          have AHK := Lib.hid (fun W h1 h2 => AH.out A4 A c4 c M L r hr W h1 h2)
          rw [hd1, hd2, hd3, hr] at HKS
          clear hr hd3
          go_wp2_with fail
          refine (AHK.out _ HA4.out.short HL4.out.short).mono ?_
          rintro e W5 ⟨rfl, hb5⟩
          have HA5 := Lib.hid (HA4.out.to hb5)
          have HL5 := Lib.hid (HL4.out.to hb5)
          have hB5 := gr_trans hB4 hb5
          clear hb5 o4 zo
          rcases r with _ | _
          · have NEXT : Hid ((List.range (k + 1)).foldl PS (LM al) = L) := by unfold Hid; rw [HKS.out]; rfl
            clear HKS
            go_wp2_with fail
            go_roundw
            case rel => exact ⟨k + 1, L, A, c, by omega, by go_num, rfl, hL9, HL5, NEXT, hB5⟩
            case measure => simp [intOf]; omega
          · have NEXT : Hid ((List.range (k + 1)).foldl PS (LM al) = M) := by unfold Hid; rw [HKS.out]; rfl
            clear HKS
            go_wp2_with fail
            go_roundw
            case rel => exact ⟨k + 1, M, A4, c4, by omega, by go_num, rfl, hM9, HA5, NEXT, hB5⟩
            case measure => simp [intOf]; omega
      · have hd2i : decide ((M.length : Int) < L.length) = true := by simp at hd2 ⊢; omega
        have NEXT : Hid ((List.range (k + 1)).foldl PS (LM al) = M) := by unfold Hid; rw [HKS.out, hd1, hd2]; rfl
        clear HKS
        go_wp2_with fail
        go_roundw
        case rel => exact ⟨k + 1, M, A4, c4, by omega, by go_num, rfl, hM9, HA4, NEXT, hB4⟩
        case measure => simp [intOf]; omega
  · obtain rfl : k = al + 1 := by omega
    have E : Hid (L = an) := by unfold Hid; rw [← HK.out]; exact HEND.out
    have hd0 : decide (((al + 1 : Nat) : Int) ≤ al) = false := by simp; omega
    clear hlt HK
    go_wp2_with fail
    go_ret2
    rw [← E.out]
    exact ⟨A, c, rfl, HL.out, HBr⟩
end Go.Proofs.YtomgnpfpaodpiaaDoor

/- Contract of the law's until: a floor in which a slip has another Until. -/
namespace Go.Proofs.YtomgnpfpaodpiaaDoor
open Go Go.RowKit
set_option maxHeartbeats 4000000
theorem own_some {w : World} {base n sz : Nat} {e : TypeId} {v : Value} {xs : List Value} (h : w.ownsRow base e sz v n xs) (h0 : 0 < n) : ∃ g cap cur, v = .slice (some ⟨g, 0, none⟩) n cap ∧ base ≤ g ∧ w.heap[g]? = some (.cells cur e (0, 0)) ∧ n ≤ cap ∧ cap ≤ maxLen ∧ cur.size = cap * sz ∧ cur.toList.take (n * sz) = xs := by
  rcases h.2 with ⟨_, e0⟩ | ⟨g, c, cur, rfl, g1, g2, g3, g4, g5, g6⟩
  · omega
  · exact ⟨g, c, cur, rfl, g1, g2, g3, g4, g5, g6⟩
set_option maxRecDepth 100000 in
theorem until_any (f : Floor) (k : Nat) (s : SSlip) (hs : f.slips[k]? = some s) (h9 : f.slips.length ≤ 9) (u : Int) (w : World) (h : FloorAt w w.heap.size f) :
    Calls Tryd.prog 48 #[f.val, vi k, vi u] w fun e w' => ∃ g c, e = .returned (withF f (some ⟨g, 0, none⟩) c k u).val ∧ FloorAt w' w'.heap.size (withF f (some ⟨g, 0, none⟩) c k u) ∧ Below w.heap.size w w' := by
  obtain ⟨i0, hi, hy0, hy1, hy2⟩ := info_parts info_slip
  have hk := (List.getElem?_eq_some_iff.1 hs).1
  have HF := Lib.hid h
  have HWR := Lib.hid (fun (w' : World) (g c : Nat) (rest : List Value) (hb : Below w.heap.size w w') hx hc hm => with_rows (k := k) (u := u) (rest := rest) (g := g) (c := c) h hb hx hc hm h9)
  have hat := flatSl_at f.slips k s hs
  have HAT := Lib.hid hat
  have HSET := Lib.hid (flatSl_set f.slips k u hk)
  have HLEN := Lib.hid (flatSl_len f.slips)
  obtain ⟨sb, so, hsA, hsb, s0, s1⟩ := row2 h.slips.row hs rfl
  have HS0 := Lib.hid s0
  have hkI : (k : Int) < f.slips.length := by omega
  have h0k : (0 : Int) ≤ k := by omega
  have hle := h.slips.lens
  have hnews := row_cells (b := sb) (off := so) (by have := h.slips.row; rwa [hsA] at this) (slips_two f.slips) (by omega) (by simp; omega)
  have HN := Lib.hid hnews
  have hfl : (f.slips.map SSlip.cells).flatten.length = f.slips.length * 2 := by rw [flat_len _ (slips_two f.slips)]; simp
  have HFL := Lib.hid hfl
  have E : Hid (∀ (g c : Nat), (withF f (some ⟨g, 0, none⟩) c k u).val = .agg #[.slice f.fA f.far.length f.fC, vi f.slo, vi f.shi, .slice f.pA f.picks.length f.pC, vi f.carry, .slice (some ⟨g, 0, none⟩) f.slips.length c]) := fun g c => by simp [withF]
  obtain ⟨WF, hWF⟩ : ∃ WF : Nat → Nat → Floor, WF = fun g c => withF f (some ⟨g, 0, none⟩) c k u := ⟨_, rfl⟩
  have eW : ∀ g c, withF f (some ⟨g, 0, none⟩) c k u = WF g c := fun g c => by rw [hWF]
  simp only [eW] at HWR E ⊢
  obtain ⟨SL, hSL⟩ : ∃ SL, SL = flatSl (f.slips.modify k fun s => { s with till := u }) := ⟨_, rfl⟩
  rw [← hSL] at HSET
  have HWR2 : Hid (∀ (w' : World) (g c : Nat) (rest : List Value), Below w.heap.size w w' → CellsBox w' g 52 (SL ++ rest) → f.slips.length ≤ c → c ≤ maxLen → FloorAt w' w'.heap.size (WF g c)) := fun w' g c rest h1 h2 h3 h4 => HWR.out w' g c rest h1 (by rw [← hSL]; exact h2) h3 h4
  clear h hs hat hnews hfl s0 s1 hWF eW hSL HWR
  obtain ⟨sa, sc, sl, st⟩ := s
  obtain ⟨fA, fC, ff, slo, shi, pA, pC, fp, fc, sA, sC, fs⟩ := f
  simp only at hsA
  subst hsA
  simp only [SSlip.slice] at HAT HS0
  simp only at HF HWR2 HAT HSET HLEN HN HFL E h9 hk hkI hle ⊢
  have hb0 := below1 w (.cells #[.slice fA ff.length fC, vi slo, vi shi, .slice pA fp.length pC, vi fc, .slice (some ⟨sb, so, none⟩) fs.length sC] 28)
  have X0 := CellsBox.new w 28 [.slice fA ff.length fC, vi slo, vi shi, .slice pA fp.length pC, vi fc, .slice (some ⟨sb, so, none⟩) fs.length sC]
  have hb1 := hb0.alloc hb0.size (.cells #[.slice none 0 0, vi 0, vi 0, .slice none 0 0, vi 0, .slice none 0 0] 28)
  have X1 := X0.alloc (.cells #[.slice none 0 0, vi 0, vi 0, .slice none 0 0, vi 0, .slice none 0 0] 28)
  have R1 := CellsBox.new (w.alloc (.cells #[.slice fA ff.length fC, vi slo, vi shi, .slice pA fp.length pC, vi fc, .slice (some ⟨sb, so, none⟩) fs.length sC] 28)) 28 [.slice none 0 0, vi 0, vi 0, .slice none 0 0, vi 0, .slice none 0 0]
  have hb2 := hb1.alloc hb1.size (.cells #[.slice fA ff.length fC, vi slo, vi shi, .slice pA fp.length pC, vi fc, .slice (some ⟨sb, so, none⟩) fs.length sC] 28)
  have X2 := X1.alloc (.cells #[.slice fA ff.length fC, vi slo, vi shi, .slice pA fp.length pC, vi fc, .slice (some ⟨sb, so, none⟩) fs.length sC] 28)
  have R2 := R1.alloc (.cells #[.slice fA ff.length fC, vi slo, vi shi, .slice pA fp.length pC, vi fc, .slice (some ⟨sb, so, none⟩) fs.length sC] 28)
  have Y2 := CellsBox.new ((w.alloc (.cells #[.slice fA ff.length fC, vi slo, vi shi, .slice pA fp.length pC, vi fc, .slice (some ⟨sb, so, none⟩) fs.length sC] 28)).alloc (.cells #[.slice none 0 0, vi 0, vi 0, .slice none 0 0, vi 0, .slice none 0 0] 28)) 28 [.slice fA ff.length fC, vi slo, vi shi, .slice pA fp.length pC, vi fc, .slice (some ⟨sb, so, none⟩) fs.length sC]
  show Calls Tryd.prog 48 #[.agg #[.slice fA ff.length fC, vi slo, vi shi, .slice pA fp.length pC, vi fc, .slice (some ⟨sb, so, none⟩) fs.length sC], vi k, vi u] w _
  go_enter Tryd.func48, Tryd.ntmps48
  go_upto_region 2 with fail
  refine (?_ : ∀ W3 : World, CellsBox W3 w.heap.size 28 [.slice fA ff.length fC, vi slo, vi shi, .slice pA fp.length pC, vi fc, .slice (some ⟨sb, so, none⟩) fs.length sC] → CellsBox W3 (w.heap.size + 1) 28 [.slice none 0 0, vi 0, vi 0, .slice none 0 0, vi 0, .slice none 0 0] → CellsBox W3 (w.heap.size + 1 + 1) 28 [.slice fA ff.length fC, vi slo, vi shi, .slice pA fp.length pC, vi fc, .slice (some ⟨sb, so, none⟩) fs.length sC] → Below w.heap.size w W3 → Code.wp _ _ _ _ W3) _ X2 (by simpa using R2) (by simpa using Y2) hb2
  clear hb0 hb1 hb2 X0 X1 X2 R1 R2 Y2
  intro W3 X R Y HB
  have a5 := X.cell (j := 5) rfl
  have za := X.lt
  have hz := HB.size
  have z2 := Y.lt
  have HX := Lib.hid X
  have HR := Lib.hid R
  have HY := Lib.hid Y
  have HN3 := Lib.hid (fun j u hj => HB.cell (p := (⟨sb, so, none⟩ : Addr).add j) (by unfold Addr.add; split <;> exact hsb) |>.trans (HN.out j u hj))
  have y0 := Y.frozen 5
  have hn0 : 0 < fs.length := by omega
  clear X R Y
  go_wp2_with (at_builtin; go_loud (refine wpList_append_own _ rfl _ _ 26 rfl W3.heap.size 52 i0 (.agg #[.slice none 0 0, vi 0]) 2 32 Tryd.underlying26 hi hy0 hy1 hy2 rfl (by decide) _ _ _ rfl (own_empty W3 _ _) ⟨sb, so, none⟩ fs.length sC (fs.map SSlip.cells).flatten rfl HFL.out (fun j u hj => cell_alloc (HN3.out j u hj) _) (by intro u hu; simp only [List.mem_flatten, List.mem_map] at hu; obtain ⟨r, ⟨s, _, rfl⟩, hu⟩ := hu; simp only [SSlip.cells, List.mem_cons, List.mem_nil_iff, or_false] at hu; rcases hu with rfl | rfl <;> rfl) (by unfold maxLen; omega) (by omega) (by simp) ?_; intro v5 w5 hown5 hgrow5 _; have HB5 : Below W3.heap.size W3 w5 := Below.grown ((Below.refl W3.heap.size W3).alloc (Nat.le_refl _) _) hgrow5 (by simp) (fun k e => by (have e2 : some W3.heap.size = some k := e; cases e2; exact Nat.le_refl _)); rw [Nat.zero_add, List.nil_append] at hown5; obtain ⟨g, c, cur, rfl, g1, g2, g3, g4, g5, g6⟩ := own_some hown5 hn0; have Y5 := HY.out.keep HB5; have c5 := Y5.cell (j := 5) rfl; have f5 := Y5.frozen 5; have z5 := Y5.lt))
  have XG : CellsBox w5 g 52 (flatSl fs ++ cur.toList.drop (fs.length * 2)) := by
    unfold CellsBox
    rw [g2]
    have e : flatSl fs ++ cur.toList.drop (fs.length * 2) = cur.toList := by
      have : flatSl fs = cur.toList.take (fs.length * 2) := by rw [g6, flatSl, List.flatMap_def]
      rw [this, List.take_append_drop]
    rw [e]
  obtain ⟨rest, hrest⟩ : ∃ rest, rest = cur.toList.drop (fs.length * 2) := ⟨_, rfl⟩
  rw [← hrest] at XG
  have ng0 : g ≠ w.heap.size := by omega
  have ng1 : g ≠ w.heap.size + 1 := by omega
  have ng2 : g ≠ w.heap.size + 1 + 1 := by omega
  have PX := ((HX.out.keep HB5).apart ⟨w.heap.size + 1 + 1, 5, none⟩ (.slice (some ⟨g, 0, none⟩) fs.length c) (by simp only; omega))
  have PR := ((HR.out.keep HB5).apart ⟨w.heap.size + 1 + 1, 5, none⟩ (.slice (some ⟨g, 0, none⟩) fs.length c) (by simp only; omega))
  have PY := (Y5.store 5 (.slice (some ⟨g, 0, none⟩) fs.length c))
  have PG := (XG.apart ⟨w.heap.size + 1 + 1, 5, none⟩ (.slice (some ⟨g, 0, none⟩) fs.length c) (by simp only; omega))
  have PB := ((HB.trans (HB5.mono hz)).setCell (p := ⟨w.heap.size + 1 + 1, 5, none⟩) (by simp only; omega) (.slice (some ⟨g, 0, none⟩) fs.length c))
  have hwg : w.heap.size ≤ g := by omega
  clear hown5 hgrow5 c5 f5 z5 Y5 XG g1 g2 g5 g6 hrest HX HR HY HN3 HB HB5 a5 za y0 z2 HN HFL
  refine (?_ : ∀ W6 : World, CellsBox W6 w.heap.size 28 [.slice fA ff.length fC, vi slo, vi shi, .slice pA fp.length pC, vi fc, .slice (some ⟨sb, so, none⟩) fs.length sC] → CellsBox W6 (w.heap.size + 1) 28 [.slice none 0 0, vi 0, vi 0, .slice none 0 0, vi 0, .slice none 0 0] → CellsBox W6 (w.heap.size + 1 + 1) 28 [.slice fA ff.length fC, vi slo, vi shi, .slice pA fp.length pC, vi fc, .slice (some ⟨g, 0, none⟩) fs.length c] → CellsBox W6 g 52 (flatSl fs ++ rest) → Below w.heap.size w W6 → Code.wp _ _ _ _ W6) _ PX PR PY PG PB
  clear PX PR PY PG PB
  intro W6 X R Y G HB
  have a5 := X.cell (j := 5) rfl
  have za := X.lt
  have y5 := Y.cell (j := 5) rfl
  have zy := Y.lt
  have s0 : W6.cell? ⟨sb, so + k * 2, none⟩ = some (.slice sa sl.length sc) := (HB.cell hsb).trans HS0.out
  have zs := cell_lt s0
  have g0 : W6.cell? ⟨g, 0 + k * 2, none⟩ = some (.slice sa sl.length sc) := by rw [Nat.zero_add]; exact G.cell (by rw [List.getElem?_append_left (by rw [HLEN.out]; omega)]; exact HAT.out.1)
  have g1 : W6.cell? ⟨g, 0 + (k * 2 + 1), none⟩ = some (vi st) := by rw [Nat.zero_add]; exact G.cell (by rw [List.getElem?_append_left (by rw [HLEN.out]; omega)]; exact HAT.out.2)
  rw [Nat.zero_add] at g0 g1
  have q0 := G.frozen (k * 2)
  have q1 := G.frozen (k * 2 + 1)
  have zg := G.lt
  have NX := (X.apart ⟨g, k * 2, none⟩ (.slice sa sl.length sc) (by simp only; omega)).apart ⟨g, k * 2 + 1, none⟩ (vi u) (by simp only; omega)
  have NR := (R.apart ⟨g, k * 2, none⟩ (.slice sa sl.length sc) (by simp only; omega)).apart ⟨g, k * 2 + 1, none⟩ (vi u) (by simp only; omega)
  have NY := (Y.apart ⟨g, k * 2, none⟩ (.slice sa sl.length sc) (by simp only; omega)).apart ⟨g, k * 2 + 1, none⟩ (vi u) (by simp only; omega)
  have NG := (G.store (k * 2) (.slice sa sl.length sc)).store (k * 2 + 1) (vi u)
  have NB := (HB.setCell (p := ⟨g, k * 2, none⟩) hwg (.slice sa sl.length sc)).setCell (p := ⟨g, k * 2 + 1, none⟩) hwg (vi u)
  have HNN := Lib.hid (And.intro NR (And.intro NY (And.intro NG NB)))
  clear NX NR NY NG NB X R Y G HB
  go_region_with fail
  all_goals
    refine (?_ : ∀ W9 : World, CellsBox W9 (w.heap.size + 1) 28 [.slice none 0 0, vi 0, vi 0, .slice none 0 0, vi 0, .slice none 0 0] → CellsBox W9 (w.heap.size + 1 + 1) 28 [.slice fA ff.length fC, vi slo, vi shi, .slice pA fp.length pC, vi fc, .slice (some ⟨g, 0, none⟩) fs.length c] → CellsBox W9 g 52 (((flatSl fs ++ rest).set (k * 2) (.slice sa sl.length sc)).set (k * 2 + 1) (vi u)) → Below w.heap.size w W9 → Exit.then _ _ _ _ W9) _ HNN.out.1 HNN.out.2.1 HNN.out.2.2.1 (by first | exact HNN.out.2.2.2 | exact HNN.out.2.2.2.drew)
    clear HNN s0 zs g0 g1 q0 q1 zg a5 za y5 zy
    intro W9 R Y G HB
    have r0 := R.cell (j := 0) rfl
    have r1 := R.cell (j := 1) rfl
    have r2 := R.cell (j := 2) rfl
    have r3 := R.cell (j := 3) rfl
    have r4 := R.cell (j := 4) rfl
    have r5 := R.cell (j := 5) rfl
    have q0 := R.frozen 0
    have q1 := R.frozen 1
    have q2 := R.frozen 2
    have q3 := R.frozen 3
    have q4 := R.frozen 4
    have q5 := R.frozen 5
    have zr := R.lt
    have y0 := Y.cell (j := 0) rfl
    have y1 := Y.cell (j := 1) rfl
    have y2 := Y.cell (j := 2) rfl
    have y3 := Y.cell (j := 3) rfl
    have y4 := Y.cell (j := 4) rfl
    have y5 := Y.cell (j := 5) rfl
    have zy := Y.lt
    have NG := Lib.hid ((((((G.apart ⟨w.heap.size + 1, 0, none⟩ (.slice fA ff.length fC) (by simp only; omega)).apart ⟨w.heap.size + 1, 1, none⟩ (vi slo) (by simp only; omega)).apart ⟨w.heap.size + 1, 2, none⟩ (vi shi) (by simp only; omega)).apart ⟨w.heap.size + 1, 3, none⟩ (.slice pA fp.length pC) (by simp only; omega)).apart ⟨w.heap.size + 1, 4, none⟩ (vi fc) (by simp only; omega)).apart ⟨w.heap.size + 1, 5, none⟩ (.slice (some ⟨g, 0, none⟩) fs.length c) (by simp only; omega))
    have NR := Lib.hid ((((((R.store 0 (.slice fA ff.length fC)).store 1 (vi slo)).store 2 (vi shi)).store 3 (.slice pA fp.length pC)).store 4 (vi fc)).store 5 (.slice (some ⟨g, 0, none⟩) fs.length c))
    have NB := Lib.hid ((((((HB.setCell (p := ⟨w.heap.size + 1, 0, none⟩) (by simp only; omega) (.slice fA ff.length fC)).setCell (p := ⟨w.heap.size + 1, 1, none⟩) (by simp only; omega) (vi slo)).setCell (p := ⟨w.heap.size + 1, 2, none⟩) (by simp only; omega) (vi shi)).setCell (p := ⟨w.heap.size + 1, 3, none⟩) (by simp only; omega) (.slice pA fp.length pC)).setCell (p := ⟨w.heap.size + 1, 4, none⟩) (by simp only; omega) (vi fc)).setCell (p := ⟨w.heap.size + 1, 5, none⟩) (by simp only; omega) (.slice (some ⟨g, 0, none⟩) fs.length c))
    clear R Y G HB
    go_wp2_with fail
    refine (?_ : ∀ Z : World, CellsBox Z g 52 (((flatSl fs ++ rest).set (k * 2) (.slice sa sl.length sc)).set (k * 2 + 1) (vi u)) → CellsBox Z (w.heap.size + 1) 28 [.slice fA ff.length fC, vi slo, vi shi, .slice pA fp.length pC, vi fc, .slice (some ⟨g, 0, none⟩) fs.length c] → Below w.heap.size w Z → bodyPost _ _ _ _ _ Z) _ NG.out NR.out NB.out
    clear r0 r1 r2 r3 r4 r5 q0 q1 q2 q3 q4 q5 zr y0 y1 y2 y3 y4 y5 zy NG NR NB
    intro Z ZX ZR ZB
    have r0 := ZR.cell (j := 0) rfl
    have r1 := ZR.cell (j := 1) rfl
    have r2 := ZR.cell (j := 2) rfl
    have r3 := ZR.cell (j := 3) rfl
    have r4 := ZR.cell (j := 4) rfl
    have r5 := ZR.cell (j := 5) rfl
    refine bodyPost_ret (v := .agg #[.slice fA ff.length fC, vi slo, vi shi, .slice pA fp.length pC, vi fc, .slice (some ⟨g, 0, none⟩) fs.length c]) (by simp [results, Tryd.results48, go_sem, r0, r1, r2, r3, r4, r5]) rfl ⟨g, c, ?_, HWR2.out Z g c rest ZB ?_ g3 g4, ZB⟩
    · rw [E.out]
    · have hl := HLEN.out
      have h1 : (flatSl fs).set (k * 2) (.slice sa sl.length sc) = flatSl fs := by
        apply List.ext_getElem?
        intro i
        rw [List.getElem?_set]
        split
        · rename_i hi2
          subst hi2
          rw [HAT.out.1, if_pos (by omega)]
        · rfl
      rw [List.set_append_left _ _ (by omega), h1, List.set_append_left _ _ (by omega)] at ZX
      rw [HSET.out]
      exact ZX
end Go.Proofs.YtomgnpfpaodpiaaDoor

/- Contract of the specification's Spare. -/
namespace Go.Proofs.YtomgnpfpaodpiaaDoor
open Go Go.RowKit
set_option maxHeartbeats 4000000
theorem few_with {f : Floor} (hv : validB f = true) {k p : Nat} (hp : p ≤ 5) {u : Int} (h0 : 0 ≤ u) (h1 : u ≤ 100000) (A : Option Addr) (C : Nat) : fewQ (withF f A C k u) (allF f) ≤ (p : Int) ↔ enoughF f k p u = true := by
  have hl : (withF f A C k u).slips.length = f.slips.length := by simp [withF]
  rw [fewQ_fit (valid_till hv A C k h0 h1) p (allF f) (by omega) (fun i hi => by rw [hl]; exact all_in f i hi), can_at, enoughF]
set_option maxRecDepth 100000 in
theorem rSpare_bad (f : Floor) (n : Int) (hc0 : checkSlipV f n ≠ 0) (w : World) (h : FloorAt w w.heap.size f) :
    Calls Tryd.prog 34 #[f.val, vi n] w fun e w' => e = .returned (.tuple #[vi 0, vi (checkSlipV f n)]) ∧ Below w.heap.size w w' := by
  have HF := Lib.hid h
  have h3l := h.slips.lens
  obtain ⟨b, hb⟩ : ∃ b, slipB f n = b := ⟨_, rfl⟩
  have IS := Lib.hid (fun (W : World) => isSlip_is hb W h3l.2)
  obtain ⟨c, hc⟩ : ∃ c, checkSlipV f n = c := ⟨_, rfl⟩
  have AS := Lib.hid (fun (W : World) hW => asked_is (b := b) (e := c) (by rw [← hb, asked_slip, hc]) W hW)
  rw [hc] at hc0 ⊢
  have hne : (c != 0) = true := by simpa using hc0
  clear h hb hc hc0 h3l
  obtain ⟨fA, fC, ff, slo, shi, pA, pC, fp, fc, sA, sC, fs⟩ := f
  show Calls Tryd.prog 34 #[.agg #[.slice fA ff.length fC, vi slo, vi shi, .slice pA fp.length pC, vi fc, .slice sA fs.length sC], vi n] w _
  have hb0 := below1 w (.cells #[.slice fA ff.length fC, vi slo, vi shi, .slice pA fp.length pC, vi fc, .slice sA fs.length sC] 28)
  have X0 := CellsBox.new w 28 [.slice fA ff.length fC, vi slo, vi shi, .slice pA fp.length pC, vi fc, .slice sA fs.length sC]
  go_enter Tryd.func34, Tryd.ntmps34
  go_wp2_with fail
  obtain ⟨wl, hW⟩ : ∃ W, W = w.alloc (.cells #[.slice fA ff.length fC, vi slo, vi shi, .slice pA fp.length pC, vi fc, .slice sA fs.length sC] 28) := ⟨_, rfl⟩
  rw [← hW] at hb0 X0 ⊢
  (have a0 := X0.cell (j := 0) rfl; have a1 := X0.cell (j := 1) rfl; have a2 := X0.cell (j := 2) rfl; have a3 := X0.cell (j := 3) rfl; have a4 := X0.cell (j := 4) rfl; have a5 := X0.cell (j := 5) rfl; have za := X0.lt)
  clear hW X0
  (refine wp_region_grow_lit (by kernel_rfl) (by kernel_rfl) ?_; (repeat (go_big_quiet_step (first | (go_at_call 55; refine Calls.grow_of (IS.out _)) | (go_at_call 54; refine Calls.grow_of (AS.out _ (HF.out.to (hb0.trans ((plus_below _ _).mono hb0.size)))))))); refine wpQuiet_nil ?_; intro w1 hw1; have hb1 := below_of_plus hw1; clear hw1; obtain ⟨⟨hc1, hf1, hs1⟩, hz1⟩ := after hb1; (try simp only [World.size_alloc, World.size_setCell, World.size_drew] at hz1))
  have HB1 : Below w.heap.size w w1 := hb0.trans (hb1.mono hb0.size)
  clear hb1 hc1 hf1 hs1 hz1 a0 a1 a2 a3 a4 a5 za
  go_wp2_with fail
  go_ret2
  exact ⟨rfl, HB1⟩
/-- what is so between rounds -/
structure HalfQ (f : Floor) (k p : Nat) (t lo hi : Int) : Prop where
  low : 0 ≤ lo → enoughF f k p lo = false
  high : hi < t → enoughF f k p hi = true
set_option maxRecDepth 100000 in
theorem rSpare_ok (f : Floor) (n : Int) (hc0 : checkSlipV f n = 0) (w : World) (h : FloorAt w w.heap.size f) :
    Calls Tryd.prog 34 #[f.val, vi n] w fun e w' => ∃ v c, e = .returned (.tuple #[vi v, vi c]) ∧ SpareQ f n v c ∧ Below w.heap.size w w' := by
  rcases check_cases f n with hbad | ⟨-, hv, k, s, rfl, hs⟩
  · omega
  have HF := Lib.hid h
  have h3l := h.slips.lens
  have hsb : slipB f k = true := by
    have := (List.getElem?_eq_some_iff.1 hs).1
    unfold slipB
    simp
    omega
  have IS := Lib.hid (fun (W : World) => isSlip_is hsb W h3l.2)
  have AS := Lib.hid (fun (W : World) hW => asked_is (b := true) (e := 0) (by rw [← hsb, asked_slip, hc0]) W hW)
  have PK := Lib.hid (fun (W : World) hW => Pickers_any f W hW)
  have h9 := (fine hv).slips9
  obtain ⟨i0, hi, hy0, hy1, hy2⟩ := info_parts info_slip
  have hk := (List.getElem?_eq_some_iff.1 hs).1
  have hti := ((valid_parts hv).2.2.2.2.2.2 k s hs).1
  have hN := pow_512 h9
  have hN1 : 1 ≤ 2 ^ f.slips.length := Nat.two_pow_pos _
  have hall := all_fact ⟨f.slips.length, by omega⟩
  simp only at hall
  have DATA : (5 < manyQ f ∧ PickersV f = (0, 4)) ∨ ∃ p : Nat, 1 ≤ p ∧ p ≤ 5 ∧ manyQ f = p ∧ PickersV f = ((p : Int), 0) := by
    have hc : checkV f = 0 := by unfold checkV; rw [if_pos hv]
    rcases many_is hv with ⟨h1, h2⟩ | ⟨p, h1, h2, h3, h4⟩
    · left
      refine ⟨h2, ?_⟩
      unfold PickersV; rw [if_pos hc, if_pos h2]
    · right
      refine ⟨p, h3, h4, h2, ?_⟩
      unfold PickersV; rw [if_pos hc, if_neg (by omega), h2]
  have NONE : Hid (5 < manyQ f → SpareQ f k 0 4) := fun h5 => .inr (.inl ⟨hc0, h5, rfl, rfl⟩)
  have FIN : Hid (∀ p : Nat, p ≤ 5 → manyQ f = p → ∀ lo hi : Int, -1 ≤ lo → lo < hi → ¬ 1 < hi - lo → hi ≤ s.till → HalfQ f k p s.till lo hi → SpareQ f k hi 0) := fun p hp hm lo hi h1 h2 h3 h4 hq => by
    refine .inr (.inr ⟨hc0, rfl, k, p, s.till.toNat, hi.toNat, s, rfl, hs, by omega, hm, hp, by omega, by omega, fun j hj hle => ?_, fun hlt => ?_⟩)
    · rw [enough_few hv hp (by omega) (by omega)] at hle
      have := hq.low (by omega)
      rw [show lo = (j : Int) by omega, hle] at this
      cases this
    · rw [enough_few hv hp (by omega) (by omega)]
      have := hq.high (by omega)
      rwa [show ((hi.toNat : Nat) : Int) = hi by omega]
  have hat := flatSl_at f.slips k s hs
  have HAT := Lib.hid hat
  have HSET := Lib.hid (fun u => flatSl_set f.slips k u hk)
  have HLEN := Lib.hid (flatSl_len f.slips)
  obtain ⟨sb, so, hsA, hsb2, s0, s1⟩ := row2 h.slips.row hs rfl
  have HS0 := Lib.hid s0
  have HS1 := Lib.hid s1
  have hkI : (k : Int) < f.slips.length := by omega
  have h0k : (0 : Int) ≤ k := by omega
  have hle := h.slips.lens
  have hnews := row_cells (b := sb) (off := so) (by have := h.slips.row; rwa [hsA] at this) (slips_two f.slips) (by omega) (by simp; omega)
  have HN := Lib.hid hnews
  have hfl : (f.slips.map SSlip.cells).flatten.length = f.slips.length * 2 := by rw [flat_len _ (slips_two f.slips)]; simp
  have HFL := Lib.hid hfl
  have FEX : Hid (∀ (p : Nat), p ≤ 5 → ∀ mid : Int, 0 ≤ mid → mid ≤ 100000 → ∀ (g c : Nat) (W : World), FloorAt W W.heap.size (withF f (some ⟨g, 0, none⟩) c k mid) → Calls Tryd.prog 72 #[.agg #[.slice f.fA f.far.length f.fC, vi f.slo, vi f.shi, .slice f.pA f.picks.length f.pC, vi f.carry, .slice (some ⟨g, 0, none⟩) f.slips.length c]] W fun e w' => ∃ A cap y O, e = .returned (.slice A (2 ^ f.slips.length : Nat) cap) ∧ IntsAt w' w'.heap.size A cap O ∧ O[2 ^ f.slips.length - 1]? = some y ∧ O.length = 2 ^ f.slips.length ∧ decide (y ≤ (p : Int)) = enoughF f k p mid ∧ Below W.heap.size W w') := fun p hp mid h0 h1 g c W hW => by
    have hvx := valid_till hv (some ⟨g, 0, none⟩) c k h0 h1
    have hl : (withF f (some ⟨g, 0, none⟩) c k mid).slips.length = f.slips.length := by simp [withF]
    have e : (withF f (some ⟨g, 0, none⟩) c k mid).val = .agg #[.slice f.fA f.far.length f.fC, vi f.slo, vi f.shi, .slice f.pA f.picks.length f.pC, vi f.carry, .slice (some ⟨g, 0, none⟩) f.slips.length c] := by simp [withF]
    have key := fewest_any2 _ hvx W hW
    rw [e] at key
    refine key.mono ?_
    rintro e w' ⟨A, cap, rfl, hA, hB⟩
    have hlast := last_few (withF f (some ⟨g, 0, none⟩) c k mid)
    have hall2 : allF (withF f (some ⟨g, 0, none⟩) c k mid) = allF f := by unfold allF; rw [hl]
    rw [PM.out_len, hl]
    rw [hl, hall2] at hlast
    rw [hl] at hA
    refine ⟨A, cap, _, _, rfl, hA, hlast, PM.out_len _ _, ?_, hB⟩
    rw [Bool.eq_iff_iff, decide_eq_true_eq]
    exact few_with hv hp h0 h1 _ _
  have HWR2 : Hid (∀ (u : Int) (w' : World) (g c : Nat) (rest : List Value), Below w.heap.size w w' → CellsBox w' g 52 (flatSl (f.slips.modify k fun s => { s with till := u }) ++ rest) → f.slips.length ≤ c → c ≤ maxLen → FloorAt w' w'.heap.size (withF f (some ⟨g, 0, none⟩) c k u)) := fun u w' g c rest h1 h2 h3 h4 => with_rows h h1 h2 h3 h4 h9
  obtain ⟨WF, hWF⟩ : ∃ WF : Int → Nat → Nat → Floor, WF = fun u g c => withF f (some ⟨g, 0, none⟩) c k u := ⟨_, rfl⟩
  have eW : ∀ u g c, withF f (some ⟨g, 0, none⟩) c k u = WF u g c := fun u g c => by rw [hWF]
  simp only [eW] at HWR2 FEX
  obtain ⟨SL, hSL⟩ : ∃ SL : Int → List Value, SL = fun u => flatSl (f.slips.modify k fun s => { s with till := u }) := ⟨_, rfl⟩
  have eS : ∀ u, flatSl (f.slips.modify k fun s => { s with till := u }) = SL u := fun u => by rw [hSL]
  simp only [eS] at HWR2 HSET
  obtain ⟨SQ, hSQ⟩ : ∃ SQ, SQ = SpareQ f k := ⟨_, rfl⟩
  rw [← hSQ] at NONE FIN ⊢
  obtain ⟨HQ, hHQ⟩ : ∃ HQ, HQ = HalfQ f k := ⟨_, rfl⟩
  have HQ0 : Hid (∀ p t, HQ p t (-1) t) := fun p t => by rw [hHQ]; exact ⟨fun h => by omega, fun h => by omega⟩
  have HQL : Hid (∀ p t lo hi mid, HQ p t lo hi → enoughF f k p mid = true → HQ p t lo mid) := fun p t lo hi mid h1 h2 => by rw [hHQ] at h1 ⊢; exact ⟨h1.low, fun _ => h2⟩
  have HQR : Hid (∀ p t lo hi mid, HQ p t lo hi → enoughF f k p mid = false → HQ p t mid hi) := fun p t lo hi mid h1 h2 => by rw [hHQ] at h1 ⊢; exact ⟨fun _ => h2, h1.high⟩
  rw [← hHQ] at FIN
  obtain ⟨EN, hEN⟩ : ∃ EN, EN = enoughF f k := ⟨_, rfl⟩
  rw [← hEN] at FEX HQL HQR
  obtain ⟨MQ, hMQ⟩ : ∃ MQ, MQ = manyQ f := ⟨_, rfl⟩
  rw [← hMQ] at DATA NONE FIN
  obtain ⟨N, hNN⟩ : ∃ N, N = 2 ^ f.slips.length := ⟨_, rfl⟩
  rw [← hNN] at FEX hN hN1 hall
  obtain ⟨⟨pv, pc⟩, hPV⟩ : ∃ P, PickersV f = P := ⟨_, rfl⟩
  rw [hPV] at DATA
  have PK2 : Hid (∀ W : World, FloorAt W W.heap.size f → Calls Tryd.prog 29 #[f.val] W fun e w' => e = .returned (.tuple #[vi pv, vi pc]) ∧ Below W.heap.size W w') := fun W hW => by
    have := PK.out W hW
    rwa [hPV] at this
  have HDATA := Lib.hid DATA
  clear h hs hat hnews hfl s0 s1 hWF eW hSL eS hSQ hHQ hEN hMQ hNN hPV PK DATA hv hc0 hsb
  obtain ⟨sa, sc, sl, st⟩ := s
  obtain ⟨fA, fC, ff, slo, shi, pA, pC, fp, fc, sA, sC, fs⟩ := f
  simp only at hsA
  subst hsA
  simp only [SSlip.slice] at HAT HS0
  simp only at HF HWR2 HAT HSET HLEN HN HFL h9 hk hkI hle FEX hti FIN HS1 hall IS AS PK2 h3l
  have hl0 : (0 : Int) ≤ fs.length := by omega
  have hl9 : (fs.length : Int) ≤ 9 := by omega
  show Calls Tryd.prog 34 #[.agg #[.slice fA ff.length fC, vi slo, vi shi, .slice pA fp.length pC, vi fc, .slice (some ⟨sb, so, none⟩) fs.length sC], vi k] w _
  have hb0 := below1 w (.cells #[.slice fA ff.length fC, vi slo, vi shi, .slice pA fp.length pC, vi fc, .slice (some ⟨sb, so, none⟩) fs.length sC] 28)
  have X0 := CellsBox.new w 28 [.slice fA ff.length fC, vi slo, vi shi, .slice pA fp.length pC, vi fc, .slice (some ⟨sb, so, none⟩) fs.length sC]
  go_enter Tryd.func34, Tryd.ntmps34
  go_wp2_with fail
  obtain ⟨wl, hW⟩ : ∃ W, W = w.alloc (.cells #[.slice fA ff.length fC, vi slo, vi shi, .slice pA fp.length pC, vi fc, .slice (some ⟨sb, so, none⟩) fs.length sC] 28) := ⟨_, rfl⟩
  rw [← hW] at hb0 X0 ⊢
  (have a0 := X0.cell (j := 0) rfl; have a1 := X0.cell (j := 1) rfl; have a2 := X0.cell (j := 2) rfl; have a3 := X0.cell (j := 3) rfl; have a4 := X0.cell (j := 4) rfl; have a5 := X0.cell (j := 5) rfl; have za := X0.lt)
  have HX := Lib.hid X0
  clear hW X0
  (refine wp_region_grow_lit (by kernel_rfl) (by kernel_rfl) ?_; (repeat (go_big_quiet_step (first | (go_at_call 55; refine Calls.grow_of (IS.out _)) | (go_at_call 54; refine Calls.grow_of (AS.out _ (HF.out.to (hb0.trans ((plus_below _ _).mono hb0.size)))))))); refine wpQuiet_nil ?_; intro w1 hw1; have hb1 := below_of_plus hw1; clear hw1; obtain ⟨⟨hc1, hf1, hs1⟩, hz1⟩ := after hb1; (try simp only [World.size_alloc, World.size_setCell, World.size_drew] at hz1))
  have HB : Below w.heap.size w w1 := hb0.trans (hb1.mono hb0.size)
  replace HX := Lib.hid (HX.out.keep hb1)
  clear hb1 hc1 hf1 hs1 hz1 a0 a1 a2 a3 a4 a5 za hb0
  (have a0 := HX.out.cell (j := 0) rfl; have a1 := HX.out.cell (j := 1) rfl; have a2 := HX.out.cell (j := 2) rfl; have a3 := HX.out.cell (j := 3) rfl; have a4 := HX.out.cell (j := 4) rfl; have a5 := HX.out.cell (j := 5) rfl; have za := HX.out.lt)
  go_wp2_with fail
  refine (PK2.out _ (HF.out.to HB)).mono ?_
  rintro e W2 ⟨rfl, hb⟩
  (replace HX := Lib.hid (HX.out.keep hb); replace HB : Below w.heap.size w W2 := HB.trans (hb.mono HB.size); clear hb a0 a1 a2 a3 a4 a5 za; (have a0 := HX.out.cell (j := 0) rfl; have a1 := HX.out.cell (j := 1) rfl; have a2 := HX.out.cell (j := 2) rfl; have a3 := HX.out.cell (j := 3) rfl; have a4 := HX.out.cell (j := 4) rfl; have a5 := HX.out.cell (j := 5) rfl; have za := HX.out.lt))
  rcases HDATA.out with ⟨h5, hp⟩ | ⟨p, hp1, hp5, hm, hp⟩
  · obtain ⟨rfl, rfl⟩ := Prod.mk.inj hp
    have HN5 := Lib.hid (NONE.out h5)
    clear h5 hp HDATA
    go_wp2_with fail
    go_ret2
    exact ⟨0, 4, rfl, HN5.out, HB⟩
  · obtain ⟨rfl, rfl⟩ := Prod.mk.inj hp
    have HFIN := Lib.hid (FIN.out p hp5 hm)
    have HFE := Lib.hid (FEX.out p hp5)
    have HQLp := Lib.hid (HQL.out p st)
    have HQRp := Lib.hid (HQR.out p st)
    have HQ0p := Lib.hid (HQ0.out p st)
    obtain ⟨H, hH⟩ : ∃ H, H = HQ p st := ⟨_, rfl⟩
    obtain ⟨ENP, hENP⟩ : ∃ ENP, ENP = EN p := ⟨_, rfl⟩
    rw [← hH] at HFIN HQLp HQRp HQ0p
    rw [← hENP] at HFE HQLp HQRp
    have s1w : W2.cell? ⟨sb, so + k * 2 + 1, none⟩ = some (vi st) := (HB.cell hsb2).trans HS1.out
    have zsb := cell_lt s1w
    clear hp HDATA hH hENP FIN FEX HQL HQR HQ0 NONE hm
    go_wp2_with fail
    go_quiet (fail)
    go_wp2_with fail
    clear a0 a1 a2 a3 a4 a5 za s1w zsb
    go_loopw [9, 10, 11] (fun lo hi x wr => ∃ (l h : Int), lo = vi l ∧ hi = vi h ∧ -1 ≤ l ∧ l < h ∧ h ≤ st ∧ Hid (H l h) ∧ Below W2.heap.size W2 wr) (fun lo hi _ _ => (intOf hi - intOf lo).toNat)
    case atStart => exact ⟨-1, st, rfl, rfl, by omega, by omega, by omega, HQ0p.out, by (repeat (first | exact Below.refl _ _ | refine Below.setCell ?_ (by first | omega | (simp; omega) | (simp; done)) _ | refine Below.alloc ?_ (by first | omega | (simp; omega) | (simp; done)) _ | refine Below.drew ?_ | refine below_drewN ?_ _ | refine Below.trans ?_ (Below.mono (by assumption) (by first | omega | (simp; omega) | (simp; done)))))⟩
    obtain ⟨l, h, rfl, rfl, hl1, hlh, hht, HH, hB⟩ := hrel
    have HBr : Below w.heap.size w wr := HB.trans (hB.mono HB.size)
    have HXR := Lib.hid (HX.out.keep hB)
    (have a0 := HXR.out.cell (j := 0) rfl; have a1 := HXR.out.cell (j := 1) rfl; have a2 := HXR.out.cell (j := 2) rfl; have a3 := HXR.out.cell (j := 3) rfl; have a4 := HXR.out.cell (j := 4) rfl; have a5 := HXR.out.cell (j := 5) rfl; have za := HXR.out.lt)
    have hw1 : IntKind.wrap .i64 (h - l) = h - l := wrapI (by omega) (by omega)
    by_cases hgo : 1 < h - l
    · have hd : decide (1 < h - l) = true := by simp; omega
      obtain ⟨m, hm⟩ : ∃ m, (l + h).tdiv 2 = m := ⟨_, rfl⟩
      have hme : (l + h).tdiv 2 = (l + h) / 2 := Int.tdiv_eq_ediv_of_nonneg (by omega)
      have hm1 : l < m := by omega
      have hm2 : m < h := by omega
      have hm0 : 0 ≤ m := by omega
      clear hme
      have hw2 : IntKind.wrap .i64 (l + h) = l + h := wrapI (by omega) (by omega)
      have hw3 : IntKind.wrap .i64 m = m := wrapI (by omega) (by omega)
      clear hgo
      go_upto_region 10 with fail
      refine (?_ : ∀ W3 : World, CellsBox W3 w.heap.size 28 [.slice fA ff.length fC, vi slo, vi shi, .slice pA fp.length pC, vi fc, .slice (some ⟨sb, so, none⟩) fs.length sC] → CellsBox W3 wr.heap.size 28 [.slice fA ff.length fC, vi slo, vi shi, .slice pA fp.length pC, vi fc, .slice (some ⟨sb, so, none⟩) fs.length sC] → Below wr.heap.size wr W3 → Code.wp _ _ _ _ W3) _ (HXR.out.alloc _) (CellsBox.new wr 28 [.slice fA ff.length fC, vi slo, vi shi, .slice pA fp.length pC, vi fc, .slice (some ⟨sb, so, none⟩) fs.length sC]) (below1 wr _)
      have hwr : w.heap.size < wr.heap.size := HXR.out.lt
      obtain ⟨bx, hbx⟩ : ∃ bx, bx = wr.heap.size := ⟨_, rfl⟩
      clear a0 a1 a2 a3 a4 a5 za
      intro W3 X Y hb3
      have HB3 : Below w.heap.size w W3 := HBr.trans (hb3.mono HBr.size)
      rw [← hbx] at Y ⊢
      have hbz : w.heap.size < bx := by omega
      have hbx1 : wr.heap.size ≤ bx := by omega
      clear hbx
      have a5 := X.cell (j := 5) rfl
      have za := X.lt
      have hz := HB3.size
      have z2 := Y.lt
      have HXW := Lib.hid X
      have HY := Lib.hid Y
      have HN3 := Lib.hid (fun j u hj => HB3.cell (p := (⟨sb, so, none⟩ : Addr).add j) (by unfold Addr.add; split <;> exact hsb2) |>.trans (HN.out j u hj))
      have y0 := Y.frozen 5
      have hn0 : 0 < fs.length := by omega
      have hb3s := hb3.size
      clear X Y
      go_upto_region 11 with (at_builtin; go_loud (refine wpList_append_own _ rfl _ _ 26 rfl W3.heap.size 52 i0 (.agg #[.slice none 0 0, vi 0]) 2 32 Tryd.underlying26 hi hy0 hy1 hy2 rfl (by decide) _ _ _ rfl (own_empty W3 _ _) ⟨sb, so, none⟩ fs.length sC (fs.map SSlip.cells).flatten rfl HFL.out (fun j u hj => cell_alloc (HN3.out j u hj) _) (by intro u hu; simp only [List.mem_flatten, List.mem_map] at hu; obtain ⟨r, ⟨s, _, rfl⟩, hu⟩ := hu; simp only [SSlip.cells, List.mem_cons, List.mem_nil_iff, or_false] at hu; rcases hu with rfl | rfl <;> rfl) (by unfold maxLen; omega) (by omega) (by simp) ?_; intro v5 w5 hown5 hgrow5 _; have HB5 : Below W3.heap.size W3 w5 := Below.grown ((Below.refl W3.heap.size W3).alloc (Nat.le_refl _) _) hgrow5 (by simp) (fun k e => by (have e2 : some W3.heap.size = some k := e; cases e2; exact Nat.le_refl _)); rw [Nat.zero_add, List.nil_append] at hown5; obtain ⟨g, c, cur, rfl, g1, g2, g3, g4, g5, g6⟩ := own_some hown5 hn0; have Y5 := HY.out.keep HB5; have c5 := Y5.cell (j := 5) rfl; have f5 := Y5.frozen 5; have z5 := Y5.lt))
      have XG : CellsBox w5 g 52 (flatSl fs ++ cur.toList.drop (fs.length * 2)) := by
        unfold CellsBox
        rw [g2]
        have e : flatSl fs ++ cur.toList.drop (fs.length * 2) = cur.toList := by
          have : flatSl fs = cur.toList.take (fs.length * 2) := by rw [g6, flatSl, List.flatMap_def]
          rw [this, List.take_append_drop]
        rw [e]
      obtain ⟨rest, hrest⟩ : ∃ rest, rest = cur.toList.drop (fs.length * 2) := ⟨_, rfl⟩
      rw [← hrest] at XG
      have ng0 : g ≠ w.heap.size := by omega
      have ng2 : g ≠ bx := by omega
      have hwg : w.heap.size ≤ g := by omega
      have hrg : wr.heap.size ≤ g := by omega
      have PX := ((HXW.out.keep HB5).apart ⟨bx, 5, none⟩ (.slice (some ⟨g, 0, none⟩) fs.length c) (by simp only; omega))
      have PY := (Y5.store 5 (.slice (some ⟨g, 0, none⟩) fs.length c))
      have PG := (XG.apart ⟨bx, 5, none⟩ (.slice (some ⟨g, 0, none⟩) fs.length c) (by simp only; omega))
      have PB := ((hb3.trans (HB5.mono hb3s)).setCell (p := ⟨bx, 5, none⟩) (by simp only; omega) (.slice (some ⟨g, 0, none⟩) fs.length c))
      clear hown5 hgrow5 c5 f5 z5 Y5 XG g1 g2 g5 g6 hrest HXW HY HN3 HB3 HB5 a5 za y0 z2 hb3
      refine (?_ : ∀ W6 : World, CellsBox W6 w.heap.size 28 [.slice fA ff.length fC, vi slo, vi shi, .slice pA fp.length pC, vi fc, .slice (some ⟨sb, so, none⟩) fs.length sC] → CellsBox W6 bx 28 [.slice fA ff.length fC, vi slo, vi shi, .slice pA fp.length pC, vi fc, .slice (some ⟨g, 0, none⟩) fs.length c] → CellsBox W6 g 52 (flatSl fs ++ rest) → Below wr.heap.size wr W6 → Code.wp _ _ _ _ W6) _ PX PY PG PB
      clear PX PY PG PB
      intro W6 X Y G hb6
      have HB6 : Below w.heap.size w W6 := HBr.trans (hb6.mono HBr.size)
      have a5 := X.cell (j := 5) rfl
      have za := X.lt
      have y5 := Y.cell (j := 5) rfl
      have zy := Y.lt
      have s0 : W6.cell? ⟨sb, so + k * 2, none⟩ = some (.slice sa sl.length sc) := (HB6.cell hsb2).trans HS0.out
      have zs := cell_lt s0
      have g0 : W6.cell? ⟨g, 0 + k * 2, none⟩ = some (.slice sa sl.length sc) := by rw [Nat.zero_add]; exact G.cell (by rw [List.getElem?_append_left (by rw [HLEN.out]; omega)]; exact HAT.out.1)
      have g1 : W6.cell? ⟨g, 0 + (k * 2 + 1), none⟩ = some (vi st) := by rw [Nat.zero_add]; exact G.cell (by rw [List.getElem?_append_left (by rw [HLEN.out]; omega)]; exact HAT.out.2)
      rw [Nat.zero_add] at g0 g1
      have q0 := G.frozen (k * 2)
      have q1 := G.frozen (k * 2 + 1)
      have zg := G.lt
      have NX := (X.apart ⟨g, k * 2, none⟩ (.slice sa sl.length sc) (by simp only; omega)).apart ⟨g, k * 2 + 1, none⟩ (vi m) (by simp only; omega)
      have NY := (Y.apart ⟨g, k * 2, none⟩ (.slice sa sl.length sc) (by simp only; omega)).apart ⟨g, k * 2 + 1, none⟩ (vi m) (by simp only; omega)
      have NG := (G.store (k * 2) (.slice sa sl.length sc)).store (k * 2 + 1) (vi m)
      have NB := (hb6.setCell (p := ⟨g, k * 2, none⟩) hrg (.slice sa sl.length sc)).setCell (p := ⟨g, k * 2 + 1, none⟩) hrg (vi m)
      have HNN := Lib.hid (And.intro NX (And.intro NY (And.intro NG NB)))
      clear NX NY NG NB X Y G hb6 HB6
      go_region_with fail
      all_goals
        refine (?_ : ∀ W9 : World, CellsBox W9 w.heap.size 28 [.slice fA ff.length fC, vi slo, vi shi, .slice pA fp.length pC, vi fc, .slice (some ⟨sb, so, none⟩) fs.length sC] → CellsBox W9 bx 28 [.slice fA ff.length fC, vi slo, vi shi, .slice pA fp.length pC, vi fc, .slice (some ⟨g, 0, none⟩) fs.length c] → CellsBox W9 g 52 (((flatSl fs ++ rest).set (k * 2) (.slice sa sl.length sc)).set (k * 2 + 1) (vi m)) → Below wr.heap.size wr W9 → Exit.then _ _ _ _ W9) _ HNN.out.1 HNN.out.2.1 HNN.out.2.2.1 (by first | exact HNN.out.2.2.2 | exact HNN.out.2.2.2.drew)
        clear HNN s0 zs g0 g1 q0 q1 zg a5 za y5 zy
        intro W9 X Y G hb9
        have HB9 : Below w.heap.size w W9 := HBr.trans (hb9.mono HBr.size)
        have FX : Hid (FloorAt W9 W9.heap.size (WF m g c)) := by
          refine HWR2.out m W9 g c rest HB9 ?_ g3 g4
          have hl := HLEN.out
          have h1 : (flatSl fs).set (k * 2) (.slice sa sl.length sc) = flatSl fs := by
            apply List.ext_getElem?
            intro i
            rw [List.getElem?_set]
            split
            · rename_i hi2
              subst hi2
              rw [HAT.out.1, if_pos (by omega)]
            · rfl
          rw [List.set_append_left _ _ (by omega), h1, List.set_append_left _ _ (by omega)] at G
          rw [HSET.out]
          exact G
        have HXW := Lib.hid X
        have HYW := Lib.hid Y
        clear X Y G
        go_wp2_with fail
        refine' wp_region_box (fun w' => Below W9.heap.size W9 w') (fun a b h h' => gr_trans h h') [0, 2, 3, 4, 5, 6, 9] 4 79 (by kernel_rfl) (by kernel_rfl) rfl (by kernel_rfl) (by kernel_rfl) rfl (by kernel_rfl) ?hl5 (Below.refl _ _) ?hq5 ?hr5
        case hl5 =>
          simp only [List.map_cons, List.map_nil, List.getD_cons_zero, List.getD_cons_succ]
          exact rfl
        case hq5 =>
          intro w0 K
          have a5 := (HXW.out.keep K).cell (j := 5) rfl
          have za := (HXW.out.keep K).lt
          have YK := HYW.out.keep K
          have f0 := YK.cell (j := 0) rfl
          have f1 := YK.cell (j := 1) rfl
          have f2 := YK.cell (j := 2) rfl
          have f3 := YK.cell (j := 3) rfl
          have f4 := YK.cell (j := 4) rfl
          have f5 := YK.cell (j := 5) rfl
          have zf := YK.lt
          (repeat (go_big_quiet_step (fail)))
          exact wpQuiet_nil rfl
        case hr5 =>
          refine wpUp_one (i := 1) (by kernel_rfl) rfl rfl (fun wa a1 a2 Ka hKa => ?_)
          go_simp
          refine (HFE.out m hm0 (by omega) g c wa (FX.out.to a2)).mono ?_
          rintro e w3 ⟨A, cap, y, O, rfl, hAt, hy, hOl, hdy, hb3⟩
          obtain ⟨bb, off, rfl, hbb, x0⟩ := ints_at hAt hy
          have HDY := Lib.hid hdy
          clear hAt hy hOl hdy
          have hi1 : ((N - 1 : Nat) : Int) < N := by omega
          have hi0 : (0 : Int) ≤ ((N - 1 : Nat) : Int) := by omega
          refine hKa _ _ (gr_trans a2 hb3) ?_
          refine wpUp_one (i := 7) (by kernel_rfl) rfl rfl (fun wb b1 b2 Kb hKb => ?_)
          go_simp
          refine hKb _ _ b2 ?_
          refine wpUp_one (i := 8) (by kernel_rfl) rfl rfl (fun wc c1 c2 Kc hKc => ?_)
          have x0c := cell_keep (gr_trans b1 c1) x0
          have zc := cell_lt x0c
          go_simp
          refine hKc _ _ c2 ?_
          refine wpUp_one (i := 10) (by kernel_rfl) rfl rfl (fun wd d1 d2 Kd hKd => ?_)
          go_simp
          refine hKd _ _ d2 (wpUp_done (by kernel_rfl) (fun W8 u1 u2 => NoPanic.normal ?_))
          have hB8 : Below W2.heap.size W2 W8 := hB.trans ((hb9.trans (u2.mono hb9.size)).mono hB.size)
          clear hKa hKb hKc hKd a1 a2 b1 b2 c1 c2 d1 d2 u1 u2 x0 x0c zc hb3 hbb hi0 hi1 HXW HYW FX HB9 hb9 rest g3 g4 ng0 ng2 hwg hrg
          rcases hdd : decide (y ≤ (p : Int)) with _ | _
          · have NEXT : Hid (H m h) := HQRp.out l h m HH.out (by rw [← HDY.out]; exact hdd)
            go_wp2_with fail
            go_roundw
            case rel => exact ⟨m, h, rfl, rfl, by omega, by omega, by omega, NEXT, hB8⟩
            case measure => simp [intOf]; omega
          · have NEXT : Hid (H l m) := HQLp.out l h m HH.out (by rw [← HDY.out]; exact hdd)
            go_wp2_with fail
            go_roundw
            case rel => exact ⟨l, m, rfl, rfl, by omega, by omega, by omega, NEXT, hB8⟩
            case measure => simp [intOf]; omega
    · have hd : decide (1 < h - l) = false := by simp; omega
      have HE := Lib.hid (HFIN.out l h hl1 hlh (by omega) hht HH.out)
      go_wp2_with fail
      go_ret2
      exact ⟨h, 0, rfl, HE.out, HBr⟩
theorem rSpare_any (f : Floor) (n : Int) (w : World) (h : FloorAt w w.heap.size f) :
    Calls Tryd.prog 34 #[f.val, vi n] w fun e w' => ∃ v c, e = .returned (.tuple #[vi v, vi c]) ∧ SpareQ f n v c ∧ Below w.heap.size w w' := by
  by_cases hc0 : checkSlipV f n = 0
  · exact rSpare_ok f n hc0 w h
  · refine (rSpare_bad f n hc0 w h).mono ?_
    rintro e w' ⟨rfl, hB⟩
    exact ⟨0, _, rfl, .inl ⟨hc0, rfl, rfl⟩, hB⟩
end Go.Proofs.YtomgnpfpaodpiaaDoor

