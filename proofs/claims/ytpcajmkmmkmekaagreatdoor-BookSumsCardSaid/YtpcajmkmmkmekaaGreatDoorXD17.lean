/- Contracts of the specification's Sum and Cheapest. -/
import Derived.Test.YtpcajmkmmkmekaaGreatDoorXD16
import Derived.Test.YtpcajmkmmkmekaaGreatDoorXE7
import Derived.Test.YtpcajmkmmkmekaaGreatDoorXD6
set_option linter.unusedVariables false
set_option linter.unusedSimpArgs false
namespace Go.Proofs.YtpcajmkmmkmekaaGreatDoor
open Go Go.RowKit
set_option maxHeartbeats 4000000
theorem sum_ref (r : Rack) (d : Int) (ls : List Line) : askedE r (limB 3 d && rLinesB r.goods ls) = if validB r then if sumAsk r d ls then 0 else 11 else 10 := by
  unfold askedE
  cases hv : validB r with
  | false => rfl
  | true => rw [rLines_is hv]; rfl
theorem cheap_ref (r : Rack) (a b : Int) (ls : List Line) : askedE r (limS 3 a b && rLinesB r.goods ls) = if validB r then if cheapAsk r a b ls then 0 else 11 else 10 := by
  unfold askedE
  cases hv : validB r with
  | false => rfl
  | true => rw [rLines_is hv]; rfl
theorem adds_sum {r : Rack} (hok : RackOk r) {ls : List Line} (hl : linesB r ls = true) (d : Int) : sumO r d ls = if addB r d ls ls.length then some (addI r d ls ls.length) else none := by
  obtain ⟨h1, h2⟩ := lines_many hl
  exact sumO_is hok (fun l hl => (h1 l hl).2) h2
set_option maxRecDepth 100000 in
theorem rSum_any (r : Rack) (d : Int) (ls : List Line) (A : Option Addr) (cap : Nat) (w : World) (h : RackAt w w.heap.size r) (hls : LinesAt w w.heap.size A cap ls) :
    Calls Tryz.prog 24 #[r.val, vi d, .slice A ls.length cap] w fun e' w' => e' = .returned (.tuple #[vi (sumV r d ls), vi (sumErr r d ls)]) ∧ Below w.heap.size w w' := by
  by_cases hv : validB r = true
  · by_cases ha : sumAsk r d ls = true
    · have he : askedE r true = 0 := by simp [askedE, hv]
      have HE := Lib.hid he
      have hok := rack_ok hv
      have HR := Lib.hid h
      have HLS := Lib.hid hls
      have hrs : sumErr r d ls = (if (sumO r d ls).isSome then 0 else 4) ∧ sumV r d ls = (sumO r d ls).getD 0 := by simp [sumErr, sumV, hv, ha]
      rw [sumAsk, Bool.and_eq_true] at ha
      have Q1 := Lib.hid ha.1
      have Q2 : Hid (rLinesB r.goods ls = true) := by unfold Hid; rw [rLines_is hv]; exact ha.2
      have hcap := IssuesAt.cap h
      have hlen := IssuesAt.len h
      have lcap := hls.cap
      have llen := hls.len
      have CA : Hid (∀ nv bv, addI r d ls ls.length = nv → addB r d ls ls.length = bv → ∀ W : World, Below w.heap.size w W → Calls Tryz.prog 68 #[r.val, vi d, .slice A ls.length cap] W fun e w' => e = .returned (.tuple #[vi nv, .bool bv]) ∧ Below W.heap.size W w') := by
        intro nv bv h1 h2 W hW
        subst h1 h2
        exact radds_any r d ls hok ha.2 A cap W (HR.out.to hW) (HLS.out.to hW)
      have hso := adds_sum hok ha.2 d
      obtain ⟨nv, hnv⟩ : ∃ nv, addI r d ls ls.length = nv := ⟨_, rfl⟩
      obtain ⟨bv, hbv⟩ : ∃ bv, addB r d ls ls.length = bv := ⟨_, rfl⟩
      rw [hnv, hbv] at hso
      have NV := Lib.hid hnv
      have BV := Lib.hid hbv
      rw [hrs.1, hrs.2, hso]
      clear he ha hv hrs hok h hls hso hnv hbv
      obtain ⟨rg, rA, rcap, ri⟩ := r
      simp only at hcap hlen
      rcases bv with _ | _
      all_goals
        show Calls Tryz.prog 24 #[.agg #[vi rg, .slice rA ri.length rcap], vi d, .slice A ls.length cap] w _
        go_enter Tryz.func24, Tryz.ntmps24
        go_wp2_with fail
        (refine wp_region_grow_lit (by kernel_rfl) (by kernel_rfl) ?_; (repeat (go_big_quiet_step (first | (go_at_call 45; refine Calls.grow_same (risDay_is Q1.out _)) | (go_at_call 67; refine Calls.grow_of (rareLines_is (r := ⟨rg, rA, rcap, ri⟩) Q2.out A cap _ (HLS.out.to (by (repeat (first | exact Below.refl _ _ | refine Below.setCell ?_ (by first | omega | (simp; omega) | (simp; done)) _ | refine Below.alloc ?_ (by first | omega | (simp; omega) | (simp; done)) _ | refine Below.drew ?_ | refine below_drewN ?_ _ | refine Below.trans ?_ (Below.mono (plus_below _ _) (by first | omega | (simp; omega) | (simp; done))) | refine Below.trans ?_ (Below.mono (by assumption) (by first | omega | (simp; omega) | (simp; done))))))))) | (go_at_call 30; refine Calls.grow_of (asked_is HE.out _ (HR.out.to (by (repeat (first | exact Below.refl _ _ | refine Below.setCell ?_ (by first | omega | (simp; omega) | (simp; done)) _ | refine Below.alloc ?_ (by first | omega | (simp; omega) | (simp; done)) _ | refine Below.drew ?_ | refine below_drewN ?_ _ | refine Below.trans ?_ (Below.mono (plus_below _ _) (by first | omega | (simp; omega) | (simp; done))) | refine Below.trans ?_ (Below.mono (by assumption) (by first | omega | (simp; omega) | (simp; done)))))))))))); refine wpQuiet_nil ?_; intro w1 hw1; have hb1 := below_of_plus hw1; clear hw1; obtain ⟨⟨hc1, hf1, hs1⟩, hz1⟩ := after hb1; (try simp only [World.size_alloc, World.size_setCell, World.size_drew] at hz1))
        have HB1 : Below w.heap.size w w1 := by (repeat (first | exact Below.refl _ _ | refine Below.setCell ?_ (by first | omega | (simp; omega) | (simp; done)) _ | refine Below.alloc ?_ (by first | omega | (simp; omega) | (simp; done)) _ | refine Below.drew ?_ | refine below_drewN ?_ _ | refine Below.trans ?_ (Below.mono (by assumption) (by first | omega | (simp; omega) | (simp; done)))))
        have a0 : w1.cell? ⟨w.heap.size, 0, none⟩ = some (vi rg) := cell_keep hb1 (by simp [go_sem])
        have a1 : w1.cell? ⟨w.heap.size, 1, none⟩ = some (.slice rA ri.length rcap) := cell_keep hb1 (by simp [go_sem])
        have za := cell_lt a0
        clear hc1 hf1 hs1 hb1 hz1
        go_wp2_with fail
        refine (CA.out _ _ NV.out BV.out _ HB1).mono ?_
        rintro e w2 ⟨rfl, hb2⟩
        go_wp2_with fail
        go_ret2
        exact ⟨rfl, HB1.trans (hb2.mono HB1.size)⟩
    · have ha' : sumAsk r d ls = false := by simpa using ha
      have hrs : sumErr r d ls = 11 ∧ sumV r d ls = 0 := by simp [sumErr, sumV, hv, ha']
      rw [hrs.1, hrs.2]
      exact rSum_err r d ls 11 (by rw [sum_ref, if_pos hv, ha']; rfl) (.inr rfl) w h A cap hls
  · have hv' : validB r = false := by simpa using hv
    have hrs : sumErr r d ls = 10 ∧ sumV r d ls = 0 := by simp [sumErr, sumV, hv']
    rw [hrs.1, hrs.2]
    exact rSum_err r d ls 10 (by rw [sum_ref, hv']; rfl) (.inl rfl) w h A cap hls
theorem cheapT_succ {r : Rack} {ls : List Line} {l : List Int} {k : Nat} {t : Int} (h : l[k]? = some t) : cheapT r ls (l.take (k + 1)) = cheapS (cheapT r ls (l.take k)) t (sumO r t ls) := fold_succ h _ _
set_option maxRecDepth 100000 in
theorem rCheapest_yes (r : Rack) (a b : Int) (ls : List Line) (hv : validB r = true) (ha : cheapAsk r a b ls = true) (A : Option Addr) (cap : Nat) (w : World) (h : RackAt w w.heap.size r) (hls : LinesAt w w.heap.size A cap ls) :
    Calls Tryz.prog 26 #[r.val, .agg #[vi a, vi b], .slice A ls.length cap] w fun e' w' => e' = .returned (.tuple #[vi (((cheapO r a b ls).map Prod.fst).getD 0), vi (((cheapO r a b ls).map Prod.snd).getD 0), vi (if (cheapO r a b ls).isSome then 0 else 4)]) ∧ Below w.heap.size w w' := by
  have he : askedE r true = 0 := by simp [askedE, hv]
  have HE := Lib.hid he
  have hok := rack_ok hv
  have HR := Lib.hid h
  have HLS := Lib.hid hls
  rw [cheapAsk, Bool.and_eq_true] at ha
  obtain ⟨d0, dab, d2⟩ := lim_days ha.1
  have Q1 := Lib.hid ha.1
  have Q2 : Hid (rLinesB r.goods ls = true) := by unfold Hid; rw [rLines_is hv]; exact ha.2
  have hcap := IssuesAt.cap h
  have hlen := IssuesAt.len h
  have lcap := hls.cap
  have llen := hls.len
  obtain ⟨S, hS⟩ : ∃ S, S = sorted (turnN r.issues a b) := ⟨_, rfl⟩
  obtain ⟨N, hN⟩ : ∃ N, N = (turnN r.issues a b).length := ⟨_, rfl⟩
  have hNS : S.length = N := by rw [hS, hN, sorted_len]
  have hS9 : N ≤ 9 := by have := turnN_len (a := a) (b := b) r.issues; have := hok.n2; omega
  have CT : Hid (∀ W : World, Below w.heap.size w W → Calls Tryz.prog 62 #[r.val, .agg #[vi a, vi b]] W fun e w' => ∃ A c, e = .returned (.slice A N c) ∧ IntsAt w' w'.heap.size A N S ∧ Below W.heap.size W w') := by
    intro W hW
    rw [hN, hS]
    exact turns_any r a b hok d0 dab d2 W (h.to hW)
  have hct := cheap_turns r dab ls
  rw [← hS] at hct
  rw [← hct]
  have CA : Hid (∀ t nv bv, addI r t ls ls.length = nv → addB r t ls ls.length = bv → ∀ W : World, Below w.heap.size w W → Calls Tryz.prog 68 #[r.val, vi t, .slice A ls.length cap] W fun e w' => e = .returned (.tuple #[vi nv, .bool bv]) ∧ Below W.heap.size W w') := by
    intro t nv bv h1 h2 W hW
    subst h1 h2
    exact radds_any r t ls hok ha.2 A cap W (HR.out.to hW) (HLS.out.to hW)
  have SO : Hid (∀ t, sumO r t ls = if addB r t ls ls.length then some (addI r t ls ls.length) else none) := fun t => adds_sum hok ha.2 t
  have STEPS : Hid (∀ (k : Nat) (t : Int), S[k]? = some t → cheapT r ls (S.take (k + 1)) = cheapS (cheapT r ls (S.take k)) t (sumO r t ls)) := fun k t ht => cheapT_succ ht
  obtain ⟨T, hT⟩ : ∃ T : Nat → Option (Int × Int), T = fun k => cheapT r ls (S.take k) := ⟨_, rfl⟩
  have hT0 : T 0 = none := by rw [hT]; rfl
  have hTN : cheapT r ls S = T N := by rw [hT, ← hNS]; simp only [List.take_length]
  have TS : Hid (∀ (k : Nat) (t nv : Int) (bv : Bool), S[k]? = some t → addI r t ls ls.length = nv → addB r t ls ls.length = bv → T (k + 1) = cheapS (T k) t (if bv then some nv else none)) := by
    intro k t nv bv ht h1 h2
    have := STEPS.out k t ht
    rw [SO.out, h1, h2] at this
    rw [hT]
    exact this
  rw [hTN]
  have HT0 := Lib.hid hT0
  obtain ⟨le, hle⟩ : ∃ le : Int, le = (if (T N).isSome then 0 else 4) := ⟨_, rfl⟩
  obtain ⟨ld, hld⟩ : ∃ ld : Int, ld = ((T N).map Prod.fst).getD 0 := ⟨_, rfl⟩
  obtain ⟨ln, hln⟩ : ∃ ln : Int, ln = ((T N).map Prod.snd).getD 0 := ⟨_, rfl⟩
  rw [← hle, ← hld, ← hln]
  have RN : Hid (T N = none → ld = 0 ∧ ln = 0 ∧ le = 4) := fun hn => by rw [hle, hld, hln, hn]; simp
  have RS : Hid (∀ p q, T N = some (p, q) → ld = p ∧ ln = q ∧ le = 0) := fun p q hn => by rw [hle, hld, hln, hn]; simp
  clear hle hld hln
  clear he ha hv hok h hls hS hN hct hTN hT hT0 SO STEPS
  obtain ⟨AI, hAI⟩ : ∃ AI : Int → Int, AI = fun t => addI r t ls ls.length := ⟨_, rfl⟩
  obtain ⟨AB, hAB⟩ : ∃ AB : Int → Bool, AB = fun t => addB r t ls ls.length := ⟨_, rfl⟩
  have TS2 : Hid (∀ (k : Nat) (t nv : Int) (bv : Bool), S[k]? = some t → AI t = nv → AB t = bv → T (k + 1) = cheapS (T k) t (if bv then some nv else none)) := by rw [hAI, hAB]; exact TS.out
  have CA2 : Hid (∀ t nv bv, AI t = nv → AB t = bv → ∀ W : World, Below w.heap.size w W → Calls Tryz.prog 68 #[r.val, vi t, .slice A ls.length cap] W fun e w' => e = .returned (.tuple #[vi nv, .bool bv]) ∧ Below W.heap.size W w') := by rw [hAI, hAB]; exact CA.out
  clear TS CA hAI hAB
  obtain ⟨rg, rA, rcap, ri⟩ := r
  simp only at hcap hlen
  show Calls Tryz.prog 26 #[.agg #[vi rg, .slice rA ri.length rcap], .agg #[vi a, vi b], .slice A ls.length cap] w _
  go_enter Tryz.func26, Tryz.ntmps26
  go_wp2_with fail
  (refine wp_region_grow_lit (by kernel_rfl) (by kernel_rfl) ?_; (repeat (go_big_quiet_step (first | (go_at_call 31; refine Calls.grow_of (risDays_is Q1.out _)) | (go_at_call 67; refine Calls.grow_of (rareLines_is (r := ⟨rg, rA, rcap, ri⟩) Q2.out A cap _ (HLS.out.to (by (repeat (first | exact Below.refl _ _ | refine Below.setCell ?_ (by first | omega | (simp; omega) | (simp; done)) _ | refine Below.alloc ?_ (by first | omega | (simp; omega) | (simp; done)) _ | refine Below.drew ?_ | refine below_drewN ?_ _ | refine Below.trans ?_ (Below.mono (plus_below _ _) (by first | omega | (simp; omega) | (simp; done))) | refine Below.trans ?_ (Below.mono (by assumption) (by first | omega | (simp; omega) | (simp; done))))))))) | (go_at_call 30; refine Calls.grow_of (asked_is HE.out _ (HR.out.to (by (repeat (first | exact Below.refl _ _ | refine Below.setCell ?_ (by first | omega | (simp; omega) | (simp; done)) _ | refine Below.alloc ?_ (by first | omega | (simp; omega) | (simp; done)) _ | refine Below.drew ?_ | refine below_drewN ?_ _ | refine Below.trans ?_ (Below.mono (plus_below _ _) (by first | omega | (simp; omega) | (simp; done))) | refine Below.trans ?_ (Below.mono (by assumption) (by first | omega | (simp; omega) | (simp; done)))))))))))); refine wpQuiet_nil ?_; intro w1 hw1; have hb1 := below_of_plus hw1; clear hw1; obtain ⟨⟨hc1, hf1, hs1⟩, hz1⟩ := after hb1; (try simp only [World.size_alloc, World.size_setCell, World.size_drew] at hz1))
  have HB1 : Below w.heap.size w w1 := by (repeat (first | exact Below.refl _ _ | refine Below.setCell ?_ (by first | omega | (simp; omega) | (simp; done)) _ | refine Below.alloc ?_ (by first | omega | (simp; omega) | (simp; done)) _ | refine Below.drew ?_ | refine below_drewN ?_ _ | refine Below.trans ?_ (Below.mono (by assumption) (by first | omega | (simp; omega) | (simp; done)))))
  have a0 : w1.cell? ⟨w.heap.size, 0, none⟩ = some (vi rg) := cell_keep hb1 (by simp [go_sem])
  have a1 : w1.cell? ⟨w.heap.size, 1, none⟩ = some (.slice rA ri.length rcap) := cell_keep hb1 (by simp [go_sem])
  have c0 : w1.cell? ⟨w.heap.size + 1, 0, none⟩ = some (vi a) := cell_keep hb1 (by simp [go_sem])
  have c1 : w1.cell? ⟨w.heap.size + 1, 1, none⟩ = some (vi b) := cell_keep hb1 (by simp [go_sem])
  have za := cell_lt a0
  have zc := cell_lt c0
  clear hc1 hf1 hs1 hb1 hz1
  go_wp2_with fail
  refine (CT.out _ HB1).mono ?_
  rintro e W ⟨sA, sc, rfl, hsl, hb2⟩
  have HB2 : Below w.heap.size w W := HB1.trans (hb2.mono HB1.size)
  replace a0 := cell_keep hb2 a0
  replace a1 := cell_keep hb2 a1
  clear hb2 c0 c1 za zc HB1
  have HSL := Lib.hid hsl
  clear hsl
  go_wp2_with fail
  go_loopw [10, 11, 12, 14] (fun f dv sv i wr => ∃ k : Nat, k ≤ N ∧ i = .int .i64 k ∧ Below W.heap.size W wr ∧ ∃ acc : Option (Int × Int), f = .bool acc.isSome ∧ dv = vi ((acc.map Prod.fst).getD 0) ∧ sv = vi ((acc.map Prod.snd).getD 0) ∧ Hid (T k = acc)) (fun _ _ _ i _ => N - (intOf i).toNat)
  case atStart => exact ⟨0, Nat.zero_le _, rfl, Below.refl _ _, none, rfl, rfl, rfl, HT0.out⟩
  obtain ⟨k, hk, rfl, hB, acc, rfl, rfl, rfl, HT⟩ := hrel
  have HBr : Below w.heap.size w wr := HB2.trans (hB.mono HB2.size)
  by_cases hlt : k < N
  · have hkS : k < S.length := by omega
    obtain ⟨t, ht⟩ : ∃ t, S[k]? = some t := ⟨_, List.getElem?_eq_getElem hkS⟩
    obtain ⟨tb, tf, rfl, htb, t0⟩ := (HSL.out.to hB).at_ ht
    obtain ⟨nv, hnv⟩ : ∃ nv, AI t = nv := ⟨_, rfl⟩
    obtain ⟨bv, hbv⟩ : ∃ bv, AB t = bv := ⟨_, rfl⟩
    have hst := TS2.out k t nv bv ht hnv hbv
    rw [HT.out] at hst
    have ST := Lib.hid hst
    have NV := Lib.hid hnv
    have BV := Lib.hid hbv
    have hkI : (k : Int) < N := by omega
    have h0k : (0 : Int) ≤ k := by omega
    have a0r := cell_keep hB a0
    have a1r := cell_keep hB a1
    have za := cell_lt a0r
    have zt := cell_lt t0
    clear ht hnv hbv hst hkS HT
    rcases bv with _ | _
    · go_wp2_with fail
      (refine wp_region_grow_lit (by kernel_rfl) (by kernel_rfl) ?_; (repeat (go_big_quiet_step ((go_at_call 68; refine Calls.grow_of (CA2.out _ _ _ NV.out BV.out _ (HBr.trans (Below.mono (by (repeat (first | exact Below.refl _ _ | refine Below.setCell ?_ (by first | omega | (simp; omega) | (simp; done)) _ | refine Below.alloc ?_ (by first | omega | (simp; omega) | (simp; done)) _ | refine Below.drew ?_ | refine below_drewN ?_ _ | refine Below.trans ?_ (Below.mono (plus_below _ _) (by first | omega | (simp; omega) | (simp; done))) | refine Below.trans ?_ (Below.mono (by assumption) (by first | omega | (simp; omega) | (simp; done)))))) HBr.size))))))); refine wpQuiet_nil ?_; intro w1 hw1; have hb1 := below_of_plus hw1; clear hw1; obtain ⟨⟨hc1, hf1, hs1⟩, hz1⟩ := after hb1; (try simp only [World.size_alloc, World.size_setCell, World.size_drew] at hz1))
      have hbk : Below wr.heap.size wr w1 := by (repeat (first | exact Below.refl _ _ | refine Below.setCell ?_ (by first | omega | (simp; omega) | (simp; done)) _ | refine Below.alloc ?_ (by first | omega | (simp; omega) | (simp; done)) _ | refine Below.drew ?_ | refine below_drewN ?_ _ | refine Below.trans ?_ (Below.mono (by assumption) (by first | omega | (simp; omega) | (simp; done)))))
      clear hc1 hf1 hs1 hz1 hb1
      go_wp2_with fail
      go_roundw
      case rel => exact ⟨k + 1, by omega, by go_num, gr_trans hB hbk, acc, rfl, rfl, rfl, ST.out⟩
      case measure => simp [intOf]; omega
    · rcases acc with _ | ⟨pd, pn⟩
      · go_wp2_with fail
        (refine wp_region_grow_lit (by kernel_rfl) (by kernel_rfl) ?_; (repeat (go_big_quiet_step ((go_at_call 68; refine Calls.grow_of (CA2.out _ _ _ NV.out BV.out _ (HBr.trans (Below.mono (by (repeat (first | exact Below.refl _ _ | refine Below.setCell ?_ (by first | omega | (simp; omega) | (simp; done)) _ | refine Below.alloc ?_ (by first | omega | (simp; omega) | (simp; done)) _ | refine Below.drew ?_ | refine below_drewN ?_ _ | refine Below.trans ?_ (Below.mono (plus_below _ _) (by first | omega | (simp; omega) | (simp; done))) | refine Below.trans ?_ (Below.mono (by assumption) (by first | omega | (simp; omega) | (simp; done)))))) HBr.size))))))); refine wpQuiet_nil ?_; intro w1 hw1; have hb1 := below_of_plus hw1; clear hw1; obtain ⟨⟨hc1, hf1, hs1⟩, hz1⟩ := after hb1; (try simp only [World.size_alloc, World.size_setCell, World.size_drew] at hz1))
        have hbk : Below wr.heap.size wr w1 := by (repeat (first | exact Below.refl _ _ | refine Below.setCell ?_ (by first | omega | (simp; omega) | (simp; done)) _ | refine Below.alloc ?_ (by first | omega | (simp; omega) | (simp; done)) _ | refine Below.drew ?_ | refine below_drewN ?_ _ | refine Below.trans ?_ (Below.mono (by assumption) (by first | omega | (simp; omega) | (simp; done)))))
        have t0' := cell_keep hbk t0
        have zt' : tb < w1.heap.size := cell_lt t0'
        clear hc1 hf1 hs1 hz1 hb1 t0 zt
        go_wp2_with fail
        go_quiet (fail)
        go_wp2
        go_roundw
        case rel => exact ⟨k + 1, by omega, by go_num, gr_trans hB (gr_trans hbk (by (repeat (first | exact Below.refl _ _ | refine Below.setCell ?_ (by first | omega | (simp; omega) | (simp; done)) _ | refine Below.alloc ?_ (by first | omega | (simp; omega) | (simp; done)) _ | refine Below.drew ?_ | refine below_drewN ?_ _ | refine Below.trans ?_ (Below.mono (by assumption) (by first | omega | (simp; omega) | (simp; done))))))), some (t, nv), rfl, rfl, rfl, ST.out⟩
        case measure => simp [intOf]; omega
      · by_cases hlt2 : nv < pn
        · have hld : decide (nv < pn) = true := by simpa using hlt2
          have ST2 : Hid (T (k + 1) = some (t, nv)) := by unfold Hid; rw [ST.out]; simp [cheapS, hlt2]
          clear hlt2
          simp only [Option.isSome_some, Option.map_some, Option.getD_some]
          go_wp2_with fail
          (refine wp_region_grow_lit (by kernel_rfl) (by kernel_rfl) ?_; (repeat (go_big_quiet_step ((go_at_call 68; refine Calls.grow_of (CA2.out _ _ _ NV.out BV.out _ (HBr.trans (Below.mono (by (repeat (first | exact Below.refl _ _ | refine Below.setCell ?_ (by first | omega | (simp; omega) | (simp; done)) _ | refine Below.alloc ?_ (by first | omega | (simp; omega) | (simp; done)) _ | refine Below.drew ?_ | refine below_drewN ?_ _ | refine Below.trans ?_ (Below.mono (plus_below _ _) (by first | omega | (simp; omega) | (simp; done))) | refine Below.trans ?_ (Below.mono (by assumption) (by first | omega | (simp; omega) | (simp; done)))))) HBr.size))))))); refine wpQuiet_nil ?_; intro w1 hw1; have hb1 := below_of_plus hw1; clear hw1; obtain ⟨⟨hc1, hf1, hs1⟩, hz1⟩ := after hb1; (try simp only [World.size_alloc, World.size_setCell, World.size_drew] at hz1))
          have hbk : Below wr.heap.size wr w1 := by (repeat (first | exact Below.refl _ _ | refine Below.setCell ?_ (by first | omega | (simp; omega) | (simp; done)) _ | refine Below.alloc ?_ (by first | omega | (simp; omega) | (simp; done)) _ | refine Below.drew ?_ | refine below_drewN ?_ _ | refine Below.trans ?_ (Below.mono (by assumption) (by first | omega | (simp; omega) | (simp; done)))))
          have t0' := cell_keep hbk t0
          have zt' : tb < w1.heap.size := cell_lt t0'
          clear hc1 hf1 hs1 hz1 hb1 t0 zt
          go_wp2_with fail
          go_quiet (fail)
          go_wp2
          go_roundw
          case rel => exact ⟨k + 1, by omega, by go_num, gr_trans hB (gr_trans hbk (by (repeat (first | exact Below.refl _ _ | refine Below.setCell ?_ (by first | omega | (simp; omega) | (simp; done)) _ | refine Below.alloc ?_ (by first | omega | (simp; omega) | (simp; done)) _ | refine Below.drew ?_ | refine below_drewN ?_ _ | refine Below.trans ?_ (Below.mono (by assumption) (by first | omega | (simp; omega) | (simp; done))))))), some (t, nv), rfl, rfl, rfl, ST2.out⟩
          case measure => simp [intOf]; omega
        · have hld : decide (nv < pn) = false := by simpa using hlt2
          have ST2 : Hid (T (k + 1) = some (pd, pn)) := by unfold Hid; rw [ST.out]; simp [cheapS, hlt2]
          clear hlt2
          simp only [Option.isSome_some, Option.map_some, Option.getD_some]
          go_wp2_with fail
          (refine wp_region_grow_lit (by kernel_rfl) (by kernel_rfl) ?_; (repeat (go_big_quiet_step ((go_at_call 68; refine Calls.grow_of (CA2.out _ _ _ NV.out BV.out _ (HBr.trans (Below.mono (by (repeat (first | exact Below.refl _ _ | refine Below.setCell ?_ (by first | omega | (simp; omega) | (simp; done)) _ | refine Below.alloc ?_ (by first | omega | (simp; omega) | (simp; done)) _ | refine Below.drew ?_ | refine below_drewN ?_ _ | refine Below.trans ?_ (Below.mono (plus_below _ _) (by first | omega | (simp; omega) | (simp; done))) | refine Below.trans ?_ (Below.mono (by assumption) (by first | omega | (simp; omega) | (simp; done)))))) HBr.size))))))); refine wpQuiet_nil ?_; intro w1 hw1; have hb1 := below_of_plus hw1; clear hw1; obtain ⟨⟨hc1, hf1, hs1⟩, hz1⟩ := after hb1; (try simp only [World.size_alloc, World.size_setCell, World.size_drew] at hz1))
          have hbk : Below wr.heap.size wr w1 := by (repeat (first | exact Below.refl _ _ | refine Below.setCell ?_ (by first | omega | (simp; omega) | (simp; done)) _ | refine Below.alloc ?_ (by first | omega | (simp; omega) | (simp; done)) _ | refine Below.drew ?_ | refine below_drewN ?_ _ | refine Below.trans ?_ (Below.mono (by assumption) (by first | omega | (simp; omega) | (simp; done)))))
          clear hc1 hf1 hs1 hz1 hb1
          go_wp2_with fail
          go_roundw
          case rel => exact ⟨k + 1, by omega, by go_num, gr_trans hB hbk, some (pd, pn), rfl, rfl, rfl, ST2.out⟩
          case measure => simp [intOf]; omega
  · have hkN : k = N := by omega
    have hTe : T N = acc := by rw [← hkN]; exact HT.out
    have hnI : ¬ (k : Int) < N := by omega
    clear HT
    rcases acc with _ | ⟨pd, pn⟩
    · obtain ⟨rfl, rfl, rfl⟩ := RN.out hTe
      clear hTe
      go_wp2_with fail
      go_ret3
      exact ⟨rfl, HBr⟩
    · obtain ⟨rfl, rfl, rfl⟩ := RS.out _ _ hTe
      clear hTe
      go_wp2_with fail
      go_ret3
      exact ⟨rfl, HBr⟩
theorem rCheapest_any (r : Rack) (a b : Int) (ls : List Line) (A : Option Addr) (cap : Nat) (w : World) (h : RackAt w w.heap.size r) (hls : LinesAt w w.heap.size A cap ls) :
    Calls Tryz.prog 26 #[r.val, .agg #[vi a, vi b], .slice A ls.length cap] w fun e' w' => e' = .returned (.tuple #[vi (cheapD r a b ls), vi (cheapN r a b ls), vi (cheapErr r a b ls)]) ∧ Below w.heap.size w w' := by
  by_cases hv : validB r = true
  · by_cases ha : cheapAsk r a b ls = true
    · have hrs : cheapErr r a b ls = (if (cheapO r a b ls).isSome then 0 else 4) ∧ cheapD r a b ls = ((cheapO r a b ls).map Prod.fst).getD 0 ∧ cheapN r a b ls = ((cheapO r a b ls).map Prod.snd).getD 0 := by simp [cheapErr, cheapD, cheapN, hv, ha]
      rw [hrs.1, hrs.2.1, hrs.2.2]
      exact rCheapest_yes r a b ls hv ha A cap w h hls
    · have ha' : cheapAsk r a b ls = false := by simpa using ha
      have hrs : cheapErr r a b ls = 11 ∧ cheapD r a b ls = 0 ∧ cheapN r a b ls = 0 := by simp [cheapErr, cheapD, cheapN, hv, ha']
      rw [hrs.1, hrs.2.1, hrs.2.2]
      exact rCheapest_err r a b ls 11 (by rw [cheap_ref, if_pos hv, ha']; rfl) (.inr rfl) w h A cap hls
  · have hv' : validB r = false := by simpa using hv
    have hrs : cheapErr r a b ls = 10 ∧ cheapD r a b ls = 0 ∧ cheapN r a b ls = 0 := by simp [cheapErr, cheapD, cheapN, hv']
    rw [hrs.1, hrs.2.1, hrs.2.2]
    exact rCheapest_err r a b ls 10 (by rw [cheap_ref, hv']; rfl) (.inl rfl) w h A cap hls
end Go.Proofs.YtpcajmkmmkmekaaGreatDoor

