/- Contract of the specification's Prices. -/
import Derived.Test.YtpcajmkmmkmekaaGreatDoorXD12
import Derived.Test.YtpcajmkmmkmekaaGreatDoorXD6
set_option linter.unusedVariables false
set_option linter.unusedSimpArgs false
namespace Go.Proofs.YtpcajmkmmkmekaaGreatDoor
open Go Go.RowKit
set_option maxHeartbeats 4000000
theorem metN_succ {r : Rack} {it : Item} {l : List Int} {k : Nat} {t : Int} (h : l[k]? = some t) : metN r it (l.take (k + 1)) = metA (metN r it (l.take k)) (costN r.issues t it) := fold_succ h _ _
theorem metN_len (r : Rack) (it : Item) (l : List Int) : (metN r it l).length ≤ l.length := by
  have key : ∀ (l met : List Int), (l.foldl (fun met t => metA met (costN r.issues t it)) met).length ≤ met.length + l.length := by
    intro l
    induction l with
    | nil => intro met; simp
    | cons t l ih =>
      intro met
      rw [List.foldl_cons]
      have h1 := ih (metA met (costN r.issues t it))
      have h2 := metA_len met (costN r.issues t it)
      rw [List.length_cons]
      omega
  have := key l []
  simpa [metN] using this
theorem metA_yes {met : List Int} {n : Int} (h : 0 < n) (h2 : n ∉ met) : metA met n = met ++ [n] := by unfold metA; rw [if_pos ⟨h, h2⟩]
theorem metA_no {met : List Int} {n : Int} (h : ¬ (0 < n ∧ n ∉ met)) : metA met n = met := by unfold metA; rw [if_neg h]
theorem prices_ref (r : Rack) (a b : Int) (it : Item) : askedE r (limS 3 a b && rItemB r.goods it) = if validB r then if pricesAsk r a b it then 0 else 11 else 10 := by
  unfold askedE
  cases hv : validB r with
  | false => rfl
  | true => rw [rItem_is hv]; rfl
set_option maxRecDepth 100000 in
theorem rPrices_yes (r : Rack) (a b : Int) (it : Item) (hv : validB r = true) (ha : pricesAsk r a b it = true) (w : World) (h : RackAt w w.heap.size r) :
    Calls Tryz.prog 20 #[r.val, .agg #[vi a, vi b], it.val] w fun e w' => ∃ A cap, e = .returned (.tuple #[.slice A (pricesOn r a b it).length cap, vi 0]) ∧ IntsAt w' w'.heap.size A (pricesOn r a b it).length (pricesOn r a b it) ∧ Below w.heap.size w w' := by
  have he : askedE r true = 0 := by simp [askedE, hv]
  have HE := Lib.hid he
  have hok := rack_ok hv
  have OK := Lib.hid hok
  have HR := Lib.hid h
  rw [pricesAsk, Bool.and_eq_true] at ha
  have hcol := item_colour ha.2
  obtain ⟨d0, dab, d2⟩ := lim_days ha.1
  have Q1 := Lib.hid ha.1
  have Q2 : Hid (rItemB r.goods it = true) := by unfold Hid; rw [rItem_is hv]; exact ha.2
  have hcap := IssuesAt.cap h
  have hlen := IssuesAt.len h
  have hn2 := hok.n2
  obtain ⟨S, hS⟩ : ∃ S, S = sorted (turnN r.issues a b) := ⟨_, rfl⟩
  have hSN : S.length = (turnN r.issues a b).length := by rw [hS, sorted_len]
  have hS9 : S.length ≤ 9 := by have := turnN_len (a := a) (b := b) r.issues; omega
  obtain ⟨N, hN⟩ : ∃ N, N = (turnN r.issues a b).length := ⟨_, rfl⟩
  have CT : Hid (∀ W : World, Below w.heap.size w W → Calls Tryz.prog 62 #[r.val, .agg #[vi a, vi b]] W fun e w' => ∃ A c, e = .returned (.slice A N c) ∧ IntsAt w' w'.heap.size A N S ∧ Below W.heap.size W w') := by
    intro W hW
    rw [hN, hS]
    exact turns_any r a b hok d0 dab d2 W (h.to hW)
  have hpt := prices_turns hok dab it
  rw [← hS] at hpt
  have hpl : (pricesOn r a b it).length = (metN r it S).length := by rw [← hpt, sorted_len]
  rw [hpl, ← hpt]
  obtain ⟨n1, n2⟩ := metN_is r it S [] (by simp)
  have MD : Hid (metN r it S).Nodup := n1
  have MP : Hid (∀ n ∈ metN r it S, 0 ≤ n) := fun n hn => by
    rcases (n2 n).1 hn with h0 | ⟨t, _, _, h3⟩
    · cases h0
    · omega
  have hNS : S.length = N := by rw [hN]; exact hSN
  have ML : Hid (∀ k, (metN r it (S.take k)).length ≤ 9) := fun k => by have := metN_len r it (S.take k); rw [List.length_take] at this; omega
  clear he ha hv hok h hS hSN hN hpt hpl n1 n2
  obtain ⟨rg, rA, rcap, ri⟩ := r
  obtain ⟨ig, is, ic⟩ := it
  simp only at hcap hlen hcol hn2
  obtain ⟨R, hRd⟩ : ∃ R : Rack, R = ⟨rg, rA, rcap, ri⟩ := ⟨_, rfl⟩
  obtain ⟨I, hId⟩ : ∃ I : Item, I = ⟨ig, is, ic⟩ := ⟨_, rfl⟩
  rw [← hRd, ← hId] at MD MP ML ⊢
  have CI : Hid (∀ d c, costN R.issues d I = c → ∀ W : World, Below w.heap.size w W → Calls Tryz.prog 60 #[.agg #[vi rg, .slice rA ri.length rcap], vi d, .agg #[vi ig, vi is, vi ic]] W fun e w' => e = .returned (vi c) ∧ Below W.heap.size W w') := by
    intro d c hc W hW
    rw [hRd, hId] at hc
    exact cost_is' (r := ⟨rg, rA, rcap, ri⟩) (it := ⟨ig, is, ic⟩) hc OK.out hcol.1 hcol.2 W (HR.out.to hW)
  obtain ⟨i0, hi, hy0, hy1, hy2⟩ := info_parts info_int
  have hRv : R.val = .agg #[vi rg, .slice rA ri.length rcap] := by rw [hRd]
  have hIv : I.val = .agg #[vi ig, vi is, vi ic] := by rw [hId]
  rw [hRv, hIv]
  clear hRd hId hRv hIv
  go_enter Tryz.func20, Tryz.ntmps20
  go_wp2_with fail
  (refine wp_region_grow_lit (by kernel_rfl) (by kernel_rfl) ?_; (repeat (go_big_quiet_step (first | (go_at_call 31; refine Calls.grow_of (risDays_is Q1.out _)) | (go_at_call 59; refine Calls.grow_of (risItem_is (r := ⟨rg, rA, rcap, ri⟩) (it := ⟨ig, is, ic⟩) Q2.out _)) | (go_at_call 30; refine Calls.grow_of (asked_is HE.out _ (HR.out.to (by (repeat (first | exact Below.refl _ _ | refine Below.setCell ?_ (by first | omega | (simp; omega) | (simp; done)) _ | refine Below.alloc ?_ (by first | omega | (simp; omega) | (simp; done)) _ | refine Below.drew ?_ | refine below_drewN ?_ _ | refine Below.trans ?_ (Below.mono (plus_below _ _) (by first | omega | (simp; omega) | (simp; done))) | refine Below.trans ?_ (Below.mono (by assumption) (by first | omega | (simp; omega) | (simp; done)))))))))))); refine wpQuiet_nil ?_; intro w1 hw1; have hb1 := below_of_plus hw1; clear hw1; obtain ⟨⟨hc1, hf1, hs1⟩, hz1⟩ := after hb1; (try simp only [World.size_alloc, World.size_setCell, World.size_drew] at hz1))
  have HB1 : Below w.heap.size w w1 := by (repeat (first | exact Below.refl _ _ | refine Below.setCell ?_ (by first | omega | (simp; omega) | (simp; done)) _ | refine Below.alloc ?_ (by first | omega | (simp; omega) | (simp; done)) _ | refine Below.drew ?_ | refine below_drewN ?_ _ | refine Below.trans ?_ (Below.mono (by assumption) (by first | omega | (simp; omega) | (simp; done)))))
  have a0 : w1.cell? ⟨w.heap.size, 0, none⟩ = some (vi rg) := cell_keep hb1 (by simp [go_sem])
  have a1 : w1.cell? ⟨w.heap.size, 1, none⟩ = some (.slice rA ri.length rcap) := cell_keep hb1 (by simp [go_sem])
  have c0 : w1.cell? ⟨w.heap.size + 1, 0, none⟩ = some (vi a) := cell_keep hb1 (by simp [go_sem])
  have c1 : w1.cell? ⟨w.heap.size + 1, 1, none⟩ = some (vi b) := cell_keep hb1 (by simp [go_sem])
  have b0 : w1.cell? ⟨w.heap.size + 1 + 1, 0, none⟩ = some (vi ig) := cell_keep hb1 (by simp [go_sem])
  have b1 : w1.cell? ⟨w.heap.size + 1 + 1, 1, none⟩ = some (vi is) := cell_keep hb1 (by simp [go_sem])
  have b2 : w1.cell? ⟨w.heap.size + 1 + 1, 2, none⟩ = some (vi ic) := cell_keep hb1 (by simp [go_sem])
  have za := cell_lt a0
  have zb := cell_lt b0
  have zc := cell_lt c0
  clear hc1 hf1 hs1 hb1 hz1
  go_wp2_with fail
  refine (CT.out _ HB1).mono ?_
  rintro e W ⟨sA, sc, rfl, hsl, hb2⟩
  have HB2 : Below w.heap.size w W := HB1.trans (hb2.mono HB1.size)
  replace a0 := cell_keep hb2 a0
  replace a1 := cell_keep hb2 a1
  replace b0 := cell_keep hb2 b0
  replace b1 := cell_keep hb2 b1
  replace b2 := cell_keep hb2 b2
  clear hb2 c0 c1 za zb zc HB1
  have HSL := Lib.hid hsl
  clear hsl
  go_wp2_with fail
  go_loopw [9, 11] (fun u i wr => ∃ k : Nat, k ≤ N ∧ i = .int .i64 k ∧ Below W.heap.size W wr ∧ wr.ownsRow W.heap.size 3 1 u (metN R I (S.take k)).length ((metN R I (S.take k)).map vi)) (fun _ i _ => N - (intOf i).toNat)
  case atStart => exact ⟨0, Nat.zero_le _, rfl, Below.refl _ _, by simpa [metN] using World.ownsRow_nil _ _ _ _⟩
  obtain ⟨k, hk, rfl, hB, hown⟩ := hrel
  have hbs := hB.size
  have HBr : Below w.heap.size w wr := HB2.trans (hB.mono HB2.size)
  obtain ⟨M, hM⟩ : ∃ M, M = metN R I (S.take k) := ⟨_, rfl⟩
  have hM9 : M.length ≤ 9 := by rw [hM]; exact ML.out k
  rw [← hM] at hown
  obtain ⟨A2, c2, rfl, hi2⟩ := own_ints hown rfl (by omega)
  by_cases hlt : k < N
  · have hkS : k < S.length := by omega
    obtain ⟨t, ht⟩ : ∃ t, S[k]? = some t := ⟨_, List.getElem?_eq_getElem hkS⟩
    obtain ⟨tb, tf, rfl, htb, t0⟩ := (HSL.out.to hB).at_ ht
    obtain ⟨c, hc⟩ : ∃ c, costN R.issues t I = c := ⟨_, rfl⟩
    have HC := Lib.hid hc
    have hST : metN R I (S.take (k + 1)) = metA M c := by rw [metN_succ ht, hM, hc]
    have ST := Lib.hid hST
    have hkI : (k : Int) < N := by omega
    have h0k : (0 : Int) ≤ k := by omega
    have a0r := cell_keep hB a0
    have a1r := cell_keep hB a1
    have b0r := cell_keep hB b0
    have b1r := cell_keep hB b1
    have b2r := cell_keep hB b2
    have za := cell_lt a0r
    have zb := cell_lt b0r
    have zt := cell_lt t0
    have PL : Hid (∀ n v, placeF M n = v → ∀ W' : World, Below wr.heap.size wr W' → Calls Tryz.prog 39 #[.slice A2 M.length c2, vi n] W' fun e w' => e = .returned (vi v) ∧ W' = w') := fun n v hv W' hW' => place_at hv rfl A2 c2 W' (hi2.to hW')
    have SAME : Hid (metA M c = M → ∀ w' : World, Below wr.heap.size wr w' → ∃ k2 : Nat, k2 ≤ N ∧ Value.int .i64 ((k : Int) + 1) = .int .i64 k2 ∧ Below W.heap.size W w' ∧ w'.ownsRow W.heap.size 3 1 (.slice A2 M.length c2) (metN R I (S.take k2)).length ((metN R I (S.take k2)).map vi)) :=
      fun hs w' hw' => ⟨k + 1, by omega, by simp, gr_trans hB hw', by rw [ST.out, hs]; exact own_keep hown hw'⟩
    clear ht hc hST hM hi2 hkS
    by_cases hc0 : 0 < c
    · have hcd : decide (0 < c) = true := by simpa using hc0
      by_cases hmem : c ∈ M
      · obtain ⟨p, hp⟩ : ∃ p, placeF M c = p := ⟨_, rfl⟩
        have hp0 := (place_in M c).1 hmem
        rw [hp] at hp0
        have HP := Lib.hid hp
        have hpd : decide (p < 0) = false := by simp; omega
        have HS : Hid (metA M c = M) := metA_no fun h => h.2 hmem
        clear hp hmem hc0
        go_wp2_with fail
        (refine wp_region_grow_lit (by kernel_rfl) (by kernel_rfl) ?_; (repeat (go_big_quiet_step ((go_at_call 60; refine Calls.grow_of (CI.out _ _ HC.out _ (HBr.trans (Below.mono (by (repeat (first | exact Below.refl _ _ | refine Below.setCell ?_ (by first | omega | (simp; omega) | (simp; done)) _ | refine Below.alloc ?_ (by first | omega | (simp; omega) | (simp; done)) _ | refine Below.drew ?_ | refine below_drewN ?_ _ | refine Below.trans ?_ (Below.mono (plus_below _ _) (by first | omega | (simp; omega) | (simp; done))) | refine Below.trans ?_ (Below.mono (by assumption) (by first | omega | (simp; omega) | (simp; done)))))) HBr.size))))))); refine wpQuiet_nil ?_; intro w1 hw1; have hb1 := below_of_plus hw1; clear hw1; obtain ⟨⟨hc1, hf1, hs1⟩, hz1⟩ := after hb1; (try simp only [World.size_alloc, World.size_setCell, World.size_drew] at hz1))
        have hbk : Below wr.heap.size wr w1 := by (repeat (first | exact Below.refl _ _ | refine Below.setCell ?_ (by first | omega | (simp; omega) | (simp; done)) _ | refine Below.alloc ?_ (by first | omega | (simp; omega) | (simp; done)) _ | refine Below.drew ?_ | refine below_drewN ?_ _ | refine Below.trans ?_ (Below.mono (by assumption) (by first | omega | (simp; omega) | (simp; done)))))
        clear hc1 hf1 hs1 hz1 hb1
        go_wp2_with (go_at_call 39; refine (PL.out _ _ HP.out _ hbk).mono ?_; rintro e w1 ⟨rfl, rfl⟩)
        go_roundw
        case rel =>
          obtain ⟨k2, g1, g2, g3⟩ := SAME.out HS.out w1 hbk
          exact ⟨k2, g1, by rw [← g2], g3⟩
        case measure => simp [intOf]; omega
      · have HP := Lib.hid (place_lt hmem)
        have HS : Hid (metA M c = M ++ [c]) := metA_yes hc0 hmem
        clear hmem hc0
        go_wp2_with fail
        (refine wp_region_grow_lit (by kernel_rfl) (by kernel_rfl) ?_; (repeat (go_big_quiet_step ((go_at_call 60; refine Calls.grow_of (CI.out _ _ HC.out _ (HBr.trans (Below.mono (by (repeat (first | exact Below.refl _ _ | refine Below.setCell ?_ (by first | omega | (simp; omega) | (simp; done)) _ | refine Below.alloc ?_ (by first | omega | (simp; omega) | (simp; done)) _ | refine Below.drew ?_ | refine below_drewN ?_ _ | refine Below.trans ?_ (Below.mono (plus_below _ _) (by first | omega | (simp; omega) | (simp; done))) | refine Below.trans ?_ (Below.mono (by assumption) (by first | omega | (simp; omega) | (simp; done)))))) HBr.size))))))); refine wpQuiet_nil ?_; intro w1 hw1; have hb1 := below_of_plus hw1; clear hw1; obtain ⟨⟨hc1, hf1, hs1⟩, hz1⟩ := after hb1; (try simp only [World.size_alloc, World.size_setCell, World.size_drew] at hz1))
        have hbk : Below wr.heap.size wr w1 := by (repeat (first | exact Below.refl _ _ | refine Below.setCell ?_ (by first | omega | (simp; omega) | (simp; done)) _ | refine Below.alloc ?_ (by first | omega | (simp; omega) | (simp; done)) _ | refine Below.drew ?_ | refine below_drewN ?_ _ | refine Below.trans ?_ (Below.mono (by assumption) (by first | omega | (simp; omega) | (simp; done)))))
        have hown2 := own_keep hown hbk
        have hs2 := hbk.size
        clear hc1 hf1 hs1 hz1 hb1
        obtain ⟨W3, rfl⟩ : ∃ W3 : World, W3 = w1 := ⟨_, rfl⟩
        go_wp2_with (first | (go_at_call 39; refine (PL.out _ _ HP.out _ hbk).mono ?_; rintro e w1 ⟨rfl, rfl⟩) | (at_builtin; go_loud (refine wpList_append_own _ rfl _ _ 36 rfl W.heap.size 3 i0 (.int .i64 0) 1 8 Tryz.underlying36 hi hy0 hy1 hy2 rfl (by decide) _ _ _ rfl (hown2.alloc _) ⟨W3.heap.size, 0, none⟩ 1 1 [vi c] rfl rfl (cell_one_new _ _ _) (by simp [Value.oneCell']) (by unfold maxLen; omega) (by omega) (by simp; omega) ?_; intro v5 w5 hown5 hgrow5 _)))
        have HB5 : Below W.heap.size W w5 := Below.grown ((gr_trans hB hbk).alloc (by omega) _) hgrow5 (by simp; omega) (fun j e => (hown2.lt j e).1)
        obtain ⟨A5, c5, rfl, -, -⟩ := own_form hown5
        go_roundw
        case rel =>
          refine ⟨k + 1, by omega, by go_num, HB5, ?_⟩
          rw [ST.out, HS.out]
          simpa using hown5
        case measure => simp [intOf]; omega
    · have hcd : decide (0 < c) = false := by simpa using hc0
      have HS : Hid (metA M c = M) := metA_no fun h => hc0 h.1
      clear hc0
      go_wp2_with fail
      (refine wp_region_grow_lit (by kernel_rfl) (by kernel_rfl) ?_; (repeat (go_big_quiet_step ((go_at_call 60; refine Calls.grow_of (CI.out _ _ HC.out _ (HBr.trans (Below.mono (by (repeat (first | exact Below.refl _ _ | refine Below.setCell ?_ (by first | omega | (simp; omega) | (simp; done)) _ | refine Below.alloc ?_ (by first | omega | (simp; omega) | (simp; done)) _ | refine Below.drew ?_ | refine below_drewN ?_ _ | refine Below.trans ?_ (Below.mono (plus_below _ _) (by first | omega | (simp; omega) | (simp; done))) | refine Below.trans ?_ (Below.mono (by assumption) (by first | omega | (simp; omega) | (simp; done)))))) HBr.size))))))); refine wpQuiet_nil ?_; intro w1 hw1; have hb1 := below_of_plus hw1; clear hw1; obtain ⟨⟨hc1, hf1, hs1⟩, hz1⟩ := after hb1; (try simp only [World.size_alloc, World.size_setCell, World.size_drew] at hz1))
      have hbk : Below wr.heap.size wr w1 := by (repeat (first | exact Below.refl _ _ | refine Below.setCell ?_ (by first | omega | (simp; omega) | (simp; done)) _ | refine Below.alloc ?_ (by first | omega | (simp; omega) | (simp; done)) _ | refine Below.drew ?_ | refine below_drewN ?_ _ | refine Below.trans ?_ (Below.mono (by assumption) (by first | omega | (simp; omega) | (simp; done)))))
      clear hc1 hf1 hs1 hz1 hb1
      go_wp2_with fail
      go_roundw
      case rel =>
        obtain ⟨k2, g1, g2, g3⟩ := SAME.out HS.out w1 hbk
        exact ⟨k2, g1, by rw [← g2], g3⟩
      case measure => simp [intOf]; omega
  · have hkN : k = N := by omega
    have hMe : metN R I S = M := by rw [hM, hkN, ← hNS, List.take_length]
    have hnI : ¬ (k : Int) < N := by omega
    clear hM
    subst hMe
    go_wp2_with fail
    refine (sorted_run A2 c2 (metN R I S) _ hi2 MP.out MD.out (by omega)).mono ?_
    rintro e w5 ⟨A5, c5, rfl, h5, hb5⟩
    go_wp2_with fail
    go_ret2
    exact ⟨A5, c5, rfl, h5, HBr.trans (hb5.mono HBr.size)⟩
theorem rPrices_any (r : Rack) (a b : Int) (it : Item) (w : World) (h : RackAt w w.heap.size r) :
    Calls Tryz.prog 20 #[r.val, .agg #[vi a, vi b], it.val] w fun e w' => ∃ A cap, e = .returned (.tuple #[.slice A (pricesL r a b it).length cap, vi (pricesErr r a b it)]) ∧ IntsAt w' w'.heap.size A (pricesL r a b it).length (pricesL r a b it) ∧ Below w.heap.size w w' := by
  have nil : ∀ w' : World, IntsAt w' w'.heap.size none 0 [] := fun w' => ⟨Nat.le_refl _, by omega, fun hl => absurd hl (by simp)⟩
  by_cases hv : validB r = true
  · by_cases ha : pricesAsk r a b it = true
    · have hrs : pricesErr r a b it = 0 ∧ pricesL r a b it = pricesOn r a b it := by simp [pricesErr, pricesL, hv, ha]
      rw [hrs.1, hrs.2]
      exact rPrices_yes r a b it hv ha w h
    · have ha' : pricesAsk r a b it = false := by simpa using ha
      have hrs : pricesErr r a b it = 11 ∧ pricesL r a b it = [] := by simp [pricesErr, pricesL, hv, ha']
      rw [hrs.1, hrs.2]
      refine (rPrices_err r a b it 11 (by rw [prices_ref, if_pos hv, ha']; rfl) (.inr rfl) w h).mono ?_
      rintro e w' ⟨rfl, hb⟩
      exact ⟨none, 0, rfl, nil w', hb⟩
  · have hv' : validB r = false := by simpa using hv
    have hrs : pricesErr r a b it = 10 ∧ pricesL r a b it = [] := by simp [pricesErr, pricesL, hv']
    rw [hrs.1, hrs.2]
    refine (rPrices_err r a b it 10 (by rw [prices_ref, hv']; rfl) (.inl rfl) w h).mono ?_
    rintro e w' ⟨rfl, hb⟩
    exact ⟨none, 0, rfl, nil w', hb⟩
end Go.Proofs.YtpcajmkmmkmekaaGreatDoor

