/- Contract of BookAdded: it answers true. -/
import Derived.Test.YtpcajmkmmkmekaaDoorXK16
import Derived.Test.YtpcajmkmmkmekaaDoorXB14
import Derived.Test.YtpcajmkmmkmekaaDoorXUp2
set_option linter.unusedVariables false
set_option linter.unusedSimpArgs false
namespace Go.Proofs.YtpcajmkmmkmekaaDoor
open Go Go.RowKit
set_option maxHeartbeats 8000000
theorem lines_one {w : World} {B cap b o : Nat} {l : Line} (hb : b < B) (h1 : 1 ≤ cap) (h2 : cap ≤ 9223372036854775807)
    (c0 : w.cell? ⟨b, o, none⟩ = some (vi l.item.good)) (c1 : w.cell? ⟨b, o + 1, none⟩ = some (vi l.item.size)) (c2 : w.cell? ⟨b, o + 2, none⟩ = some (vi l.item.colour)) (c3 : w.cell? ⟨b, o + 3, none⟩ = some (vi l.many)) :
    LinesAt w B (some ⟨b, o, none⟩) cap [l] := by
  refine ⟨h1, h2, fun _ => ⟨b, o, rfl, hb, fun i r hr j u hj hu => ?_⟩⟩
  rcases i with _ | i
  · simp only [List.map_cons, List.map_nil, List.getElem?_cons_zero, Option.some.injEq] at hr
    subst hr
    rcases j with _ | _ | _ | _ | j
    · simp [Line.cells] at hu; subst hu; simpa using c0
    · simp [Line.cells] at hu; subst hu; simpa using c1
    · simp [Line.cells] at hu; subst hu; simpa using c2
    · simp [Line.cells] at hu; subst hu; simpa using c3
    · omega
  · simp at hr
set_option maxRecDepth 100000 in
theorem added_no (r : Rack) (A : Option Addr) (cap : Nat) (bits : List Int) (n0 : Int) (w : World) (hl : Lim w) (hr : RackAt w w.heap.size r) (hv : validB r = false) :
    Calls Tryd.prog 10 #[r.val, .slice A bits.length cap, vi n0] w fun e w' => e = .returned (.bool true) ∧ Below w.heap.size w w' := by
  go_enter Tryd.func10, Tryd.ntmps10
  go_wp2_with (first | (go_at_call 20; refine (sound_no r _ (by repeat (first | assumption | refine Lim.alloc ?_ _ | refine Lim.setCell ?_ (by first | (simp; done) | (simp; omega) | omega) _ | refine Lim.drew ?_)) (hr.to (by (repeat (first | exact Below.refl _ _ | refine Below.setCell ?_ (by first | omega | (simp; omega) | (simp; done)) _ | refine Below.alloc ?_ (by first | omega | (simp; omega) | (simp; done)) _ | refine Below.drew ?_ | refine below_drewN ?_ _ | refine Below.trans ?_ (Below.mono (by assumption) (by first | omega | (simp; omega) | (simp; done))))))) hv).mono ?_; rintro e w1 ⟨rfl, hb1⟩; obtain ⟨⟨hc1, hf1, hs1⟩, hz1⟩ := after hb1; (try simp only [World.size_alloc, World.size_setCell, World.size_drew] at hz1); have hl1 : Lim w1 := Lim.next (by repeat (first | assumption | refine Lim.alloc ?_ _ | refine Lim.setCell ?_ (by first | (simp; done) | (simp; omega) | omega) _ | refine Lim.drew ?_)) hb1) | (go_at_call 19; refine (works_any _ (by repeat (first | assumption | refine Lim.alloc ?_ _ | refine Lim.setCell ?_ (by first | (simp; done) | (simp; omega) | omega) _ | refine Lim.drew ?_))).mono ?_; rintro e w1 ⟨rfl, hb1⟩; obtain ⟨⟨hc1, hf1, hs1⟩, hz1⟩ := after hb1; (try simp only [World.size_alloc, World.size_setCell, World.size_drew] at hz1); have hl1 : Lim w1 := Lim.next (by repeat (first | assumption | refine Lim.alloc ?_ _ | refine Lim.setCell ?_ (by first | (simp; done) | (simp; omega) | omega) _ | refine Lim.drew ?_)) hb1))
  go_ret
  refine ⟨rfl, ?_⟩
  (repeat (first | exact Below.refl _ _ | refine Below.setCell ?_ (by first | omega | (simp; omega) | (simp; done)) _ | refine Below.alloc ?_ (by first | omega | (simp; omega) | (simp; done)) _ | refine Below.drew ?_ | refine below_drewN ?_ _ | refine Below.trans ?_ (Below.mono (by assumption) (by first | omega | (simp; omega) | (simp; done)))))
set_option maxRecDepth 100000 in
theorem added_yes (r : Rack) (A : Option Addr) (cap : Nat) (bits : List Int) (n0 : Int) (w : World) (hl : Lim w) (hr : RackAt w w.heap.size r) (hv : validB r = true) (hbits : IntsAt w w.heap.size A cap bits)
    (hrange : ∀ b ∈ bits, -9223372036854775808 ≤ b ∧ b ≤ 9223372036854775807) (f0 : -9223372036854775808 ≤ n0) (f1 : n0 ≤ 9223372036854775807) :
    Calls Tryd.prog 10 #[r.val, .slice A bits.length cap, vi n0] w fun e w' => e = .returned (.bool true) ∧ Below w.heap.size w w' := by
  have hok := rack_ok hv
  obtain ⟨s0, s1⟩ := spin_range n0 800 (by omega)
  obtain ⟨dd, hdd⟩ : ∃ dd, dd = spinI n0 800 := ⟨_, rfl⟩
  have l0 : 0 ≤ dd := by omega
  have l1 : dd ≤ 20000 := by omega
  have hlg := lines_good hok bits
  have hmany : ∀ l ∈ linesF r bits, itemB r l.item = true ∧ 1 ≤ l.many ∧ l.many ≤ 40 := by
    intro l hm
    obtain ⟨k, _, rfl⟩ := List.mem_map.1 hm
    have := spin_range (bitAt bits (5 * k + 4)) 40 (by omega)
    refine ⟨someT_ok hok _ _ _ _, ?_⟩
    simp only [lineAt]
    omega
  have hlen : (linesF r bits).length ≤ 20 := by simp only [linesF, List.length_map, List.length_range, linesN]; omega
  have LA := Lib.hid (fun (W : World) g b => lines_any r A cap bits W g hok b hrange)
  obtain ⟨ls, hls⟩ : ∃ ls, ls = linesF r bits := ⟨_, rfl⟩
  rw [← hls] at hlg LA hmany hlen
  have hm1000 : ∀ l ∈ ls, 1 ≤ l.many ∧ l.many ≤ 1000 := fun l hl => by have := hmany l hl; omega
  obtain ⟨AI, hAI⟩ : ∃ AI : Nat → Int, AI = addI r dd ls := ⟨_, rfl⟩
  obtain ⟨AB, hAB⟩ : ∃ AB : Nat → Bool, AB = addB r dd ls := ⟨_, rfl⟩
  have hz0 : AI 0 = 0 := by rw [hAI]; rfl
  have hz1 : AB 0 = true := by rw [hAB]; rfl
  have hrg : ∀ k : Nat, k ≤ 20 → 0 ≤ AI k ∧ AI k ≤ 2000000000 := fun k hk => by
    have := add_range hok (d := dd) hm1000 k
    rw [hAI]
    omega
  have hsum := sum_ask hv l0 l1 hlg
  have hsi := sumO_is hok (d := dd) hm1000 hlen
  rw [← hAI, ← hAB] at hsi
  have key : ∀ (c : Nat) (x : Line), ls[c]? = some x → ∃ (fe p one mo : Int) (s : Bool), (AI (c + 1) = AI c + one ∧ AB (c + 1) = (AB c && s)) ∧ ((fe = 0 ∧ s = true ∧ 1 ≤ p ∧ p ≤ 100000) ∨ (fe = 4 ∧ s = false ∧ p = 0 ∧ one = 0)) ∧ (0 ≤ one ∧ one ≤ 100000000) ∧ one = p * paidI x.many ∧
      mo = (if (x.many + 1).tmod 12 = 0 then one else one + p) ∧ (sumErr r dd [x] = fe ∧ sumV r dd [x] = one) ∧ (sumErr r dd [⟨x.item, x.many + 1⟩] = fe ∧ sumV r dd [⟨x.item, x.many + 1⟩] = mo) ∧ (priceErr r dd x.item = fe ∧ priceV r dd x.item = p) := by
    intro c x hx
    obtain ⟨h1, h2, h3⟩ := hmany x (List.mem_of_getElem? hx)
    have hla := line_ask hv hok l0 l1 h1 h2 h3
    have hpa := price_ask hv l0 l1 h1
    have hst := add_step (r := r) (d := dd) hx
    rw [← hAI, ← hAB] at hst
    have hcr := cost_range hok (d := dd) h2 (by omega)
    refine ⟨_, (priceO r dd x.item).getD 0, costI r dd x, _, (priceO r dd x.item).isSome, hst, ?_, hcr, rfl, rfl, hla.1, hla.2, hpa⟩
    cases hp : priceO r dd x.item with
    | none => right; simp [costI, hp]
    | some p =>
      have := price_pos hok hp
      left; simp; omega
  have KEY := Lib.hid key
  have HSUM : Hid (sumErr r dd ls = (if AB ls.length then 0 else 4) ∧ sumV r dd ls = (if AB ls.length then AI ls.length else 0)) := by
    unfold Hid
    rw [hsum.1, hsum.2, hsi]
    cases AB ls.length <;> simp
  have HRG := Lib.hid hrg
  have HMN := Lib.hid hmany
  have HZ0 := Lib.hid hz0
  have HZ1 := Lib.hid hz1
  have HDD := Lib.hid hdd.symm
  clear hok hdd hls hlg hmany hm1000 hAI hAB hz0 hz1 hrg hsum hsi key hrange
  obtain ⟨rg, rA, rcap, ri⟩ := r
  have hri : IssuesAt w w.heap.size rA rcap ri := hr
  show Calls Tryd.prog 10 #[.agg #[vi rg, .slice rA ri.length rcap], .slice A bits.length cap, vi n0] w _
  go_enter Tryd.func10, Tryd.ntmps10
  go_wp2_with fail
  refine (sound_yes ⟨rg, rA, rcap, ri⟩ _ (by repeat (first | assumption | refine Lim.alloc ?_ _ | refine Lim.setCell ?_ (by first | (simp; done) | (simp; omega) | omega) _ | refine Lim.drew ?_)) (hr.to (by (repeat (first | exact Below.refl _ _ | refine Below.setCell ?_ (by first | omega | (simp; omega) | (simp; done)) _ | refine Below.alloc ?_ (by first | omega | (simp; omega) | (simp; done)) _ | refine Below.drew ?_ | refine below_drewN ?_ _ | refine Below.trans ?_ (Below.mono (by assumption) (by first | omega | (simp; omega) | (simp; done))))))) hv).mono ?_
  rintro e W ⟨rfl, hb⟩
  have HB0 : Below w.heap.size w W := by (repeat (first | exact Below.refl _ _ | refine Below.setCell ?_ (by first | omega | (simp; omega) | (simp; done)) _ | refine Below.alloc ?_ (by first | omega | (simp; omega) | (simp; done)) _ | refine Below.drew ?_ | refine below_drewN ?_ _ | refine Below.trans ?_ (Below.mono (by assumption) (by first | omega | (simp; omega) | (simp; done)))))
  have c0 : W.cell? ⟨w.heap.size, 0, none⟩ = some (vi rg) := cell_keep hb (by simp [go_sem])
  have c1 : W.cell? ⟨w.heap.size, 1, none⟩ = some (.slice rA ri.length rcap) := cell_keep hb (by simp [go_sem])
  clear hb
  go_wp2_with fail
  refine (LA.out _ (hr.to HB0) (hbits.to HB0)).mono ?_
  rintro e W1 ⟨lA, lc, rfl, n1, n2, n3, hb1⟩
  have HB1 : Below w.heap.size w W1 := HB0.trans (hb1.mono HB0.size)
  have hla : LinesAt W1 W1.heap.size lA lc ls := ⟨n1, n2, n3⟩
  have c01 := cell_keep hb1 c0
  have c11 := cell_keep hb1 c1
  clear hb1 c0 c1 n3 LA
  go_wp2_with fail
  refine (spin_is HDD.out _ (by omega) (by omega) (by omega)).mono ?_
  rintro e w9 ⟨rfl, rfl⟩
  go_wp2_with fail
  refine (Sum_any ⟨rg, rA, rcap, ri⟩ dd lA lc ls _ (hl.next HB1) (hr.to HB1) hla).mono ?_
  rintro e W2 ⟨rfl, hb2⟩
  rw [HSUM.out.1, HSUM.out.2]
  have HB2 : Below w.heap.size w W2 := HB1.trans (hb2.mono HB1.size)
  have hla2 := hla.to hb2
  have c02 := cell_keep hb2 c01
  have c12 := cell_keep hb2 c11
  clear hb2 c01 c11 hla HSUM
  obtain ⟨ae, hae⟩ : ∃ ae : Int, ae = (if AB ls.length then 0 else 4) := ⟨_, rfl⟩
  obtain ⟨av, hav⟩ : ∃ av : Int, av = (if AB ls.length then AI ls.length else 0) := ⟨_, rfl⟩
  rw [← hae, ← hav]
  have HAE := Lib.hid hae
  have HAV := Lib.hid hav
  clear hae hav
  go_wp2_with fail
  go_loopw [11, 12, 13] (fun sv bv i wr => ∃ c : Nat, c ≤ ls.length ∧ i = .int .i64 c ∧ sv = vi (AI c) ∧ bv = .bool (AB c) ∧ Below W2.heap.size W2 wr) (fun _ _ i _ => ls.length - (intOf i).toNat)
  case atStart => exact ⟨0, Nat.zero_le _, rfl, by rw [HZ0.out], by rw [HZ1.out], Below.refl _ _⟩
  obtain ⟨c, hc, rfl, rfl, rfl, hB⟩ := hrel
  have HBr : Below w.heap.size w wr := HB2.trans (hB.mono HB2.size)
  have c0r := cell_keep hB c02
  have c1r := cell_keep hB c12
  have zr : w.heap.size < wr.heap.size := cell_lt c0r
  by_cases hlt : c < ls.length
  · obtain ⟨x, hx⟩ : ∃ x, ls[c]? = some x := ⟨_, List.getElem?_eq_getElem hlt⟩
    obtain ⟨fe, p, one, mo, s, hst, hcase, hone, hpaid, hmo, e1, e2, e3⟩ := KEY.out c x hx
    obtain ⟨-, m1, m40⟩ := HMN.out x (List.mem_of_getElem? hx)
    obtain ⟨⟨ig, is, ic⟩, many⟩ := x
    obtain ⟨bb, off, rfl, hbb, x0, x1, x2, x3⟩ := row4 (hla2.to hB).row hx rfl
    have HST := Lib.hid hst
    have HCASE := Lib.hid hcase
    have HMO := Lib.hid hmo
    have HPAID := Lib.hid hpaid
    simp only at m1 m40 HST HCASE HMO HPAID
    have hbb2 : bb < wr.heap.size := cell_lt x0
    have hcI : (c : Int) < ls.length := by omega
    have hc0 : (0 : Int) ≤ c := by omega
    have hlc : (ls.length : Int) ≤ lc := by have := hla2.len; omega
    have hlc2 : lc ≤ 9223372036854775807 := hla2.cap
    have hcc : (c : Int) ≤ 20 := by omega
    have L1 : LinesAt wr wr.heap.size (some ⟨bb, off + c * 4, none⟩) (lc - c) [⟨⟨ig, is, ic⟩, many⟩] := lines_one hbb2 (by omega) (by omega) x0 x1 x2 x3
    have HS1 : Hid (∀ (W' : World), Below w.heap.size w W' → LinesAt W' W'.heap.size (some ⟨bb, off + c * 4, none⟩) (lc - c) [⟨⟨ig, is, ic⟩, many⟩] → Calls Tryd.prog 37 #[.agg #[vi rg, .slice rA ri.length rcap], vi dd, .slice (some ⟨bb, off + c * 4, none⟩) 1 (lc - c)] W' fun e w' => e = .returned (.tuple #[vi one, vi fe]) ∧ Below W'.heap.size W' w') := fun W' h g => by
      have := Sum_any ⟨rg, rA, rcap, ri⟩ dd (some ⟨bb, off + c * 4, none⟩) (lc - c) [⟨⟨ig, is, ic⟩, many⟩] W' (hl.next h) (hr.to h) g
      rwa [e1.1, e1.2] at this
    have HS2 : Hid (∀ (W' : World) A' cap', Below w.heap.size w W' → LinesAt W' W'.heap.size A' cap' [⟨⟨ig, is, ic⟩, many + 1⟩] → Calls Tryd.prog 37 #[.agg #[vi rg, .slice rA ri.length rcap], vi dd, .slice A' 1 cap'] W' fun e w' => e = .returned (.tuple #[vi mo, vi fe]) ∧ Below W'.heap.size W' w') := fun W' A' cap' h g => by
      have := Sum_any ⟨rg, rA, rcap, ri⟩ dd A' cap' [⟨⟨ig, is, ic⟩, many + 1⟩] W' (hl.next h) (hr.to h) g
      rwa [e2.1, e2.2] at this
    have HS3 : Hid (∀ (W' : World), Below w.heap.size w W' → Calls Tryd.prog 30 #[.agg #[vi rg, .slice rA ri.length rcap], vi dd, .agg #[vi ig, vi is, vi ic]] W' fun e w' => e = .returned (.tuple #[vi p, vi fe]) ∧ Below W'.heap.size W' w') := fun W' h => by
      have := Price_any ⟨rg, rA, rcap, ri⟩ dd ⟨ig, is, ic⟩ W' (hl.next h) (hr.to h)
      rwa [e3.1, e3.2] at this
    obtain ⟨hone0, hone1⟩ := hone
    have hai := HRG.out c (by omega)
    clear hx hst hcase hpaid hmo e1 e2 e3
    go_upto_region 9 with fail
    have E9 : IntKind.i64.wrap ((c : Int) + 1) = (c : Int) + 1 := IntWalk.i64_in _ ⟨by omega, by omega⟩
    have E9a : ((c : Int) + 1 - c).toNat = 1 := by omega
    have E9b : ((c : Int) + 1).toNat = c + 1 := by omega
    have hle1 : (c : Int) + 1 ≤ lc := by omega
    have hle0 : (0 : Int) ≤ (c : Int) + 1 := by omega
    (refine wp_region_grow_lit (by kernel_rfl) (by kernel_rfl) ?_; (repeat (go_big_quiet_step ((go_at_call 37; go_loud (refine Calls.grow_of (HS1.out _ (HBr.trans ((plus_below wr _).mono HBr.size)) (L1.to (plus_below wr _)))))))); refine wpQuiet_nil ?_; intro w1 hw1; have hb1 := below_of_plus hw1; clear hw1; obtain ⟨⟨hc1, hf1, hs1⟩, hz1⟩ := after hb1; (try simp only [World.size_alloc, World.size_setCell, World.size_drew] at hz1))
    have HB9 : Below w.heap.size w w1 := HBr.trans (hb1.mono HBr.size)
    have HBY : Below W2.heap.size W2 w1 := gr_trans hB hb1
    have c09 := cell_keep hb1 c0r
    have c19 := cell_keep hb1 c1r
    have y0 := cell_keep hb1 x0
    have y1 := cell_keep hb1 x1
    have y2 := cell_keep hb1 x2
    have y3 := cell_keep hb1 x3
    have z9 : w.heap.size < w1.heap.size := cell_lt c09
    have zb9 : bb < w1.heap.size := cell_lt y0
    clear hc1 hf1 hs1 E9 E9a E9b L1 HS1 hb1 c0r c1r x0 x1 x2 x3
    obtain ⟨V1, rfl⟩ : ∃ V1, V1 = w1 := ⟨_, rfl⟩
    go_upto_region 10 with fail
    (refine wp_region_grow_lit (by kernel_rfl) (by kernel_rfl) ?_; (repeat (go_big_quiet_step ((go_at_call 30; go_loud (refine Calls.grow_of (HS3.out _ (HB9.trans ((plus_below V1 _).mono HB9.size)))))))); refine wpQuiet_nil ?_; intro w1 hw1; have hb1 := below_of_plus hw1; clear hw1; obtain ⟨⟨hc1, hf1, hs1⟩, hz1⟩ := after hb1; (try simp only [World.size_alloc, World.size_setCell, World.size_drew] at hz1))
    have HB10 : Below w.heap.size w w1 := HB9.trans (hb1.mono HB9.size)
    have HBZ : Below W2.heap.size W2 w1 := gr_trans HBY hb1
    have c010 := cell_keep hb1 c09
    have c110 := cell_keep hb1 c19
    have q0 := cell_keep hb1 y0
    have q1 := cell_keep hb1 y1
    have q2 := cell_keep hb1 y2
    have q3 := cell_keep hb1 y3
    have z10 : w.heap.size < w1.heap.size := cell_lt c010
    have zb10 : bb < w1.heap.size := cell_lt q0
    clear hc1 hf1 hs1 HS3 hb1 c09 c19 y0 y1 y2 y3
    obtain ⟨V2, rfl⟩ : ∃ V2, V2 = w1 := ⟨_, rfl⟩
    go_upto_region 11 with fail
    obtain ⟨paid, hpd⟩ : ∃ paid, paid = paidI many := ⟨_, rfl⟩
    have F1 : IntKind.i64.wrap (many.tdiv 12) = many.tdiv 12 := by
      have : many.tdiv 12 = many / 12 := Int.tdiv_eq_ediv_of_nonneg (by omega)
      exact IntWalk.i64_in _ ⟨by omega, by omega⟩
    have F2 : IntKind.i64.wrap (many - many.tdiv 12) = paid := by
      have := paid_range m1 (by omega : many ≤ 1000)
      rw [hpd]
      unfold paidI at this ⊢
      exact IntWalk.i64_in _ ⟨by omega, by omega⟩
    have F3 : IntKind.i64.wrap (p * paid) = one := by
      rw [hpd, ← HPAID.out]
      exact IntWalk.i64_in _ ⟨by omega, by omega⟩
    clear hpd
    go_cut [93] from 65 to 92 (fun s9 wx => s9 = .bool false ∧ Below V2.heap.size V2 wx)
    case first =>
      rcases HCASE.out with ⟨rfl, -, -, -⟩ | ⟨rfl, -, -, -⟩
      · (refine wp_region_grow_lit (by kernel_rfl) (by kernel_rfl) ?_; (repeat (go_big_quiet_step (fail))); refine wpQuiet_nil ?_; intro w1 hw1; have hb1 := below_of_plus hw1; clear hw1; obtain ⟨⟨hc1, hf1, hs1⟩, hz1⟩ := after hb1; (try simp only [World.size_alloc, World.size_setCell, World.size_drew] at hz1))
        go_wp2_with fail
        go_meet
        exact ⟨rfl, by (repeat (first | exact Below.refl _ _ | refine Below.setCell ?_ (by first | omega | (simp; omega) | (simp; done)) _ | refine Below.alloc ?_ (by first | omega | (simp; omega) | (simp; done)) _ | refine Below.drew ?_ | refine below_drewN ?_ _ | refine Below.trans ?_ (Below.mono (by assumption) (by first | omega | (simp; omega) | (simp; done)))))⟩
      · (refine wp_region_grow_lit (by kernel_rfl) (by kernel_rfl) ?_; (repeat (go_big_quiet_step (fail))); refine wpQuiet_nil ?_; intro w1 hw1; have hb1 := below_of_plus hw1; clear hw1; obtain ⟨⟨hc1, hf1, hs1⟩, hz1⟩ := after hb1; (try simp only [World.size_alloc, World.size_setCell, World.size_drew] at hz1))
        go_wp2_with fail
        go_meet
        exact ⟨rfl, by (repeat (first | exact Below.refl _ _ | refine Below.setCell ?_ (by first | omega | (simp; omega) | (simp; done)) _ | refine Below.alloc ?_ (by first | omega | (simp; omega) | (simp; done)) _ | refine Below.drew ?_ | refine below_drewN ?_ _ | refine Below.trans ?_ (Below.mono (by assumption) (by first | omega | (simp; omega) | (simp; done)))))⟩
    obtain ⟨rfl, hb11⟩ := hcut
    obtain ⟨V3, rfl⟩ : ∃ V3, V3 = wc := ⟨_, rfl⟩
    have HB11 : Below w.heap.size w V3 := HB10.trans (hb11.mono HB10.size)
    have HBX : Below W2.heap.size W2 V3 := gr_trans HBZ hb11
    have c011 := cell_keep hb11 c010
    have c111 := cell_keep hb11 c110
    have y0 := cell_keep hb11 q0
    have y1 := cell_keep hb11 q1
    have y2 := cell_keep hb11 q2
    have y3 := cell_keep hb11 q3
    have z11 : w.heap.size < V3.heap.size := cell_lt c011
    have zb11 : bb < V3.heap.size := cell_lt y0
    clear hb11 c010 c110 q0 q1 q2 q3 F1 F2 F3
    simp only at y0 y1 y2 y3
    go_upto_region 13 with fail
    have F4 : IntKind.i64.wrap (many + 1) = many + 1 := IntWalk.i64_in _ ⟨by omega, by omega⟩
    refine' wp_region_box (fun w' => Below V3.heap.size V3 w') (stays_below _) [0, 1, 2, 3, 4, 5, 6, 7, 8, 9, 10, 11, 12, 13] 7 179 (by kernel_rfl) (by kernel_rfl) rfl (by kernel_rfl) (by kernel_rfl) rfl (by kernel_rfl) ?hl13 (Below.refl _ _) ?hq13 ?hr13
    case hl13 =>
      simp only [List.map_cons, List.map_nil, List.getD_cons_zero, List.getD_cons_succ]
      exact rfl
    case hq13 =>
      intro w0 hw0
      have u0 := cell_keep hw0 c011
      have u1 := cell_keep hw0 c111
      have k0 := cell_keep hw0 y0
      have k1 := cell_keep hw0 y1
      have k2 := cell_keep hw0 y2
      have k3 := cell_keep hw0 y3
      have v1 : w.heap.size < w0.heap.size := cell_lt u0
      have v2 : bb < w0.heap.size := cell_lt k0
      (repeat (go_big_quiet_step (fail)))
      exact wpQuiet_nil rfl
    refine wpUp_one (i := 14) (by kernel_rfl) rfl rfl (fun w5 h1 h2 K hK => ?_)
    go_simp
    obtain ⟨V, hV⟩ : ∃ V, V = w5.alloc (.cells #[vi ig, vi is, vi ic, vi (many + 1)] 79) := ⟨_, rfl⟩
    have hbV : Below w5.heap.size w5 V := by rw [hV]; exact (Below.refl _ _).alloc (Nat.le_refl _) _
    have N0 : V.cell? ⟨w5.heap.size, 0, none⟩ = some (vi ig) := by rw [hV]; simp [go_sem]
    have N1 : V.cell? ⟨w5.heap.size, 1, none⟩ = some (vi is) := by rw [hV]; simp [go_sem]
    have N2 : V.cell? ⟨w5.heap.size, 2, none⟩ = some (vi ic) := by rw [hV]; simp [go_sem]
    have N3 : V.cell? ⟨w5.heap.size, 3, none⟩ = some (vi (many + 1)) := by rw [hV]; simp [go_sem]
    rw [← hV]
    clear hV F4
    refine hK _ _ (gr_trans h2 hbV) ?_
    refine wpUp_one (i := 15) (by kernel_rfl) rfl rfl (fun w7 h3 h4 K2 hK2 => ?_)
    go_simp
    have HB7 : Below w.heap.size w w7 := HB11.trans (h4.mono HB11.size)
    have G0 := cell_keep h3 N0
    have G1 := cell_keep h3 N1
    have G2 := cell_keep h3 N2
    have G3 := cell_keep h3 N3
    refine (HS2.out _ _ _ HB7 (lines_one (cell_lt G0) (Nat.le_refl 1) (by decide) G0 G1 G2 G3)).mono ?_
    rintro e w8 ⟨rfl, hb8⟩
    simp only [Act.put, List.setIfInBounds_toArray, List.set_cons_zero, List.set_cons_succ]
    refine hK2 _ _ (gr_trans h4 hb8) ?_
    refine' wpUp_more (stays_below _) [16, 17, 18, 19, 20] 0 179 (by kernel_rfl) (by kernel_rfl) (by kernel_rfl) rfl (by kernel_rfl) rfl ?hl13b (Below.refl _ _) ?hq13b ?hr13b
    case hl13b =>
      simp only [List.map_cons, List.map_nil, List.getD_cons_zero, List.getD_cons_succ]
      exact rfl
    case hq13b =>
      intro w0 hw0
      (repeat (go_big_quiet_step (fail)))
      exact wpQuiet_nil rfl
    refine wpUp_done (by kernel_rfl) (fun V4 h7 h8 => NoPanic.normal ?_)
    have HB13 : Below w.heap.size w V4 := HB11.trans (h8.mono HB11.size)
    have H2V : Below W2.heap.size W2 V4 := gr_trans HBX h8
    have x3 : V4.cell? ⟨bb, off + c * 4 + 3, none⟩ = some (vi many) := cell_keep h8 y3
    have zb13 : bb < V4.heap.size := cell_lt x3
    clear h1 h2 h3 h4 h7 h8 hK hK2 K K2 hb8 hbV N0 N1 N2 N3 G0 G1 G2 G3 HB7 w8 w7 V c011 c111 y0 y1 y2 y3 HS2 HB11 HB10 HB9 HBX HBY HBZ z9 z10 z11 zb9 zb10 zb11 hbb hbb2 hle1 hle0
    have etm : (many + 1).tmod 12 = (many + 1) % 12 := Int.tmod_eq_emod_of_nonneg (by omega)
    have hmo := HMO.out
    rw [etm] at hmo
    clear etm HMO
    have hst := HST.out
    generalize hbc : AB c = bc at hst ⊢
    have HBC := Lib.hid hbc
    clear hbc HST
    rcases HCASE.out with ⟨rfl, rfl, p0, p1⟩ | ⟨rfl, rfl, rfl, rfl⟩
    · by_cases hfree : (many + 1) % 12 = 0
      · rw [if_pos hfree] at hmo
        subst hmo
        have HST := Lib.hid hst
        clear hst HCASE
        rcases bc with _ | _
        · go_wp2_with fail
          go_roundw
          case rel => exact ⟨c + 1, by omega, by go_num, by rw [HST.out.1], by rw [HST.out.2]; rfl, H2V⟩
          case measure => simp [intOf]; omega
        · go_wp2_with fail
          go_roundw
          case rel => exact ⟨c + 1, by omega, by go_num, by rw [HST.out.1], by rw [HST.out.2]; rfl, H2V⟩
          case measure => simp [intOf]; omega
      · rw [if_neg hfree] at hmo
        subst hmo
        have HST := Lib.hid hst
        clear hst HCASE
        rcases bc with _ | _
        · go_wp2_with fail
          go_roundw
          case rel => exact ⟨c + 1, by omega, by go_num, by rw [HST.out.1], by rw [HST.out.2]; rfl, H2V⟩
          case measure => simp [intOf]; omega
        · go_wp2_with fail
          go_roundw
          case rel => exact ⟨c + 1, by omega, by go_num, by rw [HST.out.1], by rw [HST.out.2]; rfl, H2V⟩
          case measure => simp [intOf]; omega
    · have HST := Lib.hid hst
      clear hst HCASE hmo HPAID
      rcases bc with _ | _
      · go_wp2_with fail
        go_roundw
        case rel => exact ⟨c + 1, by omega, by go_num, by rw [HST.out.1, Int.add_zero], by rw [HST.out.2]; rfl, H2V⟩
        case measure => simp [intOf]; omega
      · go_wp2_with fail
        go_roundw
        case rel => exact ⟨c + 1, by omega, by go_num, by rw [HST.out.1, Int.add_zero], by rw [HST.out.2]; rfl, H2V⟩
        case measure => simp [intOf]; omega
  · obtain rfl : c = ls.length := by omega
    have hae := HAE.out
    have hav := HAV.out
    generalize hbc : AB ls.length = bc at hae hav ⊢
    have HBC := Lib.hid hbc
    clear hbc HAE HAV KEY HMN HRG HZ0 HZ1
    rcases bc with _ | _
    · simp only [Bool.false_eq_true, if_false] at hae hav
      subst hae hav
      go_wp2_with (go_at_call 19; refine (works_any _ (hl.next HBr)).mono ?_; rintro e w9 ⟨rfl, hb10⟩)
      go_ret
      exact ⟨rfl, HBr.trans (hb10.mono HBr.size)⟩
    · simp only [if_true] at hae hav
      subst hae hav
      go_wp2_with (go_at_call 19; refine (works_any _ (hl.next HBr)).mono ?_; rintro e w9 ⟨rfl, hb10⟩)
      go_ret
      exact ⟨rfl, HBr.trans (hb10.mono HBr.size)⟩
end Go.Proofs.YtpcajmkmmkmekaaDoor
