/- Contracts of cheapest. -/
import Derived.Test.YtpcajmkmmkmekaaGreatDoorGk
import Derived.Test.YtpcajmkmmkmekaaGreatDoorGj
set_option linter.unusedVariables false
set_option linter.unusedSimpArgs false
namespace Go.Proofs.YtpcajmkmmkmekaaGreatDoor
open Go Go.RowKit
set_option maxHeartbeats 3200000
def cheapS (acc : Option (Int × Int)) (d : Int) (o : Option Int) : Option (Int × Int) := match o with | some n => (match acc with | some p => if n < p.2 then some (d, n) else some p | none => some (d, n)) | none => acc
def cheapF (m : List (List (Issue × Int) × Int)) (a : Int) (k : Nat) : Option (Int × Int) := (List.range k).foldl (fun acc (i : Nat) => cheapS acc (a + i) (sumK m (a + i))) none
theorem cheapF_succ (m : List (List (Issue × Int) × Int)) (a : Int) (k : Nat) : cheapF m a (k + 1) = cheapS (cheapF m a k) (a + k) (sumK m (a + k)) := by
  simp [cheapF, List.range_succ]
abbrev cheapV (o : Option (Int × Int)) : Value := .tuple #[vi ((o.map Prod.fst).getD 0), vi ((o.map Prod.snd).getD 0), .bool o.isSome]
def cheapO (r : Rack) (a b : Int) (ls : List Line) : Option (Int × Int) := cheapF (ls.map (quoteOf r a b)) a (b - a + 1).toNat
theorem cheapest_any (r : Rack) (a b : Int) (A : Option Addr) (cap : Nat) (ls : List Line) (w : World) (h : RackAt w w.heap.size r) (hn4 : r.issues.length ≤ 4) (hls : LinesAt w w.heap.size A cap ls) (hln : ls.length ≤ 20) (hlv : Hid (∀ l, l ∈ ls → (0 ≤ l.item.colour ∧ l.item.colour ≤ 3) ∧ 1 ≤ l.many ∧ l.many ≤ 1000)) (ha : 0 ≤ a) (hab : a ≤ b) (hb : b ≤ 20000) :
    Calls Tryz.prog 69 #[r.val, .agg #[vi a, vi b], .slice A ls.length cap] w fun e w' => e = .returned (cheapV (cheapO r a b ls)) ∧ Below w.heap.size w w' := by
  unfold cheapO
  generalize hm : ls.map (quoteOf r a b) = m
  obtain ⟨N, hN⟩ : ∃ N : Nat, (N : Int) = b - a + 1 := ⟨(b - a + 1).toNat, by omega⟩
  have hNN : (b - a + 1).toNat = N := by omega
  rw [hNN]
  have hN2 : N ≤ 20001 := by omega
  go_enter Tryz.func69, Tryz.ntmps69
  go_wp2_with (go_at_call 66; refine (quotes_any r a b A cap ls _ (RackAt.to h (by (repeat (first | exact Below.refl _ _ | refine Below.setCell ?_ (by first | omega | (simp; omega) | (simp; done)) _ | refine Below.alloc ?_ (by first | omega | (simp; omega) | (simp; done)) _ | refine Below.drew ?_ | refine below_drewN ?_ _ | refine Below.trans ?_ (Below.mono (by assumption) (by first | omega | (simp; omega) | (simp; done))))))) hn4 (hls.to (by (repeat (first | exact Below.refl _ _ | refine Below.setCell ?_ (by first | omega | (simp; omega) | (simp; done)) _ | refine Below.alloc ?_ (by first | omega | (simp; omega) | (simp; done)) _ | refine Below.drew ?_ | refine below_drewN ?_ _ | refine Below.trans ?_ (Below.mono (by assumption) (by first | omega | (simp; omega) | (simp; done))))))) hln hlv.out).mono ?_; rintro e wb ⟨qA, qc, qs, rfl, hql, hqs, hqk, hbb⟩; have hzb := hbb.size; have D0 := (hbb.cell (p := ⟨w.heap.size + 1, 0, none⟩) (by first | omega | (simp; omega) | (simp; done))).trans (by simp [go_sem] : _ = some (vi a)); have D1 := (hbb.cell (p := ⟨w.heap.size + 1, 1, none⟩) (by first | omega | (simp; omega) | (simp; done))).trans (by simp [go_sem] : _ = some (vi b)); have zD : w.heap.size + 1 < wb.heap.size := (by simp at hzb; omega); have hHB : Hid (Below w.heap.size w wb) := (by unfold Hid; (repeat (first | exact Below.refl _ _ | refine Below.setCell ?_ (by first | omega | (simp; omega) | (simp; done)) _ | refine Below.alloc ?_ (by first | omega | (simp; omega) | (simp; done)) _ | refine Below.drew ?_ | refine below_drewN ?_ _ | refine Below.trans ?_ (Below.mono (by assumption) (by first | omega | (simp; omega) | (simp; done)))))))
  clear hbb hzb
  have HQK : Hid (qs.map Quote.key = m) := hqk.trans hm
  clear hqk hm
  go_loopw [6, 7, 8, 23] (fun dv sv ok i wr => ∃ k : Nat, k ≤ N ∧ i = .int .i64 k ∧ Below wb.heap.size wb wr ∧ ∃ o : Option (Int × Int), dv = vi ((o.map Prod.fst).getD 0) ∧ sv = vi ((o.map Prod.snd).getD 0) ∧ ok = .bool o.isSome ∧ Hid (cheapF m a k = o)) (fun _ _ _ i _ => N - (intOf i).toNat)
  case atStart => exact ⟨0, Nat.zero_le _, rfl, Below.refl _ _, none, rfl, rfl, rfl, by simp [Hid, cheapF]⟩
  case round =>
    obtain ⟨k, hk, rfl, hB, o, rfl, rfl, rfl, hO⟩ := hrel
    have hbs := hB.size
    by_cases hlt : k < N
    · have hlt2 : (k : Int) < b - a + 1 := by omega
      have d0 := (hB.cell (p := ⟨w.heap.size + 1, 0, none⟩) zD).trans D0
      have hst := Lib.hid (cheapF_succ m a k)
      have hqr := hqs.to hB
      rcases hp : sumK m (a + k) with _ | n
      · have E : Hid (cheapF m a (k + 1) = o) := by unfold Hid; rw [hst.out, hO.out, hp]; rfl
        go_wp2_with (go_at_call 65; refine (sumOn_is HQK.out hp qA qc _ hql _ (hqr.to (by (repeat (first | exact Below.refl _ _ | refine Below.setCell ?_ (by first | omega | (simp; omega) | (simp; done)) _ | refine Below.alloc ?_ (by first | omega | (simp; omega) | (simp; done)) _ | refine Below.drew ?_ | refine below_drewN ?_ _ | refine Below.trans ?_ (Below.mono (by assumption) (by first | omega | (simp; omega) | (simp; done)))))))).mono ?_; rintro e w3 ⟨rfl, hb3⟩; obtain ⟨⟨hc3, hf3, hs3⟩, hz3⟩ := after hb3)
        go_roundw
        case rel => exact ⟨k + 1, by omega, by go_num, by (repeat (first | exact Below.refl _ _ | refine Below.setCell ?_ (by first | omega | (simp; omega) | (simp; done)) _ | refine Below.alloc ?_ (by first | omega | (simp; omega) | (simp; done)) _ | refine Below.drew ?_ | refine below_drewN ?_ _ | refine Below.trans ?_ (Below.mono (by assumption) (by first | omega | (simp; omega) | (simp; done))))), o, rfl, rfl, rfl, E⟩
        case measure => simp [intOf]; omega
      · rcases o with _ | ⟨d1, s1⟩
        · have E : Hid (cheapF m a (k + 1) = some (a + k, n)) := by unfold Hid; rw [hst.out, hO.out, hp]; rfl
          go_wp2_with (go_at_call 65; refine (sumOn_is HQK.out hp qA qc _ hql _ (hqr.to (by (repeat (first | exact Below.refl _ _ | refine Below.setCell ?_ (by first | omega | (simp; omega) | (simp; done)) _ | refine Below.alloc ?_ (by first | omega | (simp; omega) | (simp; done)) _ | refine Below.drew ?_ | refine below_drewN ?_ _ | refine Below.trans ?_ (Below.mono (by assumption) (by first | omega | (simp; omega) | (simp; done)))))))).mono ?_; rintro e w3 ⟨rfl, hb3⟩; obtain ⟨⟨hc3, hf3, hs3⟩, hz3⟩ := after hb3; have hq3 : w.heap.size + 1 < wr.heap.size := (by omega))
          go_roundw
          case rel => exact ⟨k + 1, by omega, by go_num, by (repeat (first | exact Below.refl _ _ | refine Below.setCell ?_ (by first | omega | (simp; omega) | (simp; done)) _ | refine Below.alloc ?_ (by first | omega | (simp; omega) | (simp; done)) _ | refine Below.drew ?_ | refine below_drewN ?_ _ | refine Below.trans ?_ (Below.mono (by assumption) (by first | omega | (simp; omega) | (simp; done))))), some (a + k, n), rfl, rfl, rfl, E⟩
          case measure => simp [intOf]; omega
        · by_cases hns : n < s1
          · have E : Hid (cheapF m a (k + 1) = some (a + k, n)) := by unfold Hid; rw [hst.out, hO.out, hp]; simp [cheapS, hns]
            go_wp2_with (go_at_call 65; refine (sumOn_is HQK.out hp qA qc _ hql _ (hqr.to (by (repeat (first | exact Below.refl _ _ | refine Below.setCell ?_ (by first | omega | (simp; omega) | (simp; done)) _ | refine Below.alloc ?_ (by first | omega | (simp; omega) | (simp; done)) _ | refine Below.drew ?_ | refine below_drewN ?_ _ | refine Below.trans ?_ (Below.mono (by assumption) (by first | omega | (simp; omega) | (simp; done)))))))).mono ?_; rintro e w3 ⟨rfl, hb3⟩; obtain ⟨⟨hc3, hf3, hs3⟩, hz3⟩ := after hb3; have hq3 : w.heap.size + 1 < wr.heap.size := (by omega))
            go_roundw
            case rel => exact ⟨k + 1, by omega, by go_num, by (repeat (first | exact Below.refl _ _ | refine Below.setCell ?_ (by first | omega | (simp; omega) | (simp; done)) _ | refine Below.alloc ?_ (by first | omega | (simp; omega) | (simp; done)) _ | refine Below.drew ?_ | refine below_drewN ?_ _ | refine Below.trans ?_ (Below.mono (by assumption) (by first | omega | (simp; omega) | (simp; done))))), some (a + k, n), rfl, rfl, rfl, E⟩
            case measure => simp [intOf]; omega
          · have E : Hid (cheapF m a (k + 1) = some (d1, s1)) := by unfold Hid; rw [hst.out, hO.out, hp]; simp [cheapS, hns]
            have hns2 : s1 ≤ n := by omega
            go_wp2_with (go_at_call 65; refine (sumOn_is HQK.out hp qA qc _ hql _ (hqr.to (by (repeat (first | exact Below.refl _ _ | refine Below.setCell ?_ (by first | omega | (simp; omega) | (simp; done)) _ | refine Below.alloc ?_ (by first | omega | (simp; omega) | (simp; done)) _ | refine Below.drew ?_ | refine below_drewN ?_ _ | refine Below.trans ?_ (Below.mono (by assumption) (by first | omega | (simp; omega) | (simp; done)))))))).mono ?_; rintro e w3 ⟨rfl, hb3⟩; obtain ⟨⟨hc3, hf3, hs3⟩, hz3⟩ := after hb3)
            go_roundw
            case rel => exact ⟨k + 1, by omega, by go_num, by (repeat (first | exact Below.refl _ _ | refine Below.setCell ?_ (by first | omega | (simp; omega) | (simp; done)) _ | refine Below.alloc ?_ (by first | omega | (simp; omega) | (simp; done)) _ | refine Below.drew ?_ | refine below_drewN ?_ _ | refine Below.trans ?_ (Below.mono (by assumption) (by first | omega | (simp; omega) | (simp; done))))), some (d1, s1), rfl, rfl, rfl, E⟩
            case measure => simp [intOf]; omega
    · obtain rfl : k = N := by omega
      have hge : ¬ ((k : Int) < b - a + 1) := by omega
      go_wp2
      go_returns
      refine ⟨?_, hHB.out.trans (hB.mono hHB.out.size)⟩
      rw [hO.out]
      rfl
theorem cheapest_is {r : Rack} {a b : Int} {ls : List Line} {o : Option (Int × Int)} (ho : cheapO r a b ls = o) (A : Option Addr) (cap : Nat) (w : World) (h : RackAt w w.heap.size r) (hn4 : r.issues.length ≤ 4) (hls : LinesAt w w.heap.size A cap ls) (hln : ls.length ≤ 20) (hlv : Hid (∀ l, l ∈ ls → (0 ≤ l.item.colour ∧ l.item.colour ≤ 3) ∧ 1 ≤ l.many ∧ l.many ≤ 1000)) (ha : 0 ≤ a) (hab : a ≤ b) (hb : b ≤ 20000) :
    Calls Tryz.prog 69 #[r.val, .agg #[vi a, vi b], .slice A ls.length cap] w fun e w' => e = .returned (cheapV o) ∧ Below w.heap.size w w' := by
  subst ho
  exact cheapest_any r a b A cap ls w h hn4 hls hln hlv ha hab hb
end Go.Proofs.YtpcajmkmmkmekaaGreatDoor

/- Contracts of Cheapest. -/
namespace Go.Proofs.YtpcajmkmmkmekaaGreatDoor
open Go Go.RowKit
set_option maxHeartbeats 3200000
def cheapAsk (r : Rack) (a b : Int) (ls : List Line) : Bool := limS 3 a b && linesB r ls
def cheapErr (r : Rack) (a b : Int) (ls : List Line) : Int := if validB r then if cheapAsk r a b ls then if (cheapO r a b ls).isSome then 0 else 4 else 11 else 10
def cheapD (r : Rack) (a b : Int) (ls : List Line) : Int := if validB r && cheapAsk r a b ls then ((cheapO r a b ls).map Prod.fst).getD 0 else 0
def cheapN (r : Rack) (a b : Int) (ls : List Line) : Int := if validB r && cheapAsk r a b ls then ((cheapO r a b ls).map Prod.snd).getD 0 else 0
theorem Cheapest_any (r : Rack) (a b : Int) (A : Option Addr) (cap : Nat) (ls : List Line) (w : World) (hl : Lim w) (hr : RackAt w w.heap.size r) (hls : LinesAt w w.heap.size A cap ls) :
    Calls Tryz.prog 25 #[r.val, .agg #[vi a, vi b], .slice A ls.length cap] w fun e w' => e = .returned (.tuple #[vi (cheapD r a b ls), vi (cheapN r a b ls), vi (cheapErr r a b ls)]) ∧ Below w.heap.size w w' := by
  rcases hv : validB r with _ | _
  · have E : Hid (cheapErr r a b ls = 10 ∧ cheapD r a b ls = 0 ∧ cheapN r a b ls = 0) := by simp [cheapErr, cheapD, cheapN, hv, Hid]
    go_enter Tryz.func25, Tryz.ntmps25
    go_wp2_with (go_at_call 9; refine (check_bad r _ (by repeat (first | assumption | refine Lim.alloc ?_ _ | refine Lim.setCell ?_ (by first | (simp; done) | (simp; omega) | omega) _ | refine Lim.drew ?_)) (hr.to (by (repeat (first | exact Below.refl _ _ | refine Below.setCell ?_ (by first | omega | (simp; omega) | (simp; done)) _ | refine Below.alloc ?_ (by first | omega | (simp; omega) | (simp; done)) _ | refine Below.drew ?_ | refine below_drewN ?_ _ | refine Below.trans ?_ (Below.mono (by assumption) (by first | omega | (simp; omega) | (simp; done))))))) hv).mono ?_; rintro e w1 ⟨rfl, hb1⟩; obtain ⟨⟨hc1, hf1, hs1⟩, hz1⟩ := after hb1; (try simp only [World.size_alloc, World.size_setCell, World.size_drew] at hz1))
    go_ret3
    refine ⟨by rw [E.out.1, E.out.2.1, E.out.2.2]; rfl, ?_⟩
    (repeat (first | exact Below.refl _ _ | refine Below.setCell ?_ (by first | omega | (simp; omega) | (simp; done)) _ | refine Below.alloc ?_ (by first | omega | (simp; omega) | (simp; done)) _ | refine Below.drew ?_ | refine below_drewN ?_ _ | refine Below.trans ?_ (Below.mono (by assumption) (by first | omega | (simp; omega) | (simp; done)))))
  rcases h1 : limS 3 a b with _ | _
  · have E : Hid (cheapErr r a b ls = 11 ∧ cheapD r a b ls = 0 ∧ cheapN r a b ls = 0) := by simp [cheapErr, cheapD, cheapN, cheapAsk, hv, h1, Hid]
    go_enter Tryz.func25, Tryz.ntmps25
    go_wp2_with fail
    refine (check_ok r _ (by repeat (first | assumption | refine Lim.alloc ?_ _ | refine Lim.setCell ?_ (by first | (simp; done) | (simp; omega) | omega) _ | refine Lim.drew ?_)) (hr.to (by (repeat (first | exact Below.refl _ _ | refine Below.setCell ?_ (by first | omega | (simp; omega) | (simp; done)) _ | refine Below.alloc ?_ (by first | omega | (simp; omega) | (simp; done)) _ | refine Below.drew ?_ | refine below_drewN ?_ _ | refine Below.trans ?_ (Below.mono (by assumption) (by first | omega | (simp; omega) | (simp; done))))))) hv).mono ?_
    rintro e wA ⟨rfl, hbA⟩
    have zA : w.heap.size + 1 < wA.heap.size := by have := hbA.size; simp at this; omega
    have zA2 : w.heap.size + 1 < wA.heap.size + 1 := by omega
    have zA3 : w.heap.size < wA.heap.size := by omega
    have a0 := (hbA.cell (p := ⟨w.heap.size, 0, none⟩) (by first | omega | (simp; omega) | (simp; done))).trans (by simp [go_sem] : _ = some (vi r.goods))
    have a1 := (hbA.cell (p := ⟨w.heap.size, 1, none⟩) (by first | omega | (simp; omega) | (simp; done))).trans (by simp [go_sem] : _ = some r.slice)
    have d0 := (hbA.cell (p := ⟨w.heap.size + 1, 0, none⟩) (by first | omega | (simp; omega) | (simp; done))).trans (by simp [go_sem] : _ = some (vi a))
    have d1 := (hbA.cell (p := ⟨w.heap.size + 1, 1, none⟩) (by first | omega | (simp; omega) | (simp; done))).trans (by simp [go_sem] : _ = some (vi b))
    have HA : Below w.heap.size w wA := by (repeat (first | exact Below.refl _ _ | refine Below.setCell ?_ (by first | omega | (simp; omega) | (simp; done)) _ | refine Below.alloc ?_ (by first | omega | (simp; omega) | (simp; done)) _ | refine Below.drew ?_ | refine below_drewN ?_ _ | refine Below.trans ?_ (Below.mono (by assumption) (by first | omega | (simp; omega) | (simp; done)))))
    have hlA : Lim wA := hl.next HA
    have hw0 := HA.size
    clear hbA
    go_wp2_with (first | (go_at_call 27; refine (spanWithin_any _ _ _ _ (by omega) (by omega) (by repeat (first | assumption | refine Lim.alloc ?_ _ | refine Lim.setCell ?_ (by first | (simp; done) | (simp; omega) | omega) _ | refine Lim.drew ?_))).mono ?_; rintro e w1 ⟨rfl, hb1⟩; obtain ⟨⟨hc1, hf1, hs1⟩, hz1⟩ := after hb1; (try simp only [World.size_alloc, World.size_setCell, World.size_drew] at hz1); have hl1 : Lim w1 := Lim.next (by repeat (first | assumption | refine Lim.alloc ?_ _ | refine Lim.setCell ?_ (by first | (simp; done) | (simp; omega) | omega) _ | refine Lim.drew ?_)) hb1; have hq1 : wA.heap.size < w1.heap.size := (by omega)) | (go_at_call 64; refine (areLines_any r A cap ls _ (by repeat (first | assumption | refine Lim.alloc ?_ _ | refine Lim.setCell ?_ (by first | (simp; done) | (simp; omega) | omega) _ | refine Lim.drew ?_)) (hls.to (by (repeat (first | exact Below.refl _ _ | refine Below.setCell ?_ (by first | omega | (simp; omega) | (simp; done)) _ | refine Below.alloc ?_ (by first | omega | (simp; omega) | (simp; done)) _ | refine Below.drew ?_ | refine below_drewN ?_ _ | refine Below.trans ?_ (Below.mono (by assumption) (by first | omega | (simp; omega) | (simp; done)))))))).mono ?_; rintro e w1 ⟨rfl, hb1⟩; obtain ⟨⟨hc1, hf1, hs1⟩, hz1⟩ := after hb1; (try simp only [World.size_alloc, World.size_setCell, World.size_drew] at hz1); have hl1 : Lim w1 := Lim.next (by repeat (first | assumption | refine Lim.alloc ?_ _ | refine Lim.setCell ?_ (by first | (simp; done) | (simp; omega) | omega) _ | refine Lim.drew ?_)) hb1; have hq1 : wA.heap.size < w1.heap.size := (by omega)))
    go_ret3
    refine ⟨by rw [E.out.1, E.out.2.1, E.out.2.2]; rfl, ?_⟩
    (repeat (first | exact Below.refl _ _ | refine Below.setCell ?_ (by first | omega | (simp; omega) | (simp; done)) _ | refine Below.alloc ?_ (by first | omega | (simp; omega) | (simp; done)) _ | refine Below.drew ?_ | refine below_drewN ?_ _ | refine Below.trans ?_ (Below.mono (by assumption) (by first | omega | (simp; omega) | (simp; done)))))
  rcases h2 : linesB r ls with _ | _
  · have E : Hid (cheapErr r a b ls = 11 ∧ cheapD r a b ls = 0 ∧ cheapN r a b ls = 0) := by simp [cheapErr, cheapD, cheapN, cheapAsk, hv, h1, h2, Hid]
    go_enter Tryz.func25, Tryz.ntmps25
    go_wp2_with fail
    refine (check_ok r _ (by repeat (first | assumption | refine Lim.alloc ?_ _ | refine Lim.setCell ?_ (by first | (simp; done) | (simp; omega) | omega) _ | refine Lim.drew ?_)) (hr.to (by (repeat (first | exact Below.refl _ _ | refine Below.setCell ?_ (by first | omega | (simp; omega) | (simp; done)) _ | refine Below.alloc ?_ (by first | omega | (simp; omega) | (simp; done)) _ | refine Below.drew ?_ | refine below_drewN ?_ _ | refine Below.trans ?_ (Below.mono (by assumption) (by first | omega | (simp; omega) | (simp; done))))))) hv).mono ?_
    rintro e wA ⟨rfl, hbA⟩
    have zA : w.heap.size + 1 < wA.heap.size := by have := hbA.size; simp at this; omega
    have zA2 : w.heap.size + 1 < wA.heap.size + 1 := by omega
    have zA3 : w.heap.size < wA.heap.size := by omega
    have a0 := (hbA.cell (p := ⟨w.heap.size, 0, none⟩) (by first | omega | (simp; omega) | (simp; done))).trans (by simp [go_sem] : _ = some (vi r.goods))
    have a1 := (hbA.cell (p := ⟨w.heap.size, 1, none⟩) (by first | omega | (simp; omega) | (simp; done))).trans (by simp [go_sem] : _ = some r.slice)
    have d0 := (hbA.cell (p := ⟨w.heap.size + 1, 0, none⟩) (by first | omega | (simp; omega) | (simp; done))).trans (by simp [go_sem] : _ = some (vi a))
    have d1 := (hbA.cell (p := ⟨w.heap.size + 1, 1, none⟩) (by first | omega | (simp; omega) | (simp; done))).trans (by simp [go_sem] : _ = some (vi b))
    have HA : Below w.heap.size w wA := by (repeat (first | exact Below.refl _ _ | refine Below.setCell ?_ (by first | omega | (simp; omega) | (simp; done)) _ | refine Below.alloc ?_ (by first | omega | (simp; omega) | (simp; done)) _ | refine Below.drew ?_ | refine below_drewN ?_ _ | refine Below.trans ?_ (Below.mono (by assumption) (by first | omega | (simp; omega) | (simp; done)))))
    have hlA : Lim wA := hl.next HA
    have hw0 := HA.size
    clear hbA
    go_wp2_with (first | (go_at_call 27; refine (spanWithin_any _ _ _ _ (by omega) (by omega) (by repeat (first | assumption | refine Lim.alloc ?_ _ | refine Lim.setCell ?_ (by first | (simp; done) | (simp; omega) | omega) _ | refine Lim.drew ?_))).mono ?_; rintro e w1 ⟨rfl, hb1⟩; obtain ⟨⟨hc1, hf1, hs1⟩, hz1⟩ := after hb1; (try simp only [World.size_alloc, World.size_setCell, World.size_drew] at hz1); have hl1 : Lim w1 := Lim.next (by repeat (first | assumption | refine Lim.alloc ?_ _ | refine Lim.setCell ?_ (by first | (simp; done) | (simp; omega) | omega) _ | refine Lim.drew ?_)) hb1; have hq1 : wA.heap.size < w1.heap.size := (by omega)) | (go_at_call 64; refine (areLines_any r A cap ls _ (by repeat (first | assumption | refine Lim.alloc ?_ _ | refine Lim.setCell ?_ (by first | (simp; done) | (simp; omega) | omega) _ | refine Lim.drew ?_)) (hls.to (by (repeat (first | exact Below.refl _ _ | refine Below.setCell ?_ (by first | omega | (simp; omega) | (simp; done)) _ | refine Below.alloc ?_ (by first | omega | (simp; omega) | (simp; done)) _ | refine Below.drew ?_ | refine below_drewN ?_ _ | refine Below.trans ?_ (Below.mono (by assumption) (by first | omega | (simp; omega) | (simp; done)))))))).mono ?_; rintro e w1 ⟨rfl, hb1⟩; obtain ⟨⟨hc1, hf1, hs1⟩, hz1⟩ := after hb1; (try simp only [World.size_alloc, World.size_setCell, World.size_drew] at hz1); have hl1 : Lim w1 := Lim.next (by repeat (first | assumption | refine Lim.alloc ?_ _ | refine Lim.setCell ?_ (by first | (simp; done) | (simp; omega) | omega) _ | refine Lim.drew ?_)) hb1; have hq1 : wA.heap.size < w1.heap.size := (by omega)))
    go_ret3
    refine ⟨by rw [E.out.1, E.out.2.1, E.out.2.2]; rfl, ?_⟩
    (repeat (first | exact Below.refl _ _ | refine Below.setCell ?_ (by first | omega | (simp; omega) | (simp; done)) _ | refine Below.alloc ?_ (by first | omega | (simp; omega) | (simp; done)) _ | refine Below.drew ?_ | refine below_drewN ?_ _ | refine Below.trans ?_ (Below.mono (by assumption) (by first | omega | (simp; omega) | (simp; done)))))
  have hn4 := valid_four hv
  obtain ⟨hd1, hd2, hd3⟩ := lim_days h1
  obtain ⟨hln, hlv⟩ := lines_ok h2
  have HLV := Lib.hid hlv
  clear hlv
  rcases hco : cheapO r a b ls with _ | ⟨cd, cn⟩
  · have E : Hid (cheapErr r a b ls = 4 ∧ cheapD r a b ls = 0 ∧ cheapN r a b ls = 0) := by simp [cheapErr, cheapD, cheapN, cheapAsk, hv, h1, h2, hco, Hid]
    go_enter Tryz.func25, Tryz.ntmps25
    go_wp2_with fail
    refine (check_ok r _ (by repeat (first | assumption | refine Lim.alloc ?_ _ | refine Lim.setCell ?_ (by first | (simp; done) | (simp; omega) | omega) _ | refine Lim.drew ?_)) (hr.to (by (repeat (first | exact Below.refl _ _ | refine Below.setCell ?_ (by first | omega | (simp; omega) | (simp; done)) _ | refine Below.alloc ?_ (by first | omega | (simp; omega) | (simp; done)) _ | refine Below.drew ?_ | refine below_drewN ?_ _ | refine Below.trans ?_ (Below.mono (by assumption) (by first | omega | (simp; omega) | (simp; done))))))) hv).mono ?_
    rintro e wA ⟨rfl, hbA⟩
    have zA : w.heap.size + 1 < wA.heap.size := by have := hbA.size; simp at this; omega
    have zA2 : w.heap.size + 1 < wA.heap.size + 1 := by omega
    have zA3 : w.heap.size < wA.heap.size := by omega
    have a0 := (hbA.cell (p := ⟨w.heap.size, 0, none⟩) (by first | omega | (simp; omega) | (simp; done))).trans (by simp [go_sem] : _ = some (vi r.goods))
    have a1 := (hbA.cell (p := ⟨w.heap.size, 1, none⟩) (by first | omega | (simp; omega) | (simp; done))).trans (by simp [go_sem] : _ = some r.slice)
    have d0 := (hbA.cell (p := ⟨w.heap.size + 1, 0, none⟩) (by first | omega | (simp; omega) | (simp; done))).trans (by simp [go_sem] : _ = some (vi a))
    have d1 := (hbA.cell (p := ⟨w.heap.size + 1, 1, none⟩) (by first | omega | (simp; omega) | (simp; done))).trans (by simp [go_sem] : _ = some (vi b))
    have HA : Below w.heap.size w wA := by (repeat (first | exact Below.refl _ _ | refine Below.setCell ?_ (by first | omega | (simp; omega) | (simp; done)) _ | refine Below.alloc ?_ (by first | omega | (simp; omega) | (simp; done)) _ | refine Below.drew ?_ | refine below_drewN ?_ _ | refine Below.trans ?_ (Below.mono (by assumption) (by first | omega | (simp; omega) | (simp; done)))))
    have hlA : Lim wA := hl.next HA
    have hw0 := HA.size
    clear hbA
    go_wp2_with (first | (go_at_call 27; refine (spanWithin_any _ _ _ _ (by omega) (by omega) (by repeat (first | assumption | refine Lim.alloc ?_ _ | refine Lim.setCell ?_ (by first | (simp; done) | (simp; omega) | omega) _ | refine Lim.drew ?_))).mono ?_; rintro e w1 ⟨rfl, hb1⟩; obtain ⟨⟨hc1, hf1, hs1⟩, hz1⟩ := after hb1; (try simp only [World.size_alloc, World.size_setCell, World.size_drew] at hz1); have hl1 : Lim w1 := Lim.next (by repeat (first | assumption | refine Lim.alloc ?_ _ | refine Lim.setCell ?_ (by first | (simp; done) | (simp; omega) | omega) _ | refine Lim.drew ?_)) hb1; have hq1 : wA.heap.size < w1.heap.size := (by omega)) | (go_at_call 64; refine (areLines_any r A cap ls _ (by repeat (first | assumption | refine Lim.alloc ?_ _ | refine Lim.setCell ?_ (by first | (simp; done) | (simp; omega) | omega) _ | refine Lim.drew ?_)) (hls.to (by (repeat (first | exact Below.refl _ _ | refine Below.setCell ?_ (by first | omega | (simp; omega) | (simp; done)) _ | refine Below.alloc ?_ (by first | omega | (simp; omega) | (simp; done)) _ | refine Below.drew ?_ | refine below_drewN ?_ _ | refine Below.trans ?_ (Below.mono (by assumption) (by first | omega | (simp; omega) | (simp; done)))))))).mono ?_; rintro e w1 ⟨rfl, hb1⟩; obtain ⟨⟨hc1, hf1, hs1⟩, hz1⟩ := after hb1; (try simp only [World.size_alloc, World.size_setCell, World.size_drew] at hz1); have hl1 : Lim w1 := Lim.next (by repeat (first | assumption | refine Lim.alloc ?_ _ | refine Lim.setCell ?_ (by first | (simp; done) | (simp; omega) | omega) _ | refine Lim.drew ?_)) hb1; have hq1 : wA.heap.size < w1.heap.size := (by omega)) | (go_at_call 69; refine (cheapest_is hco A cap _ (RackAt.to hr (by (repeat (first | exact Below.refl _ _ | refine Below.setCell ?_ (by first | omega | (simp; omega) | (simp; done)) _ | refine Below.alloc ?_ (by first | omega | (simp; omega) | (simp; done)) _ | refine Below.drew ?_ | refine below_drewN ?_ _ | refine Below.trans ?_ (Below.mono (by assumption) (by first | omega | (simp; omega) | (simp; done))))))) hn4 (hls.to (by (repeat (first | exact Below.refl _ _ | refine Below.setCell ?_ (by first | omega | (simp; omega) | (simp; done)) _ | refine Below.alloc ?_ (by first | omega | (simp; omega) | (simp; done)) _ | refine Below.drew ?_ | refine below_drewN ?_ _ | refine Below.trans ?_ (Below.mono (by assumption) (by first | omega | (simp; omega) | (simp; done))))))) hln HLV hd1 hd2 hd3).mono ?_; rintro e wb ⟨rfl, hbb⟩; have hzb := hbb.size))
    go_ret3
    refine ⟨by rw [E.out.1, E.out.2.1, E.out.2.2]; rfl, ?_⟩
    (repeat (first | exact Below.refl _ _ | refine Below.setCell ?_ (by first | omega | (simp; omega) | (simp; done)) _ | refine Below.alloc ?_ (by first | omega | (simp; omega) | (simp; done)) _ | refine Below.drew ?_ | refine below_drewN ?_ _ | refine Below.trans ?_ (Below.mono (by assumption) (by first | omega | (simp; omega) | (simp; done)))))
  · have E : Hid (cheapErr r a b ls = 0 ∧ cheapD r a b ls = cd ∧ cheapN r a b ls = cn) := by simp [cheapErr, cheapD, cheapN, cheapAsk, hv, h1, h2, hco, Hid]
    go_enter Tryz.func25, Tryz.ntmps25
    go_wp2_with fail
    refine (check_ok r _ (by repeat (first | assumption | refine Lim.alloc ?_ _ | refine Lim.setCell ?_ (by first | (simp; done) | (simp; omega) | omega) _ | refine Lim.drew ?_)) (hr.to (by (repeat (first | exact Below.refl _ _ | refine Below.setCell ?_ (by first | omega | (simp; omega) | (simp; done)) _ | refine Below.alloc ?_ (by first | omega | (simp; omega) | (simp; done)) _ | refine Below.drew ?_ | refine below_drewN ?_ _ | refine Below.trans ?_ (Below.mono (by assumption) (by first | omega | (simp; omega) | (simp; done))))))) hv).mono ?_
    rintro e wA ⟨rfl, hbA⟩
    have zA : w.heap.size + 1 < wA.heap.size := by have := hbA.size; simp at this; omega
    have zA2 : w.heap.size + 1 < wA.heap.size + 1 := by omega
    have zA3 : w.heap.size < wA.heap.size := by omega
    have a0 := (hbA.cell (p := ⟨w.heap.size, 0, none⟩) (by first | omega | (simp; omega) | (simp; done))).trans (by simp [go_sem] : _ = some (vi r.goods))
    have a1 := (hbA.cell (p := ⟨w.heap.size, 1, none⟩) (by first | omega | (simp; omega) | (simp; done))).trans (by simp [go_sem] : _ = some r.slice)
    have d0 := (hbA.cell (p := ⟨w.heap.size + 1, 0, none⟩) (by first | omega | (simp; omega) | (simp; done))).trans (by simp [go_sem] : _ = some (vi a))
    have d1 := (hbA.cell (p := ⟨w.heap.size + 1, 1, none⟩) (by first | omega | (simp; omega) | (simp; done))).trans (by simp [go_sem] : _ = some (vi b))
    have HA : Below w.heap.size w wA := by (repeat (first | exact Below.refl _ _ | refine Below.setCell ?_ (by first | omega | (simp; omega) | (simp; done)) _ | refine Below.alloc ?_ (by first | omega | (simp; omega) | (simp; done)) _ | refine Below.drew ?_ | refine below_drewN ?_ _ | refine Below.trans ?_ (Below.mono (by assumption) (by first | omega | (simp; omega) | (simp; done)))))
    have hlA : Lim wA := hl.next HA
    have hw0 := HA.size
    clear hbA
    go_wp2_with (first | (go_at_call 27; refine (spanWithin_any _ _ _ _ (by omega) (by omega) (by repeat (first | assumption | refine Lim.alloc ?_ _ | refine Lim.setCell ?_ (by first | (simp; done) | (simp; omega) | omega) _ | refine Lim.drew ?_))).mono ?_; rintro e w1 ⟨rfl, hb1⟩; obtain ⟨⟨hc1, hf1, hs1⟩, hz1⟩ := after hb1; (try simp only [World.size_alloc, World.size_setCell, World.size_drew] at hz1); have hl1 : Lim w1 := Lim.next (by repeat (first | assumption | refine Lim.alloc ?_ _ | refine Lim.setCell ?_ (by first | (simp; done) | (simp; omega) | omega) _ | refine Lim.drew ?_)) hb1; have hq1 : wA.heap.size < w1.heap.size := (by omega)) | (go_at_call 64; refine (areLines_any r A cap ls _ (by repeat (first | assumption | refine Lim.alloc ?_ _ | refine Lim.setCell ?_ (by first | (simp; done) | (simp; omega) | omega) _ | refine Lim.drew ?_)) (hls.to (by (repeat (first | exact Below.refl _ _ | refine Below.setCell ?_ (by first | omega | (simp; omega) | (simp; done)) _ | refine Below.alloc ?_ (by first | omega | (simp; omega) | (simp; done)) _ | refine Below.drew ?_ | refine below_drewN ?_ _ | refine Below.trans ?_ (Below.mono (by assumption) (by first | omega | (simp; omega) | (simp; done)))))))).mono ?_; rintro e w1 ⟨rfl, hb1⟩; obtain ⟨⟨hc1, hf1, hs1⟩, hz1⟩ := after hb1; (try simp only [World.size_alloc, World.size_setCell, World.size_drew] at hz1); have hl1 : Lim w1 := Lim.next (by repeat (first | assumption | refine Lim.alloc ?_ _ | refine Lim.setCell ?_ (by first | (simp; done) | (simp; omega) | omega) _ | refine Lim.drew ?_)) hb1; have hq1 : wA.heap.size < w1.heap.size := (by omega)) | (go_at_call 69; refine (cheapest_is hco A cap _ (RackAt.to hr (by (repeat (first | exact Below.refl _ _ | refine Below.setCell ?_ (by first | omega | (simp; omega) | (simp; done)) _ | refine Below.alloc ?_ (by first | omega | (simp; omega) | (simp; done)) _ | refine Below.drew ?_ | refine below_drewN ?_ _ | refine Below.trans ?_ (Below.mono (by assumption) (by first | omega | (simp; omega) | (simp; done))))))) hn4 (hls.to (by (repeat (first | exact Below.refl _ _ | refine Below.setCell ?_ (by first | omega | (simp; omega) | (simp; done)) _ | refine Below.alloc ?_ (by first | omega | (simp; omega) | (simp; done)) _ | refine Below.drew ?_ | refine below_drewN ?_ _ | refine Below.trans ?_ (Below.mono (by assumption) (by first | omega | (simp; omega) | (simp; done))))))) hln HLV hd1 hd2 hd3).mono ?_; rintro e wb ⟨rfl, hbb⟩; have hzb := hbb.size))
    go_ret3
    refine ⟨by rw [E.out.1, E.out.2.1, E.out.2.2]; rfl, ?_⟩
    (repeat (first | exact Below.refl _ _ | refine Below.setCell ?_ (by first | omega | (simp; omega) | (simp; done)) _ | refine Below.alloc ?_ (by first | omega | (simp; omega) | (simp; done)) _ | refine Below.drew ?_ | refine below_drewN ?_ _ | refine Below.trans ?_ (Below.mono (by assumption) (by first | omega | (simp; omega) | (simp; done)))))
end Go.Proofs.YtpcajmkmmkmekaaGreatDoor

