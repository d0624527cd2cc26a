/- Contracts of quotes. -/
import Derived.Test.YtpcajmkmmkmekaaGreatDoorGi
import Derived.Deep.RegionHeld3
import Derived.Deep.AppendLies
set_option linter.unusedVariables false
set_option linter.unusedSimpArgs false
namespace Go.Proofs.YtpcajmkmmkmekaaGreatDoor
open Go Go.RowKit
set_option maxHeartbeats 3200000
theorem offersOn_new (r : Rack) (a b : Int) (it : Item) (w : World) (h : RackAt w w.heap.size r) (hn4 : r.issues.length ≤ 4) (hc : 0 ≤ it.colour ∧ it.colour ≤ 3) :
    Calls Tryz.prog 57 #[r.val, .agg #[vi a, vi b], it.val] w fun e w' => ∃ A cap, e = .returned (.slice A (offersOn r a b it).length cap) ∧ RowsAt w' w'.heap.size 5 A cap ((offersOn r a b it).map offC) ∧ (0 < (offersOn r a b it).length → ∃ g off, A = some ⟨g, off, none⟩ ∧ w.heap.size ≤ g) ∧ Below w.heap.size w w' := by
  refine (offers_any r a b it w h hn4 hc.1 hc.2).mono ?_
  rintro e w' ⟨v, rfl, ⟨A, c, rfl, h1, h2, h3, h4⟩, h5⟩
  refine ⟨A, c, by rw [List.length_map]; rfl, ⟨h1, h2, h3⟩, ?_, h5⟩
  rw [List.length_map] at h4
  exact h4
def Apart (A : Option Addr) (n g : Nat) : Prop := 0 < n → ∃ b off, A = some ⟨b, off, none⟩ ∧ b ≠ g
theorem RowsAt.apart {w w' : World} {B sz cap g : Nat} {A : Option Addr} {m : List (List Value)} (h : RowsAt w B sz A cap m) (ha : Apart A m.length g) (hk : ∀ p : Addr, p.block < B → p.block ≠ g → w'.cell? p = w.cell? p) : RowsAt w' B sz A cap m := by
  refine ⟨h.len, h.cap, fun hl => ?_⟩
  obtain ⟨b, off, hA, hb, hc⟩ := h.row hl
  obtain ⟨b', off', hA', hne⟩ := ha hl
  rw [hA] at hA'
  obtain ⟨rfl, rfl⟩ : b = b' ∧ off = off' := by simpa using hA'
  exact ⟨b, off, hA, hb, fun i r hr j u hj hu => (hk _ hb hne).trans (hc i r hr j u hj hu)⟩
theorem Apart.of_row {w : World} {B sz cap : Nat} {A : Option Addr} {m : List (List Value)} (h : RowsAt w B sz A cap m) {g : Nat} (hg : B ≤ g) : Apart A m.length g := fun hl => by
  obtain ⟨b, off, hA, hb, _⟩ := h.row hl
  exact ⟨b, off, hA, by omega⟩
theorem wrap_id {n : Int} (h0 : -9223372036854775808 ≤ n) (h1 : n ≤ 9223372036854775807) : IntKind.wrap .i64 n = n := IntWalk.i64_in n ⟨h0, h1⟩
theorem paid_id {n : Int} (h0 : 1 ≤ n) (h1 : n ≤ 1000) : IntKind.wrap .i64 (n - IntKind.wrap .i64 (n.tdiv 12)) = n - n.tdiv 12 := by
  have e : n.tdiv 12 = n / 12 := Int.tdiv_eq_ediv_of_nonneg (by omega)
  rw [e, wrap_id (n := n / 12) (by omega) (by omega), wrap_id (by omega) (by omega)]
theorem info_quote : (Tryz.prog.info? 138).map (fun i => (i.zero, i.size, i.bytes)) = some (some (.agg #[.slice none 0 0, vi 0]), 2, 32) := by kernel_rfl
def quoteOf (r : Rack) (a b : Int) (l : Line) : List (Issue × Int) × Int := (offersOn r a b l.item, l.many - l.many.tdiv 12)
def Quote.key (q : Quote) : List (Issue × Int) × Int := (q.offs, q.paid)
set_option maxRecDepth 100000 in
theorem quotes_any (r : Rack) (a b : Int) (A : Option Addr) (cap : Nat) (ls : List Line) (w : World) (h : RackAt w w.heap.size r) (hn4 : r.issues.length ≤ 4) (hls : LinesAt w w.heap.size A cap ls) (hln : ls.length ≤ 20) (hlv : ∀ l, l ∈ ls → (0 ≤ l.item.colour ∧ l.item.colour ≤ 3) ∧ 1 ≤ l.many ∧ l.many ≤ 1000) :
    Calls Tryz.prog 66 #[r.val, .agg #[vi a, vi b], .slice A ls.length cap] w fun e w' => ∃ A' cap' qs, e = .returned (.slice A' ls.length cap') ∧ qs.length = ls.length ∧ QuotesAt w' w'.heap.size A' cap' qs ∧ qs.map Quote.key = ls.map (quoteOf r a b) ∧ Below w.heap.size w w' := by
  obtain ⟨i0, hi, hy0, hy1, hy2⟩ := info_parts info_quote
  have hcap := hls.cap
  have hlen := hls.len
  go_enter Tryz.func66, Tryz.ntmps66
  go_wp2_with (at_make; go_loud (refine wpList_make_own _ rfl _ _ _ rfl (w.heap.size + 2) 138 i0 _ 2 Tryz.underlying106 hi hy0 hy1 .i64 .i64 (ls.length : Int) ls.length rfl rfl rfl (by rw [hy2]; omega) (by unfold maxLen; omega) (by simp) ?_; intro wb hown hgrow))
  have HB0 : Below w.heap.size w wb := Below.grown (by (repeat (first | exact Below.refl _ _ | refine Below.setCell ?_ (by first | omega | (simp; omega) | (simp; done)) _ | refine Below.alloc ?_ (by first | omega | (simp; omega) | (simp; done)) _ | refine Below.drew ?_ | refine below_drewN ?_ _ | refine Below.trans ?_ (Below.mono (by assumption) (by first | omega | (simp; omega) | (simp; done)))))) hgrow (by simp; omega) (fun j e => by cases e)
  have hsb := hgrow.size
  simp only [World.size_alloc] at hown hsb
  have R0 : wb.cell? ⟨w.heap.size, 0, none⟩ = some (vi r.goods) := (World.cell?_of_block (hgrow.block w.heap.size (by simp; omega) (by simp))).trans (by simp [go_sem])
  have R1 : wb.cell? ⟨w.heap.size, 1, none⟩ = some r.slice := (World.cell?_of_block (hgrow.block w.heap.size (by simp; omega) (by simp))).trans (by simp [go_sem])
  have D0 : wb.cell? ⟨w.heap.size + 1, 0, none⟩ = some (vi a) := (World.cell?_of_block (hgrow.block (w.heap.size + 1) (by simp) (by simp))).trans (by simp [go_sem])
  have D1 : wb.cell? ⟨w.heap.size + 1, 1, none⟩ = some (vi b) := (World.cell?_of_block (hgrow.block (w.heap.size + 1) (by simp) (by simp))).trans (by simp [go_sem])
  clear hgrow
  go_loopw [7, 15] (fun v i wr => ∃ (k : Nat) (qs : List Quote) (g cp : Nat), k ≤ ls.length ∧ i = .int .i64 k ∧ v = .slice (some ⟨g, 0, none⟩) k cp ∧ Below (w.heap.size + 2) wb wr ∧ wr.ownsRow (w.heap.size + 2) 138 2 v k (qs.map Quote.cells).flatten ∧ qs.length = k ∧
      Hid (qs.map Quote.key = (ls.take k).map (quoteOf r a b)) ∧ Hid (∀ q, q ∈ qs → RowsAt wr wr.heap.size 5 q.ad q.cap (q.offs.map offC) ∧ Apart q.ad q.offs.length g)) (fun _ i _ => ls.length - (intOf i).toNat)
  case atStart => exact ⟨0, [], _, _, Nat.zero_le _, rfl, rfl, Below.refl _ _, hown, rfl, by simp [Hid], by simp [Hid]⟩
  case round =>
    obtain ⟨k, qs, g, cp, hk, rfl, rfl, hB, hownr, hql, hkey, heach⟩ := hrel
    have hbs := hB.size
    have hgl := hownr.lt g rfl
    by_cases hlt : k < ls.length
    · obtain ⟨x, hx⟩ : ∃ x, ls[k]? = some x := ⟨_, List.getElem?_eq_getElem hlt⟩
      have hBw : Below w.heap.size w wr := HB0.trans (hB.mono (by omega))
      have hbw2 := hBw.size
      obtain ⟨⟨hx1, hx2⟩, hx3, hx4⟩ := hlv x (List.mem_of_getElem? hx)
      have Hx := Lib.hid hx
      obtain ⟨⟨ig, is, ic⟩, many⟩ := x
      obtain ⟨bb, off, rfl, hb, c0, c1, c2, c3⟩ := row4 (hls.to hBw).row hx rfl
      have r0 := (hB.cell (p := ⟨w.heap.size, 0, none⟩) (by first | omega | (simp; omega) | (simp; done))).trans R0
      have r1 := (hB.cell (p := ⟨w.heap.size, 1, none⟩) (by first | omega | (simp; omega) | (simp; done))).trans R1
      have d0 := (hB.cell (p := ⟨w.heap.size + 1, 0, none⟩) (by simp)).trans D0
      have d1 := (hB.cell (p := ⟨w.heap.size + 1, 1, none⟩) (by simp)).trans D1
      clear hx
      have z0 : w.heap.size < wr.heap.size := by omega
      have z1 : w.heap.size + 1 < wr.heap.size := by omega
      go_wp2_with fail
      have n0 : ¬ (w.heap.size = wr.heap.size) := by omega
      have n1 : ¬ (w.heap.size + 1 = wr.heap.size) := by omega
      have hml : k ≤ maxLen := by unfold maxLen; omega
      go_region_held3 (fun w' => w'.cell? ⟨w.heap.size, 0, none⟩ = some (vi r.goods) ∧ w'.cell? ⟨w.heap.size, 1, none⟩ = some r.slice ∧ w'.cell? ⟨w.heap.size + 1, 0, none⟩ = some (vi a) ∧ w'.cell? ⟨w.heap.size + 1, 1, none⟩ = some (vi b) ∧
          w'.cell? ⟨wr.heap.size, 0, none⟩ = some (vi ig) ∧ w'.cell? ⟨wr.heap.size, 1, none⟩ = some (vi is) ∧ w'.cell? ⟨wr.heap.size, 2, none⟩ = some (vi ic) ∧ w'.cell? ⟨wr.heap.size, 3, none⟩ = some (vi many))
        (first
          | go_keep
          | (go_split_ands
             refine ⟨?_, ?_, ?_, ?_, ?_, ?_, ?_, ?_⟩
             all_goals first
               | ((rw [hgrow.cell_far _ (by first | omega | (simp; omega) | (simp; done)) (by simp [Value.ownBlock]; omega)]); assumption)
               | ((rw [hbq.cell (by first | omega | (simp; omega) | (simp; done))]); assumption)))
        (first
          | (go_at_call 57; refine (offersOn_new r a b ⟨ig, is, ic⟩ _ (RackAt.to h (by (repeat (first | exact Below.refl _ _ | refine Below.setCell ?_ (by first | omega | (simp; omega) | (simp; done)) _ | refine Below.alloc ?_ (by first | omega | (simp; omega) | (simp; done)) _ | refine Below.drew ?_ | refine below_drewN ?_ _ | refine Below.trans ?_ (Below.mono (by assumption) (by first | omega | (simp; omega) | (simp; done))))))) hn4 ⟨hx1, hx2⟩).mono ?_; rintro e wq ⟨qA, qc, rfl, hqr, hqn, hbq⟩; have hownq := own_keep ((hownr.alloc _).drew) hbq; have hzq := hbq.size; (try simp only [World.size_drew, World.size_alloc] at hzq))
          | (refine step_append_lies _ (by rfl) _ _ _ (by rfl) (w.heap.size + 2) 138 i0 _ 2 32 Tryz.underlying106 hi hy0 hy1 hy2 rfl (by omega) _ k _ (by rfl) (hownq.alloc _) ⟨wq.heap.size, 0, none⟩ 1 1 [.slice qA (offersOn r a b ⟨ig, is, ic⟩).length qc, vi (IntKind.wrap .i64 (many - IntKind.wrap .i64 (many.tdiv 12)))] (by rfl) (by rfl) (cells_new wq _ _) (by simp [Value.oneCell']) (by omega) (by unfold maxLen; omega) (by omega) (by simp; omega) (wq.heap.size + 1) (by simp) ?_; intro gg cap5 w5 hown5 hgrow hat hlt5))
      rw [paid_id hx3 hx4] at hown5
      have HBq : Below wr.heap.size wr (wq.alloc (.cells #[.slice qA (offersOn r a b ⟨ig, is, ic⟩).length qc, vi (IntKind.wrap .i64 (many - IntKind.wrap .i64 (many.tdiv 12)))] 138)) := by (repeat (first | exact Below.refl _ _ | refine Below.setCell ?_ (by first | omega | (simp; omega) | (simp; done)) _ | refine Below.alloc ?_ (by first | omega | (simp; omega) | (simp; done)) _ | refine Below.drew ?_ | refine below_drewN ?_ _ | refine Below.trans ?_ (Below.mono (by assumption) (by first | omega | (simp; omega) | (simp; done)))))
      have hsz5 := hgrow.size
      simp only [World.size_alloc] at hsz5
      have far : ∀ p : Addr, p.block < wq.heap.size → p.block ≠ g → w5.cell? p = wq.cell? p := fun p hp hne =>
        (hgrow.cell_far p (by simp; omega) (by simp [Value.ownBlock]; omega)).trans (((Below.refl _ wq).alloc (Nat.le_refl _) _).cell hp)
      have far0 : ∀ p : Addr, p.block < wr.heap.size → p.block ≠ g → w5.cell? p = wr.cell? p := fun p hp hne =>
        (hgrow.cell_far p (by simp; omega) (by simp [Value.ownBlock]; omega)).trans (HBq.cell hp)
      have HB5 : Below (w.heap.size + 2) wb w5 := Below.grown (hB.trans (HBq.mono (by omega))) hgrow (by simp; omega) (fun j e => by simp [Value.ownBlock] at e; omega)
      have hgg : g = gg ∨ gg = wq.heap.size + 1 := by simpa [Value.ownBlock] using hat
      have KEY : Hid ((qs ++ [(⟨qA, qc, offersOn r a b ⟨ig, is, ic⟩, many - many.tdiv 12⟩ : Quote)]).map Quote.key = (ls.take (k + 1)).map (quoteOf r a b)) := by
        obtain ⟨hk', hx'⟩ := List.getElem?_eq_some_iff.1 Hx.out
        unfold Hid
        rw [List.take_succ_eq_append_getElem hk', List.map_append, List.map_append, hkey.out, hx']
        rfl
      have EACH : Hid (∀ q, q ∈ qs ++ [(⟨qA, qc, offersOn r a b ⟨ig, is, ic⟩, many - many.tdiv 12⟩ : Quote)] → RowsAt w5 w5.heap.size 5 q.ad q.cap (q.offs.map offC) ∧ Apart q.ad q.offs.length gg) := by
        intro q hq
        rcases List.mem_append.1 hq with h1 | h1
        · obtain ⟨e1, e2⟩ := heach.out q h1
          refine ⟨(e1.apart (by rw [List.length_map]; exact e2) far0).more (by omega), ?_⟩
          rcases hgg with rfl | rfl
          · exact e2
          · have := Apart.of_row e1 (g := wq.heap.size + 1) (by omega)
            rwa [List.length_map] at this
        · obtain rfl : q = (⟨qA, qc, offersOn r a b ⟨ig, is, ic⟩, many - many.tdiv 12⟩ : Quote) := by simpa using h1
          have ha : Apart qA (offersOn r a b ⟨ig, is, ic⟩).length g := fun hl => by
            obtain ⟨b', o', e1, e2⟩ := hqn hl
            simp only [World.size_drew, World.size_alloc] at e2
            exact ⟨b', o', e1, by omega⟩
          refine ⟨(hqr.apart (by rw [List.length_map]; exact ha) far).more (by omega), ?_⟩
          rcases hgg with rfl | rfl
          · exact ha
          · have := Apart.of_row hqr (g := wq.heap.size + 1) (by omega)
            rwa [List.length_map] at this
      have OWN : Hid (w5.ownsRow (w.heap.size + 2) 138 2 (.slice (some ⟨gg, 0, none⟩) (k + 1) cap5) (k + 1) ((qs ++ [(⟨qA, qc, offersOn r a b ⟨ig, is, ic⟩, many - many.tdiv 12⟩ : Quote)]).map Quote.cells).flatten) := by
        unfold Hid
        simpa [Quote.cells] using hown5
      clear hown5 hat far far0 hgrow hqr hqn hbq
      go_wp2
      go_roundw
      case rel => exact ⟨k + 1, _, gg, cap5, by omega, by go_num, rfl, HB5, OWN.out, by simp [hql], KEY, EACH⟩
      case measure => simp [intOf]; omega
    · obtain rfl : k = ls.length := by omega
      have hKEY : Hid (qs.map Quote.key = ls.map (quoteOf r a b)) := by have := hkey.out; rwa [List.take_length] at this
      have hcp : (ls.length : Int) ≤ cp ∧ ls.length ≤ cp ∧ cp ≤ maxLen := by
        rcases hownr.2 with ⟨e, _⟩ | ⟨g', c', cur, e, _, _, h1, h2, _⟩
        · cases e
        · obtain ⟨_, rfl⟩ : _ ∧ cp = c' := by simpa using e
          exact ⟨by omega, h1, h2⟩
      obtain ⟨hc1, hc2, hc3⟩ := hcp
      go_wp2
      go_ret
      refine ⟨some ⟨g, 0, none⟩, ls.length, qs, rfl, hql, ⟨by omega, by omega, ?_, fun q hq => (heach.out q hq).1⟩, hKEY.out, HB0.trans (hB.mono (by omega))⟩
      exact row_of_own (by intro r hr; obtain ⟨p, _, rfl⟩ := List.mem_map.1 hr; rfl) hownr
end Go.Proofs.YtpcajmkmmkmekaaGreatDoor

/- Contracts of Sum. -/
namespace Go.Proofs.YtpcajmkmmkmekaaGreatDoor
open Go Go.RowKit
set_option maxHeartbeats 3200000
def sumKS (d : Int) (acc : Option Int) (q : List (Issue × Int) × Int) : Option Int := match acc, priceF q.1 d with | some s, some p => some (wrap64 (s + wrap64 (p * q.2))) | _, _ => none
def sumK (l : List (List (Issue × Int) × Int)) (d : Int) : Option Int := l.foldl (sumKS d) (some 0)
theorem sumF_key (l : List Quote) (d : Int) : sumF l d = sumK (l.map Quote.key) d := by
  unfold sumF sumK
  rw [List.foldl_map]
  rfl
theorem sumOn_is {d : Int} {l : List Quote} {m : List (List (Issue × Int) × Int)} {o : Option Int} (hk : l.map Quote.key = m) (ho : sumK m d = o) (A : Option Addr) (cap n : Nat) (hn : l.length = n) (w : World) (h : QuotesAt w w.heap.size A cap l) :
    Calls Tryz.prog 65 #[.slice A n cap, vi d] w fun e w' => e = .returned (maybeV o) ∧ Below w.heap.size w w' := by
  subst hn
  have := sumOn_any d A cap l w h
  rwa [sumF_key, hk, ho] at this
theorem lines_ok {r : Rack} {ls : List Line} (h : linesB r ls = true) : ls.length ≤ 20 ∧ ∀ l, l ∈ ls → (0 ≤ l.item.colour ∧ l.item.colour ≤ 3) ∧ 1 ≤ l.many ∧ l.many ≤ 1000 := by
  unfold linesB at h
  rw [Bool.and_eq_true] at h
  refine ⟨?_, fun l hl => ?_⟩
  · have := h.1
    simp [limB, limLo, limHi] at this
    omega
  · have h2 := List.all_eq_true.1 h.2 l hl
    unfold lineB at h2
    rw [Bool.and_eq_true] at h2
    refine ⟨item_colour h2.1, ?_⟩
    have := h2.2
    simpa [limB, limLo, limHi] using this
def sumO (r : Rack) (d : Int) (ls : List Line) : Option Int := sumK (ls.map (quoteOf r d d)) d
def sumAsk (r : Rack) (d : Int) (ls : List Line) : Bool := limB 3 d && linesB r ls
def sumErr (r : Rack) (d : Int) (ls : List Line) : Int := if validB r then if sumAsk r d ls then if (sumO r d ls).isSome then 0 else 4 else 11 else 10
def sumV (r : Rack) (d : Int) (ls : List Line) : Int := if validB r && sumAsk r d ls then (sumO r d ls).getD 0 else 0
theorem Sum_any (r : Rack) (d : Int) (A : Option Addr) (cap : Nat) (ls : List Line) (w : World) (hl : Lim w) (hr : RackAt w w.heap.size r) (hls : LinesAt w w.heap.size A cap ls) :
    Calls Tryz.prog 23 #[r.val, vi d, .slice A ls.length cap] w fun e w' => e = .returned (.tuple #[vi (sumV r d ls), vi (sumErr r d ls)]) ∧ Below w.heap.size w w' := by
  rcases hv : validB r with _ | _
  · have E : Hid (sumErr r d ls = 10 ∧ sumV r d ls = 0) := by simp [sumErr, sumV, hv, Hid]
    go_enter Tryz.func23, Tryz.ntmps23
    go_wp2_with (go_at_call 9; refine (check_bad r _ (by repeat (first | assumption | refine Lim.alloc ?_ _ | refine Lim.setCell ?_ (by first | (simp; done) | (simp; omega) | omega) _ | refine Lim.drew ?_)) (hr.to (by (repeat (first | exact Below.refl _ _ | refine Below.setCell ?_ (by first | omega | (simp; omega) | (simp; done)) _ | refine Below.alloc ?_ (by first | omega | (simp; omega) | (simp; done)) _ | refine Below.drew ?_ | refine below_drewN ?_ _ | refine Below.trans ?_ (Below.mono (by assumption) (by first | omega | (simp; omega) | (simp; done))))))) hv).mono ?_; rintro e w1 ⟨rfl, hb1⟩; obtain ⟨⟨hc1, hf1, hs1⟩, hz1⟩ := after hb1; (try simp only [World.size_alloc, World.size_setCell, World.size_drew] at hz1))
    go_ret2
    refine ⟨by rw [E.out.1, E.out.2]; rfl, ?_⟩
    (repeat (first | exact Below.refl _ _ | refine Below.setCell ?_ (by first | omega | (simp; omega) | (simp; done)) _ | refine Below.alloc ?_ (by first | omega | (simp; omega) | (simp; done)) _ | refine Below.drew ?_ | refine below_drewN ?_ _ | refine Below.trans ?_ (Below.mono (by assumption) (by first | omega | (simp; omega) | (simp; done)))))
  rcases h1 : limB 3 d with _ | _
  · have E : Hid (sumErr r d ls = 11 ∧ sumV r d ls = 0) := by simp [sumErr, sumV, sumAsk, hv, h1, Hid]
    go_enter Tryz.func23, Tryz.ntmps23
    go_wp2_with fail
    refine (check_ok r _ (by repeat (first | assumption | refine Lim.alloc ?_ _ | refine Lim.setCell ?_ (by first | (simp; done) | (simp; omega) | omega) _ | refine Lim.drew ?_)) (hr.to (by (repeat (first | exact Below.refl _ _ | refine Below.setCell ?_ (by first | omega | (simp; omega) | (simp; done)) _ | refine Below.alloc ?_ (by first | omega | (simp; omega) | (simp; done)) _ | refine Below.drew ?_ | refine below_drewN ?_ _ | refine Below.trans ?_ (Below.mono (by assumption) (by first | omega | (simp; omega) | (simp; done))))))) hv).mono ?_
    rintro e wA ⟨rfl, hbA⟩
    have zA : w.heap.size < wA.heap.size := by have := hbA.size; simp at this; omega
    have zA2 : w.heap.size < wA.heap.size + 1 := by omega
    have a0 := (hbA.cell (p := ⟨w.heap.size, 0, none⟩) (by first | omega | (simp; omega) | (simp; done))).trans (by simp [go_sem] : _ = some (vi r.goods))
    have a1 := (hbA.cell (p := ⟨w.heap.size, 1, none⟩) (by first | omega | (simp; omega) | (simp; done))).trans (by simp [go_sem] : _ = some r.slice)
    have HA : Below w.heap.size w wA := by (repeat (first | exact Below.refl _ _ | refine Below.setCell ?_ (by first | omega | (simp; omega) | (simp; done)) _ | refine Below.alloc ?_ (by first | omega | (simp; omega) | (simp; done)) _ | refine Below.drew ?_ | refine below_drewN ?_ _ | refine Below.trans ?_ (Below.mono (by assumption) (by first | omega | (simp; omega) | (simp; done)))))
    have hlA : Lim wA := hl.next HA
    have hw0 := HA.size
    clear hbA
    go_wp2_with (first | (go_at_call 28; refine (within_any _ _ _ (by omega) (by omega) (by repeat (first | assumption | refine Lim.alloc ?_ _ | refine Lim.setCell ?_ (by first | (simp; done) | (simp; omega) | omega) _ | refine Lim.drew ?_))).mono ?_; rintro e w1 ⟨rfl, hb1⟩; obtain ⟨⟨hc1, hf1, hs1⟩, hz1⟩ := after hb1; (try simp only [World.size_alloc, World.size_setCell, World.size_drew] at hz1); have hl1 : Lim w1 := Lim.next (by repeat (first | assumption | refine Lim.alloc ?_ _ | refine Lim.setCell ?_ (by first | (simp; done) | (simp; omega) | omega) _ | refine Lim.drew ?_)) hb1; have hq1 : wA.heap.size < w1.heap.size := (by omega)) | (go_at_call 64; refine (areLines_any r A cap ls _ (by repeat (first | assumption | refine Lim.alloc ?_ _ | refine Lim.setCell ?_ (by first | (simp; done) | (simp; omega) | omega) _ | refine Lim.drew ?_)) (hls.to (by (repeat (first | exact Below.refl _ _ | refine Below.setCell ?_ (by first | omega | (simp; omega) | (simp; done)) _ | refine Below.alloc ?_ (by first | omega | (simp; omega) | (simp; done)) _ | refine Below.drew ?_ | refine below_drewN ?_ _ | refine Below.trans ?_ (Below.mono (by assumption) (by first | omega | (simp; omega) | (simp; done)))))))).mono ?_; rintro e w1 ⟨rfl, hb1⟩; obtain ⟨⟨hc1, hf1, hs1⟩, hz1⟩ := after hb1; (try simp only [World.size_alloc, World.size_setCell, World.size_drew] at hz1); have hl1 : Lim w1 := Lim.next (by repeat (first | assumption | refine Lim.alloc ?_ _ | refine Lim.setCell ?_ (by first | (simp; done) | (simp; omega) | omega) _ | refine Lim.drew ?_)) hb1; have hq1 : wA.heap.size < w1.heap.size := (by omega)))
    go_ret2
    refine ⟨by rw [E.out.1, E.out.2]; rfl, ?_⟩
    (repeat (first | exact Below.refl _ _ | refine Below.setCell ?_ (by first | omega | (simp; omega) | (simp; done)) _ | refine Below.alloc ?_ (by first | omega | (simp; omega) | (simp; done)) _ | refine Below.drew ?_ | refine below_drewN ?_ _ | refine Below.trans ?_ (Below.mono (by assumption) (by first | omega | (simp; omega) | (simp; done)))))
  rcases h2 : linesB r ls with _ | _
  · have E : Hid (sumErr r d ls = 11 ∧ sumV r d ls = 0) := by simp [sumErr, sumV, sumAsk, hv, h1, h2, Hid]
    go_enter Tryz.func23, Tryz.ntmps23
    go_wp2_with fail
    refine (check_ok r _ (by repeat (first | assumption | refine Lim.alloc ?_ _ | refine Lim.setCell ?_ (by first | (simp; done) | (simp; omega) | omega) _ | refine Lim.drew ?_)) (hr.to (by (repeat (first | exact Below.refl _ _ | refine Below.setCell ?_ (by first | omega | (simp; omega) | (simp; done)) _ | refine Below.alloc ?_ (by first | omega | (simp; omega) | (simp; done)) _ | refine Below.drew ?_ | refine below_drewN ?_ _ | refine Below.trans ?_ (Below.mono (by assumption) (by first | omega | (simp; omega) | (simp; done))))))) hv).mono ?_
    rintro e wA ⟨rfl, hbA⟩
    have zA : w.heap.size < wA.heap.size := by have := hbA.size; simp at this; omega
    have zA2 : w.heap.size < wA.heap.size + 1 := by omega
    have a0 := (hbA.cell (p := ⟨w.heap.size, 0, none⟩) (by first | omega | (simp; omega) | (simp; done))).trans (by simp [go_sem] : _ = some (vi r.goods))
    have a1 := (hbA.cell (p := ⟨w.heap.size, 1, none⟩) (by first | omega | (simp; omega) | (simp; done))).trans (by simp [go_sem] : _ = some r.slice)
    have HA : Below w.heap.size w wA := by (repeat (first | exact Below.refl _ _ | refine Below.setCell ?_ (by first | omega | (simp; omega) | (simp; done)) _ | refine Below.alloc ?_ (by first | omega | (simp; omega) | (simp; done)) _ | refine Below.drew ?_ | refine below_drewN ?_ _ | refine Below.trans ?_ (Below.mono (by assumption) (by first | omega | (simp; omega) | (simp; done)))))
    have hlA : Lim wA := hl.next HA
    have hw0 := HA.size
    clear hbA
    go_wp2_with (first | (go_at_call 28; refine (within_any _ _ _ (by omega) (by omega) (by repeat (first | assumption | refine Lim.alloc ?_ _ | refine Lim.setCell ?_ (by first | (simp; done) | (simp; omega) | omega) _ | refine Lim.drew ?_))).mono ?_; rintro e w1 ⟨rfl, hb1⟩; obtain ⟨⟨hc1, hf1, hs1⟩, hz1⟩ := after hb1; (try simp only [World.size_alloc, World.size_setCell, World.size_drew] at hz1); have hl1 : Lim w1 := Lim.next (by repeat (first | assumption | refine Lim.alloc ?_ _ | refine Lim.setCell ?_ (by first | (simp; done) | (simp; omega) | omega) _ | refine Lim.drew ?_)) hb1; have hq1 : wA.heap.size < w1.heap.size := (by omega)) | (go_at_call 64; refine (areLines_any r A cap ls _ (by repeat (first | assumption | refine Lim.alloc ?_ _ | refine Lim.setCell ?_ (by first | (simp; done) | (simp; omega) | omega) _ | refine Lim.drew ?_)) (hls.to (by (repeat (first | exact Below.refl _ _ | refine Below.setCell ?_ (by first | omega | (simp; omega) | (simp; done)) _ | refine Below.alloc ?_ (by first | omega | (simp; omega) | (simp; done)) _ | refine Below.drew ?_ | refine below_drewN ?_ _ | refine Below.trans ?_ (Below.mono (by assumption) (by first | omega | (simp; omega) | (simp; done)))))))).mono ?_; rintro e w1 ⟨rfl, hb1⟩; obtain ⟨⟨hc1, hf1, hs1⟩, hz1⟩ := after hb1; (try simp only [World.size_alloc, World.size_setCell, World.size_drew] at hz1); have hl1 : Lim w1 := Lim.next (by repeat (first | assumption | refine Lim.alloc ?_ _ | refine Lim.setCell ?_ (by first | (simp; done) | (simp; omega) | omega) _ | refine Lim.drew ?_)) hb1; have hq1 : wA.heap.size < w1.heap.size := (by omega)))
    go_ret2
    refine ⟨by rw [E.out.1, E.out.2]; rfl, ?_⟩
    (repeat (first | exact Below.refl _ _ | refine Below.setCell ?_ (by first | omega | (simp; omega) | (simp; done)) _ | refine Below.alloc ?_ (by first | omega | (simp; omega) | (simp; done)) _ | refine Below.drew ?_ | refine below_drewN ?_ _ | refine Below.trans ?_ (Below.mono (by assumption) (by first | omega | (simp; omega) | (simp; done)))))
  have hn4 := valid_four hv
  obtain ⟨hln, hlv⟩ := lines_ok h2
  have HLV := Lib.hid hlv
  clear hlv
  rcases hso : sumO r d ls with _ | sv
  · have E : Hid (sumErr r d ls = 4 ∧ sumV r d ls = 0) := by simp [sumErr, sumV, sumAsk, hv, h1, h2, hso, Hid]
    go_enter Tryz.func23, Tryz.ntmps23
    go_wp2_with fail
    refine (check_ok r _ (by repeat (first | assumption | refine Lim.alloc ?_ _ | refine Lim.setCell ?_ (by first | (simp; done) | (simp; omega) | omega) _ | refine Lim.drew ?_)) (hr.to (by (repeat (first | exact Below.refl _ _ | refine Below.setCell ?_ (by first | omega | (simp; omega) | (simp; done)) _ | refine Below.alloc ?_ (by first | omega | (simp; omega) | (simp; done)) _ | refine Below.drew ?_ | refine below_drewN ?_ _ | refine Below.trans ?_ (Below.mono (by assumption) (by first | omega | (simp; omega) | (simp; done))))))) hv).mono ?_
    rintro e wA ⟨rfl, hbA⟩
    have zA : w.heap.size < wA.heap.size := by have := hbA.size; simp at this; omega
    have zA2 : w.heap.size < wA.heap.size + 1 := by omega
    have a0 := (hbA.cell (p := ⟨w.heap.size, 0, none⟩) (by first | omega | (simp; omega) | (simp; done))).trans (by simp [go_sem] : _ = some (vi r.goods))
    have a1 := (hbA.cell (p := ⟨w.heap.size, 1, none⟩) (by first | omega | (simp; omega) | (simp; done))).trans (by simp [go_sem] : _ = some r.slice)
    have HA : Below w.heap.size w wA := by (repeat (first | exact Below.refl _ _ | refine Below.setCell ?_ (by first | omega | (simp; omega) | (simp; done)) _ | refine Below.alloc ?_ (by first | omega | (simp; omega) | (simp; done)) _ | refine Below.drew ?_ | refine below_drewN ?_ _ | refine Below.trans ?_ (Below.mono (by assumption) (by first | omega | (simp; omega) | (simp; done)))))
    have hlA : Lim wA := hl.next HA
    have hw0 := HA.size
    clear hbA
    go_wp2_with (first | (go_at_call 28; refine (within_any _ _ _ (by omega) (by omega) (by repeat (first | assumption | refine Lim.alloc ?_ _ | refine Lim.setCell ?_ (by first | (simp; done) | (simp; omega) | omega) _ | refine Lim.drew ?_))).mono ?_; rintro e w1 ⟨rfl, hb1⟩; obtain ⟨⟨hc1, hf1, hs1⟩, hz1⟩ := after hb1; (try simp only [World.size_alloc, World.size_setCell, World.size_drew] at hz1); have hl1 : Lim w1 := Lim.next (by repeat (first | assumption | refine Lim.alloc ?_ _ | refine Lim.setCell ?_ (by first | (simp; done) | (simp; omega) | omega) _ | refine Lim.drew ?_)) hb1; have hq1 : wA.heap.size < w1.heap.size := (by omega)) | (go_at_call 64; refine (areLines_any r A cap ls _ (by repeat (first | assumption | refine Lim.alloc ?_ _ | refine Lim.setCell ?_ (by first | (simp; done) | (simp; omega) | omega) _ | refine Lim.drew ?_)) (hls.to (by (repeat (first | exact Below.refl _ _ | refine Below.setCell ?_ (by first | omega | (simp; omega) | (simp; done)) _ | refine Below.alloc ?_ (by first | omega | (simp; omega) | (simp; done)) _ | refine Below.drew ?_ | refine below_drewN ?_ _ | refine Below.trans ?_ (Below.mono (by assumption) (by first | omega | (simp; omega) | (simp; done)))))))).mono ?_; rintro e w1 ⟨rfl, hb1⟩; obtain ⟨⟨hc1, hf1, hs1⟩, hz1⟩ := after hb1; (try simp only [World.size_alloc, World.size_setCell, World.size_drew] at hz1); have hl1 : Lim w1 := Lim.next (by repeat (first | assumption | refine Lim.alloc ?_ _ | refine Lim.setCell ?_ (by first | (simp; done) | (simp; omega) | omega) _ | refine Lim.drew ?_)) hb1; have hq1 : wA.heap.size < w1.heap.size := (by omega)))
    have HB2 : Below (wA.heap.size + 1) (wA.alloc (.cells #[vi r.goods, r.slice] 56)) w1 := by (repeat (first | exact Below.refl _ _ | refine Below.setCell ?_ (by first | omega | (simp; omega) | (simp; done)) _ | refine Below.alloc ?_ (by first | omega | (simp; omega) | (simp; done)) _ | refine Below.drew ?_ | refine below_drewN ?_ _ | refine Below.trans ?_ (Below.mono (by assumption) (by first | omega | (simp; omega) | (simp; done)))))
    have R0 := (HB2.cell (p := ⟨wA.heap.size, 0, none⟩) (by first | omega | (simp; omega) | (simp; done))).trans (by simp [go_sem] : _ = some (vi r.goods))
    have R1 := (HB2.cell (p := ⟨wA.heap.size, 1, none⟩) (by first | omega | (simp; omega) | (simp; done))).trans (by simp [go_sem] : _ = some r.slice)
    have HBw : Below w.heap.size w w1 := HA.trans (((Below.refl _ wA).alloc (Nat.le_refl _) _).trans (HB2.mono (by omega)) |>.mono (by omega))
    have hz1 : wA.heap.size < w1.heap.size := hq1
    have hz0 : w.heap.size ≤ w1.heap.size := by omega
    clear a0 a1 hc1 hf1 hb1
    go_region_held3 (fun w' => w'.cell? ⟨wA.heap.size, 0, none⟩ = some (vi r.goods) ∧ w'.cell? ⟨wA.heap.size, 1, none⟩ = some r.slice)
      (first
        | go_keep
        | (go_split_ands
           refine ⟨?_, ?_⟩
           all_goals first
             | ((rw [hba.cell (by first | omega | (simp; omega) | (simp; done))]); assumption)
             | ((rw [hbq.cell (by first | omega | (simp; omega) | (simp; done))]); assumption)
             | ((rw [hbc.cell (by first | omega | (simp; omega) | (simp; done))]); assumption)))
      (first
        | (go_at_call 58; refine (oneDay_any _ _).mono ?_; rintro e wa ⟨rfl, hba⟩; have hza := hba.size; (try simp only [World.size_drew] at hza))
        | (go_at_call 66; refine (quotes_any r d d A cap ls _ (RackAt.to hr (by (repeat (first | exact Below.refl _ _ | refine Below.setCell ?_ (by first | omega | (simp; omega) | (simp; done)) _ | refine Below.alloc ?_ (by first | omega | (simp; omega) | (simp; done)) _ | refine Below.drew ?_ | refine below_drewN ?_ _ | refine Below.trans ?_ (Below.mono (by assumption) (by first | omega | (simp; omega) | (simp; done))))))) hn4 (hls.to (by (repeat (first | exact Below.refl _ _ | refine Below.setCell ?_ (by first | omega | (simp; omega) | (simp; done)) _ | refine Below.alloc ?_ (by first | omega | (simp; omega) | (simp; done)) _ | refine Below.drew ?_ | refine below_drewN ?_ _ | refine Below.trans ?_ (Below.mono (by assumption) (by first | omega | (simp; omega) | (simp; done))))))) hln HLV.out).mono ?_; rintro e wq ⟨qA, qc, qs, rfl, hql, hqs, hqk, hbq⟩; have hzq := hbq.size)
        | (go_at_call 65; refine (sumOn_is hqk hso qA qc _ hql _ (hqs.to (by (repeat (first | exact Below.refl _ _ | refine Below.setCell ?_ (by first | omega | (simp; omega) | (simp; done)) _ | refine Below.alloc ?_ (by first | omega | (simp; omega) | (simp; done)) _ | refine Below.drew ?_ | refine below_drewN ?_ _ | refine Below.trans ?_ (Below.mono (by assumption) (by first | omega | (simp; omega) | (simp; done)))))))).mono ?_; rintro e wc ⟨rfl, hbc⟩; have hzc := hbc.size))
    all_goals go_wp2
    all_goals go_ret2
    all_goals refine ⟨by rw [E.out.1, E.out.2]; rfl, ?_⟩
    all_goals (repeat (first | exact Below.refl _ _ | refine Below.setCell ?_ (by first | omega | (simp; omega) | (simp; done)) _ | refine Below.alloc ?_ (by first | omega | (simp; omega) | (simp; done)) _ | refine Below.drew ?_ | refine below_drewN ?_ _ | refine Below.trans ?_ (Below.mono (by assumption) (by first | omega | (simp; omega) | (simp; done)))))
  · have E : Hid (sumErr r d ls = 0 ∧ sumV r d ls = sv) := by simp [sumErr, sumV, sumAsk, hv, h1, h2, hso, Hid]
    go_enter Tryz.func23, Tryz.ntmps23
    go_wp2_with fail
    refine (check_ok r _ (by repeat (first | assumption | refine Lim.alloc ?_ _ | refine Lim.setCell ?_ (by first | (simp; done) | (simp; omega) | omega) _ | refine Lim.drew ?_)) (hr.to (by (repeat (first | exact Below.refl _ _ | refine Below.setCell ?_ (by first | omega | (simp; omega) | (simp; done)) _ | refine Below.alloc ?_ (by first | omega | (simp; omega) | (simp; done)) _ | refine Below.drew ?_ | refine below_drewN ?_ _ | refine Below.trans ?_ (Below.mono (by assumption) (by first | omega | (simp; omega) | (simp; done))))))) hv).mono ?_
    rintro e wA ⟨rfl, hbA⟩
    have zA : w.heap.size < wA.heap.size := by have := hbA.size; simp at this; omega
    have zA2 : w.heap.size < wA.heap.size + 1 := by omega
    have a0 := (hbA.cell (p := ⟨w.heap.size, 0, none⟩) (by first | omega | (simp; omega) | (simp; done))).trans (by simp [go_sem] : _ = some (vi r.goods))
    have a1 := (hbA.cell (p := ⟨w.heap.size, 1, none⟩) (by first | omega | (simp; omega) | (simp; done))).trans (by simp [go_sem] : _ = some r.slice)
    have HA : Below w.heap.size w wA := by (repeat (first | exact Below.refl _ _ | refine Below.setCell ?_ (by first | omega | (simp; omega) | (simp; done)) _ | refine Below.alloc ?_ (by first | omega | (simp; omega) | (simp; done)) _ | refine Below.drew ?_ | refine below_drewN ?_ _ | refine Below.trans ?_ (Below.mono (by assumption) (by first | omega | (simp; omega) | (simp; done)))))
    have hlA : Lim wA := hl.next HA
    have hw0 := HA.size
    clear hbA
    go_wp2_with (first | (go_at_call 28; refine (within_any _ _ _ (by omega) (by omega) (by repeat (first | assumption | refine Lim.alloc ?_ _ | refine Lim.setCell ?_ (by first | (simp; done) | (simp; omega) | omega) _ | refine Lim.drew ?_))).mono ?_; rintro e w1 ⟨rfl, hb1⟩; obtain ⟨⟨hc1, hf1, hs1⟩, hz1⟩ := after hb1; (try simp only [World.size_alloc, World.size_setCell, World.size_drew] at hz1); have hl1 : Lim w1 := Lim.next (by repeat (first | assumption | refine Lim.alloc ?_ _ | refine Lim.setCell ?_ (by first | (simp; done) | (simp; omega) | omega) _ | refine Lim.drew ?_)) hb1; have hq1 : wA.heap.size < w1.heap.size := (by omega)) | (go_at_call 64; refine (areLines_any r A cap ls _ (by repeat (first | assumption | refine Lim.alloc ?_ _ | refine Lim.setCell ?_ (by first | (simp; done) | (simp; omega) | omega) _ | refine Lim.drew ?_)) (hls.to (by (repeat (first | exact Below.refl _ _ | refine Below.setCell ?_ (by first | omega | (simp; omega) | (simp; done)) _ | refine Below.alloc ?_ (by first | omega | (simp; omega) | (simp; done)) _ | refine Below.drew ?_ | refine below_drewN ?_ _ | refine Below.trans ?_ (Below.mono (by assumption) (by first | omega | (simp; omega) | (simp; done)))))))).mono ?_; rintro e w1 ⟨rfl, hb1⟩; obtain ⟨⟨hc1, hf1, hs1⟩, hz1⟩ := after hb1; (try simp only [World.size_alloc, World.size_setCell, World.size_drew] at hz1); have hl1 : Lim w1 := Lim.next (by repeat (first | assumption | refine Lim.alloc ?_ _ | refine Lim.setCell ?_ (by first | (simp; done) | (simp; omega) | omega) _ | refine Lim.drew ?_)) hb1; have hq1 : wA.heap.size < w1.heap.size := (by omega)))
    have HB2 : Below (wA.heap.size + 1) (wA.alloc (.cells #[vi r.goods, r.slice] 56)) w1 := by (repeat (first | exact Below.refl _ _ | refine Below.setCell ?_ (by first | omega | (simp; omega) | (simp; done)) _ | refine Below.alloc ?_ (by first | omega | (simp; omega) | (simp; done)) _ | refine Below.drew ?_ | refine below_drewN ?_ _ | refine Below.trans ?_ (Below.mono (by assumption) (by first | omega | (simp; omega) | (simp; done)))))
    have R0 := (HB2.cell (p := ⟨wA.heap.size, 0, none⟩) (by first | omega | (simp; omega) | (simp; done))).trans (by simp [go_sem] : _ = some (vi r.goods))
    have R1 := (HB2.cell (p := ⟨wA.heap.size, 1, none⟩) (by first | omega | (simp; omega) | (simp; done))).trans (by simp [go_sem] : _ = some r.slice)
    have HBw : Below w.heap.size w w1 := HA.trans (((Below.refl _ wA).alloc (Nat.le_refl _) _).trans (HB2.mono (by omega)) |>.mono (by omega))
    have hz1 : wA.heap.size < w1.heap.size := hq1
    have hz0 : w.heap.size ≤ w1.heap.size := by omega
    clear a0 a1 hc1 hf1 hb1
    go_region_held3 (fun w' => w'.cell? ⟨wA.heap.size, 0, none⟩ = some (vi r.goods) ∧ w'.cell? ⟨wA.heap.size, 1, none⟩ = some r.slice)
      (first
        | go_keep
        | (go_split_ands
           refine ⟨?_, ?_⟩
           all_goals first
             | ((rw [hba.cell (by first | omega | (simp; omega) | (simp; done))]); assumption)
             | ((rw [hbq.cell (by first | omega | (simp; omega) | (simp; done))]); assumption)
             | ((rw [hbc.cell (by first | omega | (simp; omega) | (simp; done))]); assumption)))
      (first
        | (go_at_call 58; refine (oneDay_any _ _).mono ?_; rintro e wa ⟨rfl, hba⟩; have hza := hba.size; (try simp only [World.size_drew] at hza))
        | (go_at_call 66; refine (quotes_any r d d A cap ls _ (RackAt.to hr (by (repeat (first | exact Below.refl _ _ | refine Below.setCell ?_ (by first | omega | (simp; omega) | (simp; done)) _ | refine Below.alloc ?_ (by first | omega | (simp; omega) | (simp; done)) _ | refine Below.drew ?_ | refine below_drewN ?_ _ | refine Below.trans ?_ (Below.mono (by assumption) (by first | omega | (simp; omega) | (simp; done))))))) hn4 (hls.to (by (repeat (first | exact Below.refl _ _ | refine Below.setCell ?_ (by first | omega | (simp; omega) | (simp; done)) _ | refine Below.alloc ?_ (by first | omega | (simp; omega) | (simp; done)) _ | refine Below.drew ?_ | refine below_drewN ?_ _ | refine Below.trans ?_ (Below.mono (by assumption) (by first | omega | (simp; omega) | (simp; done))))))) hln HLV.out).mono ?_; rintro e wq ⟨qA, qc, qs, rfl, hql, hqs, hqk, hbq⟩; have hzq := hbq.size)
        | (go_at_call 65; refine (sumOn_is hqk hso qA qc _ hql _ (hqs.to (by (repeat (first | exact Below.refl _ _ | refine Below.setCell ?_ (by first | omega | (simp; omega) | (simp; done)) _ | refine Below.alloc ?_ (by first | omega | (simp; omega) | (simp; done)) _ | refine Below.drew ?_ | refine below_drewN ?_ _ | refine Below.trans ?_ (Below.mono (by assumption) (by first | omega | (simp; omega) | (simp; done)))))))).mono ?_; rintro e wc ⟨rfl, hbc⟩; have hzc := hbc.size))
    all_goals go_wp2
    all_goals go_ret2
    all_goals refine ⟨by rw [E.out.1, E.out.2]; rfl, ?_⟩
    all_goals (repeat (first | exact Below.refl _ _ | refine Below.setCell ?_ (by first | omega | (simp; omega) | (simp; done)) _ | refine Below.alloc ?_ (by first | omega | (simp; omega) | (simp; done)) _ | refine Below.drew ?_ | refine below_drewN ?_ _ | refine Below.trans ?_ (Below.mono (by assumption) (by first | omega | (simp; omega) | (simp; done)))))
end Go.Proofs.YtpcajmkmmkmekaaGreatDoor

