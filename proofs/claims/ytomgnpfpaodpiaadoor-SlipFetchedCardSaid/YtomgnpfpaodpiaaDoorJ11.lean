/- Contracts of the law's of and floor: the chapter's floor. -/
import Derived.Test.YtomgnpfpaodpiaaDoorJ10
import Derived.Laws.Rows
import Derived.Deep.MidRow
import Derived.Test.YtomgnpfpaodpiaaDoorJ09
import Derived.Stop.RegionWithIn
import Derived.Test.YtomgnpfpaodpiaaDoorJ05
import Derived.Test.YtomgnpfpaodpiaaDoorJ03
set_option linter.unusedVariables false
set_option linter.unusedSimpArgs false
namespace Go.Proofs.YtomgnpfpaodpiaaDoor
open Go Go.RowKit
set_option maxHeartbeats 4000000
theorem of_is (a b : Int) (w : World) :
    Calls Tryd.prog 51 #[vi a, vi b] w fun e w' => e = .returned (.agg #[vi a, vi b]) ∧ Below w.heap.size w w' := by
  go_enter Tryd.func51, Tryd.ntmps51
  go_wp2
  go_returns
  refine ⟨rfl, ?_⟩
  (repeat (first | exact Below.refl _ _ | refine Below.setCell ?_ (by first | omega | (simp; omega) | (simp; done)) _ | refine Below.alloc ?_ (by first | omega | (simp; omega) | (simp; done)) _ | refine Below.drew ?_ | refine below_drewN ?_ _ | refine Below.trans ?_ (Below.mono (by assumption) (by first | omega | (simp; omega) | (simp; done)))))
def chap (a0 a1 a2 a3 a4 a5 a6 : Option Addr) : Floor := ⟨a0, 3, [10, 25, 40], 1, 2, a1, 3, [(5, 8), (5, 10), (10, 12)], 4, a6, 4,
  [⟨a2, 2, [⟨0, 2⟩, ⟨2, 3⟩], 300⟩, ⟨a3, 1, [⟨1, 4⟩], 200⟩, ⟨a4, 1, [⟨0, 1⟩], 120⟩, ⟨a5, 2, [⟨1, 1⟩, ⟨2, 6⟩], 900⟩]⟩
theorem row_of_box {W : World} {B : Nat} {t : TypeId} {sz : Nat} {m : List (List Value)} (h : CellsBox W B t m.flatten) (hsz : ∀ r ∈ m, r.length = sz) : RowAt W W.heap.size sz (some ⟨B, 0, none⟩) m := fun _ =>
  ⟨B, 0, rfl, h.lt, fun i r hr j u hj hu => by have := h.cell (flat_at m hsz i r hr j u hj hu); simpa using this⟩
theorem CellsBox.aside {B : Nat} : ∀ (vs : List Value) (o : Nat) {W : World} {b : Nat} {t : TypeId} {cs : List Value}, CellsBox W b t cs → b ≠ B → CellsBox (W.setCells B o vs) b t cs
  | [], _, _, _, _, _, h, _ => h
  | v :: vs, o, _, _, _, _, h, hne => CellsBox.aside vs (o + 1) (h.apart ⟨B, o, none⟩ v hne) hne
theorem below_setCells {B C : Nat} {w0 : World} : ∀ (vs : List Value) (o : Nat) {W : World}, Below C w0 W → C ≤ B → Below C w0 (W.setCells B o vs)
  | [], _, _, h, _ => h
  | v :: vs, o, _, h, hle => below_setCells vs (o + 1) (h.setCell hle v) hle
set_option maxRecDepth 100000 in
theorem floor_any (w : World) :
    Calls Tryd.prog 50 #[] w fun e w' => ∃ a0 a1 a2 a3 a4 a5 a6, e = .returned (chap a0 a1 a2 a3 a4 a5 a6).val ∧ FloorAt w' w'.heap.size (chap a0 a1 a2 a3 a4 a5 a6) ∧ Below w.heap.size w w' := by
  go_enter Tryd.func50, Tryd.ntmps50
  go_wp2_with fail
  refine (to_any _ _ _).mono ?_
  rintro e wa ⟨rfl, hba⟩
  have HB : Below w.heap.size w wa := by (repeat (first | exact Below.refl _ _ | refine Below.setCell ?_ (by first | omega | (simp; omega) | (simp; done)) _ | refine Below.alloc ?_ (by first | omega | (simp; omega) | (simp; done)) _ | refine Below.drew ?_ | refine below_drewN ?_ _ | refine Below.trans ?_ (Below.mono (by assumption) (by first | omega | (simp; omega) | (simp; done)))))
  have HR : CellsBox wa w.heap.size 28 [.slice none 0 0, vi 0, vi 0, .slice none 0 0, vi 0, .slice none 0 0] := ((CellsBox.new w 28 [.slice none 0 0, vi 0, vi 0, .slice none 0 0, vi 0, .slice none 0 0]).alloc _).keep hba
  have HI : CellsBox wa (w.heap.size + 1) 3 [vi 10, vi 25, vi 40] := by
    refine CellsBox.keep (b := w.heap.size + 1) (t := 3) (cs := [vi 10, vi 25, vi 40]) ?_ hba
    have := CellsBox.new (w.alloc (.cells #[.slice none 0 0, vi 0, vi 0, .slice none 0 0, vi 0, .slice none 0 0] 28)) 3 [vi 10, vi 25, vi 40]
    simpa using this
  have HZ0 : Hid (w.heap.size < wa.heap.size) := HR.lt
  clear hba
  go_wp2_with fail
  refine (to_any _ _ _).mono ?_
  rintro e wb ⟨rfl, hb⟩
  replace HB : Below w.heap.size w wb := HB.trans (hb.mono HB.size)
  replace HR : CellsBox wb w.heap.size 28 [.slice none 0 0, vi 0, vi 0, .slice none 0 0, vi 0, .slice none 0 0] := HR.keep hb
  replace HI : CellsBox wb (w.heap.size + 1) 3 [vi 10, vi 25, vi 40] := HI.keep hb
  clear hb
  go_wp2_with fail
  refine (to_any _ _ _).mono ?_
  rintro e wc ⟨rfl, hb⟩
  replace HB : Below w.heap.size w wc := HB.trans (hb.mono HB.size)
  replace HR : CellsBox wc w.heap.size 28 [.slice none 0 0, vi 0, vi 0, .slice none 0 0, vi 0, .slice none 0 0] := HR.keep hb
  replace HI : CellsBox wc (w.heap.size + 1) 3 [vi 10, vi 25, vi 40] := HI.keep hb
  clear hb
  go_wp2_with fail
  refine (to_any _ _ _).mono ?_
  rintro e wd ⟨rfl, hb⟩
  replace HB : Below w.heap.size w wd := HB.trans (hb.mono HB.size)
  replace HR : CellsBox wd w.heap.size 28 [.slice none 0 0, vi 0, vi 0, .slice none 0 0, vi 0, .slice none 0 0] := HR.keep hb
  replace HI : CellsBox wd (w.heap.size + 1) 3 [vi 10, vi 25, vi 40] := HI.keep hb
  have Hzd : w.heap.size < wd.heap.size := HR.lt
  clear hb
  go_wp2_with fail
  refine (of_is _ _ _).mono ?_
  rintro e we ⟨rfl, hb⟩
  have HS : CellsBox we wd.heap.size 24 [vi 5, vi 8, vi 5, vi 10, vi 10, vi 12] := (CellsBox.new wd 24 [vi 5, vi 8, vi 5, vi 10, vi 10, vi 12]).keep hb
  replace HB : Below w.heap.size w we := (HB.alloc HB.size _).trans (hb.mono (by have := HB.size; rw [World.size_alloc]; omega)); simp
  replace HR : CellsBox we w.heap.size 28 [.slice none 0 0, vi 0, vi 0, .slice none 0 0, vi 0, .slice none 0 0] := (HR.alloc _).keep hb
  replace HI : CellsBox we (w.heap.size + 1) 3 [vi 10, vi 25, vi 40] := (HI.alloc _).keep hb
  clear hb
  go_wp2_with fail
  refine (of_is _ _ _).mono ?_
  rintro e wf ⟨rfl, hb⟩
  replace HB : Below w.heap.size w wf := HB.trans (hb.mono HB.size)
  replace HR : CellsBox wf w.heap.size 28 [.slice none 0 0, vi 0, vi 0, .slice none 0 0, vi 0, .slice none 0 0] := HR.keep hb
  replace HI : CellsBox wf (w.heap.size + 1) 3 [vi 10, vi 25, vi 40] := HI.keep hb
  replace HS : CellsBox wf wd.heap.size 24 [vi 5, vi 8, vi 5, vi 10, vi 10, vi 12] := HS.keep hb
  have Hzf : w.heap.size < wf.heap.size := HR.lt
  clear hb
  go_wp2_with fail
  refine (of_is _ _ _).mono ?_
  rintro e wg ⟨rfl, hb⟩
  have H2 : CellsBox wg wf.heap.size 64 [vi 0, vi 2, vi 2, vi 3] := (CellsBox.new wf 64 [vi 0, vi 2, vi 2, vi 3]).keep hb
  replace HB : Below w.heap.size w wg := (HB.alloc HB.size _).trans (hb.mono (by have := HB.size; rw [World.size_alloc]; omega)); simp
  replace HR : CellsBox wg w.heap.size 28 [.slice none 0 0, vi 0, vi 0, .slice none 0 0, vi 0, .slice none 0 0] := (HR.alloc _).keep hb
  replace HI : CellsBox wg (w.heap.size + 1) 3 [vi 10, vi 25, vi 40] := (HI.alloc _).keep hb
  replace HS : CellsBox wg wd.heap.size 24 [vi 5, vi 8, vi 5, vi 10, vi 10, vi 12] := (HS.alloc _).keep hb
  have Hzg : w.heap.size < wg.heap.size := HR.lt
  clear hb
  go_wp2_with fail
  refine (of_is _ _ _).mono ?_
  rintro e wh ⟨rfl, hb⟩
  have H3 : CellsBox wh wg.heap.size 64 [vi 1, vi 4] := (CellsBox.new wg 64 [vi 1, vi 4]).keep hb
  replace HB : Below w.heap.size w wh := (HB.alloc HB.size _).trans (hb.mono (by have := HB.size; rw [World.size_alloc]; omega)); simp
  replace HR : CellsBox wh w.heap.size 28 [.slice none 0 0, vi 0, vi 0, .slice none 0 0, vi 0, .slice none 0 0] := (HR.alloc _).keep hb
  replace HI : CellsBox wh (w.heap.size + 1) 3 [vi 10, vi 25, vi 40] := (HI.alloc _).keep hb
  replace HS : CellsBox wh wd.heap.size 24 [vi 5, vi 8, vi 5, vi 10, vi 10, vi 12] := (HS.alloc _).keep hb
  replace H2 : CellsBox wh wf.heap.size 64 [vi 0, vi 2, vi 2, vi 3] := (H2.alloc _).keep hb
  have Hzh : w.heap.size < wh.heap.size := HR.lt
  clear hb
  go_wp2_with fail
  refine (of_is _ _ _).mono ?_
  rintro e wi ⟨rfl, hb⟩
  have H4 : CellsBox wi wh.heap.size 64 [vi 0, vi 1] := (CellsBox.new wh 64 [vi 0, vi 1]).keep hb
  replace HB : Below w.heap.size w wi := (HB.alloc HB.size _).trans (hb.mono (by have := HB.size; rw [World.size_alloc]; omega)); simp
  replace HR : CellsBox wi w.heap.size 28 [.slice none 0 0, vi 0, vi 0, .slice none 0 0, vi 0, .slice none 0 0] := (HR.alloc _).keep hb
  replace HI : CellsBox wi (w.heap.size + 1) 3 [vi 10, vi 25, vi 40] := (HI.alloc _).keep hb
  replace HS : CellsBox wi wd.heap.size 24 [vi 5, vi 8, vi 5, vi 10, vi 10, vi 12] := (HS.alloc _).keep hb
  replace H2 : CellsBox wi wf.heap.size 64 [vi 0, vi 2, vi 2, vi 3] := (H2.alloc _).keep hb
  replace H3 : CellsBox wi wg.heap.size 64 [vi 1, vi 4] := (H3.alloc _).keep hb
  clear hb
  go_wp2_with fail
  refine (of_is _ _ _).mono ?_
  rintro e wj ⟨rfl, hb⟩
  replace HB : Below w.heap.size w wj := HB.trans (hb.mono HB.size)
  replace HR : CellsBox wj w.heap.size 28 [.slice none 0 0, vi 0, vi 0, .slice none 0 0, vi 0, .slice none 0 0] := HR.keep hb
  replace HI : CellsBox wj (w.heap.size + 1) 3 [vi 10, vi 25, vi 40] := HI.keep hb
  replace HS : CellsBox wj wd.heap.size 24 [vi 5, vi 8, vi 5, vi 10, vi 10, vi 12] := HS.keep hb
  replace H2 : CellsBox wj wf.heap.size 64 [vi 0, vi 2, vi 2, vi 3] := H2.keep hb
  replace H3 : CellsBox wj wg.heap.size 64 [vi 1, vi 4] := H3.keep hb
  replace H4 : CellsBox wj wh.heap.size 64 [vi 0, vi 1] := H4.keep hb
  clear hb
  obtain ⟨cs, hcs⟩ : ∃ cs : List Value, cs = [.slice (some ⟨w.heap.size + 1, 0, none⟩) 3 3, vi 1, vi 2, .slice (some ⟨wd.heap.size, 0, none⟩) 3 3, vi 4, .slice (some ⟨wj.heap.size + 1, 0, none⟩) 4 4] := ⟨_, rfl⟩
  obtain ⟨V, hV⟩ : ∃ V, V = (wj.alloc (.cells #[vi 1, vi 1, vi 2, vi 6] 64)).alloc (.cells #[.slice (some ⟨wf.heap.size, 0, none⟩) 2 2, vi 300, .slice (some ⟨wg.heap.size, 0, none⟩) 1 1, vi 200, .slice (some ⟨wh.heap.size, 0, none⟩) 1 1, vi 120, .slice (some ⟨wj.heap.size, 0, none⟩) 2 2, vi 900] 52) := ⟨_, rfl⟩
  have VR : CellsBox V w.heap.size 28 [.slice none 0 0, vi 0, vi 0, .slice none 0 0, vi 0, .slice none 0 0] := by rw [hV]; exact (HR.alloc _).alloc _
  have VI : CellsBox V (w.heap.size + 1) 3 [vi 10, vi 25, vi 40] := by rw [hV]; exact (HI.alloc _).alloc _
  have VS : CellsBox V wd.heap.size 24 [vi 5, vi 8, vi 5, vi 10, vi 10, vi 12] := by rw [hV]; exact (HS.alloc _).alloc _
  have V2 : CellsBox V wf.heap.size 64 [vi 0, vi 2, vi 2, vi 3] := by rw [hV]; exact (H2.alloc _).alloc _
  have V3 : CellsBox V wg.heap.size 64 [vi 1, vi 4] := by rw [hV]; exact (H3.alloc _).alloc _
  have V4 : CellsBox V wh.heap.size 64 [vi 0, vi 1] := by rw [hV]; exact (H4.alloc _).alloc _
  have V5 : CellsBox V wj.heap.size 64 [vi 1, vi 1, vi 2, vi 6] := by rw [hV]; exact (CellsBox.new wj _ _).alloc _
  have V6 : CellsBox V (wj.heap.size + 1) 52 [.slice (some ⟨wf.heap.size, 0, none⟩) 2 2, vi 300, .slice (some ⟨wg.heap.size, 0, none⟩) 1 1, vi 200, .slice (some ⟨wh.heap.size, 0, none⟩) 1 1, vi 120, .slice (some ⟨wj.heap.size, 0, none⟩) 2 2, vi 900] := by
    rw [hV]
    have := CellsBox.new (wj.alloc (.cells #[vi 1, vi 1, vi 2, vi 6] 64)) 52 [.slice (some ⟨wf.heap.size, 0, none⟩) 2 2, vi 300, .slice (some ⟨wg.heap.size, 0, none⟩) 1 1, vi 200, .slice (some ⟨wh.heap.size, 0, none⟩) 1 1, vi 120, .slice (some ⟨wj.heap.size, 0, none⟩) 2 2, vi 900]
    rwa [World.size_alloc] at this
  have VB : Below w.heap.size w V := by rw [hV]; exact (HB.alloc HB.size _).alloc (by have := HB.size; rw [World.size_alloc]; omega) _
  have hth : V.there w.heap.size 0 cs.toArray.size := by
    intro j hj
    rw [hcs] at hj
    have hj6 : j < 6 := by simpa using hj
    rw [Nat.zero_add]
    refine ⟨?_, VR.frozen j⟩
    obtain rfl | rfl | rfl | rfl | rfl | rfl : j = 0 ∨ j = 1 ∨ j = 2 ∨ j = 3 ∨ j = 4 ∨ j = 5 := by omega
    all_goals (rw [VR.cell rfl]; rfl)
  have HTH := Lib.hid hth
  have HZ : Hid (w.heap.size < wd.heap.size ∧ w.heap.size < wf.heap.size ∧ w.heap.size < wg.heap.size ∧ w.heap.size < wh.heap.size ∧ w.heap.size < wj.heap.size) := ⟨Hzd, Hzf, Hzg, Hzh, HR.lt⟩
  have HCS := Lib.hid hcs
  have HVV := Lib.hid hV
  have hlen : cs.toArray.size = 6 := by rw [hcs]; rfl
  have h1c : cs.toArray.all (·.oneCell') = true := by rw [hcs]; simp [Value.oneCell']
  clear HR HI HS H2 H3 H4 hth hV hcs
  go_wp2_with (with_reducible refine wpList_store_mid rfl 28 _ _ rfl w.heap.size 0 cs.toArray ?hx ?hy ?ht ?hi ?h1 ?_)
  case hx => rfl
  case hy => rw [HCS.out]; rfl
  case ht => rw [← HVV.out]; exact HTH.out
  case hi => rw [hlen]; kernel_rfl
  case h1 => exact h1c
  have HZR : CellsBox (V.setCells w.heap.size 0 cs) w.heap.size 28 [.slice (some ⟨w.heap.size + 1, 0, none⟩) 3 3, vi 1, vi 2, .slice (some ⟨wd.heap.size, 0, none⟩) 3 3, vi 4, .slice (some ⟨wj.heap.size + 1, 0, none⟩) 4 4] := by
    rw [HCS.out]
    exact (((((VR.store 0 (.slice (some ⟨w.heap.size + 1, 0, none⟩) 3 3)).store 1 (vi 1)).store 2 (vi 2)).store 3 (.slice (some ⟨wd.heap.size, 0, none⟩) 3 3)).store 4 (vi 4)).store 5 (.slice (some ⟨wj.heap.size + 1, 0, none⟩) 4 4)
  have zj := HB.size
  have zI := VI.lt
  have ZI := CellsBox.aside (B := w.heap.size) cs 0 VI (by omega)
  have ZS := CellsBox.aside (B := w.heap.size) cs 0 VS (by have := VR.lt; have := HZ.out; omega)
  have Z2 := CellsBox.aside (B := w.heap.size) cs 0 V2 (by have := HZ.out; omega)
  have Z3 := CellsBox.aside (B := w.heap.size) cs 0 V3 (by have := HZ.out; omega)
  have Z4 := CellsBox.aside (B := w.heap.size) cs 0 V4 (by have := HZ.out; omega)
  have Z5 := CellsBox.aside (B := w.heap.size) cs 0 V5 (by have := HZ.out; omega)
  have Z6 := CellsBox.aside (B := w.heap.size) cs 0 V6 (by omega)
  have ZB := below_setCells (B := w.heap.size) cs 0 VB (Nat.le_refl _)
  rw [← HVV.out]
  clear HVV HTH HCS h1c hlen VR VI VS V2 V3 V4 V5 V6 VB
  obtain ⟨F, hF⟩ : ∃ F, F = V.setCells w.heap.size 0 cs := ⟨_, rfl⟩
  rw [← hF] at HZR ZI ZS Z2 Z3 Z4 Z5 Z6 ZB
  rw [show V.setCells w.heap.size 0 cs.toArray.toList = F from by rw [hF]]
  clear hF
  have q0 := HZR.cell (j := 0) rfl
  have q1 := HZR.cell (j := 1) rfl
  have q2 := HZR.cell (j := 2) rfl
  have q3 := HZR.cell (j := 3) rfl
  have q4 := HZR.cell (j := 4) rfl
  have q5 := HZR.cell (j := 5) rfl
  go_wp2_with fail
  refine bodyPost_ret (v := .agg #[.slice (some ⟨w.heap.size + 1, 0, none⟩) 3 3, vi 1, vi 2, .slice (some ⟨wd.heap.size, 0, none⟩) 3 3, vi 4, .slice (some ⟨wj.heap.size + 1, 0, none⟩) 4 4]) (by simp [results, Tryd.results50, go_sem, q0, q1, q2, q3, q4, q5]) rfl ?_
  refine ⟨some ⟨w.heap.size + 1, 0, none⟩, some ⟨wd.heap.size, 0, none⟩, some ⟨wf.heap.size, 0, none⟩, some ⟨wg.heap.size, 0, none⟩, some ⟨wh.heap.size, 0, none⟩, some ⟨wj.heap.size, 0, none⟩, some ⟨wj.heap.size + 1, 0, none⟩, rfl, ?_, ZB⟩
  refine ⟨⟨Nat.le_refl _, by first | (simp [chap]; done) | (simp; done), by first | (simp [chap]; done) | (simp; done), row_of_box (t := 3) ZI (by intro r hr; obtain ⟨p, _, rfl⟩ := List.mem_map.1 hr; rfl)⟩, ⟨Nat.le_refl _, by first | (simp [chap]; done) | (simp; done), by first | (simp [chap]; done) | (simp; done), row_of_box (t := 24) ZS (by intro r hr; obtain ⟨p, _, rfl⟩ := List.mem_map.1 hr; rfl)⟩,
    ⟨Nat.le_refl _, by first | (simp [chap]; done) | (simp; done), by first | (simp [chap]; done) | (simp; done), row_of_box (t := 52) Z6 (by intro r hr; obtain ⟨p, _, rfl⟩ := List.mem_map.1 hr; rfl)⟩, fun s hs => ?_⟩
  simp only [chap, List.mem_cons, List.not_mem_nil, or_false] at hs
  rcases hs with rfl | rfl | rfl | rfl
  · exact ⟨Nat.le_refl _, by first | (simp [chap]; done) | (simp; done), by first | (simp [chap]; done) | (simp; done), row_of_box (t := 64) Z2 (by intro r hr; obtain ⟨p, _, rfl⟩ := List.mem_map.1 hr; rfl)⟩
  · exact ⟨Nat.le_refl _, by first | (simp [chap]; done) | (simp; done), by first | (simp [chap]; done) | (simp; done), row_of_box (t := 64) Z3 (by intro r hr; obtain ⟨p, _, rfl⟩ := List.mem_map.1 hr; rfl)⟩
  · exact ⟨Nat.le_refl _, by first | (simp [chap]; done) | (simp; done), by first | (simp [chap]; done) | (simp; done), row_of_box (t := 64) Z4 (by intro r hr; obtain ⟨p, _, rfl⟩ := List.mem_map.1 hr; rfl)⟩
  · exact ⟨Nat.le_refl _, by first | (simp [chap]; done) | (simp; done), by first | (simp [chap]; done) | (simp; done), row_of_box (t := 64) Z5 (by intro r hr; obtain ⟨p, _, rfl⟩ := List.mem_map.1 hr; rfl)⟩
end Go.Proofs.YtomgnpfpaodpiaaDoor

/- Later Untils, and the least one that is enough; the chapter's answers. -/
namespace Go.Proofs.YtomgnpfpaodpiaaDoor
open Go Go.RowKit
theorem PM.inT_mono {sec till sec' till' : Nat → Int} (hs : ∀ s, sec' s ≤ sec s) (ht : ∀ s, till s ≤ till' s) : ∀ (l : List Nat) (t t' : Int), t' ≤ t → PM.inT sec till t l → PM.inT sec' till' t' l
  | [], _, _, _, _ => trivial
  | s :: l, t, t', h, k => by
    have h1 := hs s
    have h2 := ht s
    have h3 := k.1
    exact ⟨by omega, PM.inT_mono hs ht l _ _ (by omega) k.2⟩
theorem PM.fit_mono {sec till sec' till' : Nat → Int} (hs : ∀ s, sec' s ≤ sec s) (ht : ∀ s, till s ≤ till' s) : ∀ (p m : Nat), PM.Fit sec till p m → PM.Fit sec' till' p m
  | 0, _, h => h
  | p + 1, m, ⟨l, h1, h2, h3, h4⟩ => ⟨l, h1, h2, PM.inT_mono hs ht l 0 0 (Int.le_refl _) h3, PM.fit_mono hs ht p _ h4⟩
theorem till_len (f : Floor) (k : Nat) (u : Int) : (tillF f k u).slips.length = f.slips.length := by simp [withF]
theorem sec_till (f : Floor) (k : Nat) (u : Int) (s : Nat) : secF (tillF f k u) s = secF f s := by
  have e : secsL (tillF f k u) = secsL f := by
    unfold secsL
    apply List.ext_getElem?
    intro i
    rw [List.getElem?_map, List.getElem?_map]
    have e1 : (tillF f k u).slips[i]? = (f.slips[i]?).map (fun s => if k = i then { s with till := u } else s) := by
      show (f.slips.modify k fun s => { s with till := u })[i]? = _
      rw [List.getElem?_modify]
      cases f.slips[i]? with
      | none => rfl
      | some x => by_cases h : k = i <;> simp [h]
    rw [e1]
    cases f.slips[i]? with
    | none => rfl
    | some s =>
      show some (takesF (tillF f k u) (if k = i then { s with till := u } else s)).2 = some (takesF f s).2
      rw [takes_at]
      by_cases h : k = i
      · rw [if_pos h]; rfl
      · rw [if_neg h]
  rw [secF, secF, e]
theorem due_till (f : Floor) (k : Nat) (u : Int) (s : Nat) : dueF (tillF f k u) s = if s = k ∧ s < f.slips.length then u else dueF f s := by
  have e1 : (tillF f k u).slips[s]? = (f.slips[s]?).map (fun x => if k = s then { x with till := u } else x) := by
    show (f.slips.modify k fun s => { s with till := u })[s]? = _
    rw [List.getElem?_modify]
    cases f.slips[s]? with
    | none => rfl
    | some x => by_cases h : k = s <;> simp [h]
  unfold dueF keyF
  rw [Int.toNat_natCast, e1]
  by_cases hs : s < f.slips.length
  · rw [List.getElem?_eq_getElem hs]
    by_cases h : k = s
    · subst h; simp [hs]
    · have h2 : ¬ s = k := fun e => h e.symm
      simp [h, h2]
  · rw [List.getElem?_eq_none (by omega)]
    simp [hs]
theorem all_till (f : Floor) (k : Nat) (u : Int) : allF (tillF f k u) = allF f := by rw [allF, allF, till_len]
theorem all_in (f : Floor) (i : Nat) (h : (allF f).testBit i = true) : i < f.slips.length := by rwa [all_bit, decide_eq_true_eq] at h
theorem enough_fit {f : Floor} (hv : validB f = true) (k p : Nat) {u : Int} (h0 : 0 ≤ u) (h1 : u ≤ 100000) : enoughF f k p u = true ↔ PM.Fit (secF f) (dueF (tillF f k u)) p (allF f) := by
  rw [enoughF, can_fit (valid_till hv none 0 k h0 h1) p (allF f) (fun i hi => by rw [till_len]; exact all_in f i hi), FitF]
  have : secF (tillF f k u) = secF f := funext (sec_till f k u)
  rw [this]
theorem enough_mono {f : Floor} (hv : validB f = true) (k p : Nat) {u v : Int} (h0 : 0 ≤ u) (huv : u ≤ v) (h1 : v ≤ 100000) (h : enoughF f k p u = true) : enoughF f k p v = true := by
  rw [enough_fit hv k p h0 (by omega)] at h
  rw [enough_fit hv k p (by omega) h1]
  refine PM.fit_mono (fun _ => Int.le_refl _) (fun s => ?_) p _ h
  rw [due_till, due_till]
  split <;> omega
theorem spare_is {f : Floor} (hv : validB f = true) {k p t r q : Nat} (ht : t ≤ 100000) (h : IsSpare f k p t r) (hq : q ≤ t) (h1 : ∀ j : Nat, q = j + 1 → enoughF f k p j = false) (h2 : enoughF f k p q = true) : r = q := by
  apply Classical.byContradiction
  intro hne
  by_cases hlt : r < q
  · obtain ⟨j, rfl⟩ : ∃ j, q = j + 1 := ⟨q - 1, by omega⟩
    have := enough_mono hv k p (u := r) (v := j) (by omega) (by omega) (by omega) (h.enough (by omega))
    rw [h1 j rfl] at this
    cases this
  · obtain ⟨j, rfl⟩ : ∃ j, r = j + 1 := ⟨r - 1, by omega⟩
    have := enough_mono hv k p (u := q) (v := j) (by omega) (by omega) (by have := h.le; omega) h2
    rw [h.under j rfl] at this
    cases this
section
variable (a0 a1 a2 a3 a4 a5 a6 : Option Addr)
theorem ch_valid : validB (chap a0 a1 a2 a3 a4 a5 a6) = true := by kernel_rfl
theorem ch_steps : StepsV (chap a0 a1 a2 a3 a4 a5 a6) 3 = 160 ∧ checkSlipV (chap a0 a1 a2 a3 a4 a5 a6) 3 = 0 := ⟨by kernel_rfl, by kernel_rfl⟩
theorem ch_takes : TakesV (chap a0 a1 a2 a3 a4 a5 a6) 0 = (140, 252) ∧ checkSlipV (chap a0 a1 a2 a3 a4 a5 a6) 0 = 0 := ⟨by kernel_rfl, by kernel_rfl⟩
theorem ch_tours : ToursV (chap a0 a1 a2 a3 a4 a5 a6) 2 = [[⟨0, 1⟩]] ∧ checkSlipV (chap a0 a1 a2 a3 a4 a5 a6) 2 = 0 := ⟨by kernel_rfl, by kernel_rfl⟩
theorem ch_is (t0 t1 : Option Addr) : isToursV (chap a0 a1 a2 a3 a4 a5 a6) 0 [⟨t0, 2, [⟨0, 1⟩, ⟨2, 3⟩]⟩, ⟨t1, 1, [⟨0, 1⟩]⟩] = true := by kernel_rfl
theorem ch_done (t0 t1 : Option Addr) : DoneV (chap a0 a1 a2 a3 a4 a5 a6) [⟨t0, 2, [2, 1]⟩, ⟨t1, 2, [0, 3]⟩] = ([(140, 252), (95, 188), (25, 48), (365, 654)], 0) := by kernel_rfl
theorem ch_few : fewF (chap a0 a1 a2 a3 a4 a5 a6) = some 2 := by kernel_rfl
theorem ch_roster : (RosterV (chap a0 a1 a2 a3 a4 a5 a6)).1.length = 2 ∧ (RosterV (chap a0 a1 a2 a3 a4 a5 a6)).2 = 0 := ⟨by kernel_rfl, by kernel_rfl⟩
theorem ch_late : LateV (chap a0 a1 a2 a3 a4 a5 a6) 1 = ([0], 0) := by kernel_rfl
theorem ch_enough : enoughF (chap a0 a1 a2 a3 a4 a5 a6) 3 2 541 = false ∧ enoughF (chap a0 a1 a2 a3 a4 a5 a6) 3 2 542 = true := ⟨by kernel_rfl, by kernel_rfl⟩
theorem ch_spare {v c : Int} (h : SpareA (chap a0 a1 a2 a3 a4 a5 a6) 3 v c) : v = 542 ∧ c = 0 := by
  rcases h with ⟨h1, _, _⟩ | ⟨_, h1, _, _⟩ | ⟨_, hc, k, p, t, r, s, hk, hs, ht, hp, hv, hi⟩
  · exact absurd (ch_steps a0 a1 a2 a3 a4 a5 a6).2 h1
  · rw [ch_few] at h1; cases h1
  · obtain rfl : k = 3 := by omega
    rw [ch_few] at hp
    cases hp
    have hs2 : (chap a0 a1 a2 a3 a4 a5 a6).slips[3]? = some ⟨a5, 2, [⟨1, 1⟩, ⟨2, 6⟩], 900⟩ := rfl
    rw [hs2] at hs
    cases hs
    obtain rfl : t = 900 := by simp at ht; omega
    have := spare_is (ch_valid a0 a1 a2 a3 a4 a5 a6) (by omega) hi (q := 542) (by omega) (fun j hj => by
      obtain rfl : j = 541 := by omega
      exact (ch_enough a0 a1 a2 a3 a4 a5 a6).1) (ch_enough a0 a1 a2 a3 a4 a5 a6).2
    exact ⟨by omega, hc⟩
end
end Go.Proofs.YtomgnpfpaodpiaaDoor

/- Contract of Tours: the walk. -/
namespace Go.Proofs.YtomgnpfpaodpiaaDoor
open Go Go.RowKit Go.Shelf
set_option maxHeartbeats 2000000
attribute [local go_sem] Oper.semAt_some
theorem tours_rows {w : World} {A : Option Addr} {ts : List STour} (h : RowsAt w w.heap.size 1 A ts.length (ts.map STour.cells)) (he : ∀ t ∈ ts, TourIn w t) : ToursAt w w.heap.size A ts.length ts := ⟨h, fun t ht => (he t ht).lines⟩
theorem cells_tour (ts : List STour) : ∀ r ∈ ts.map STour.cells, r.length = 1 := fun r hr => by
  obtain ⟨t, _, rfl⟩ := List.mem_map.1 hr
  rfl
theorem cells_flat (ts : List STour) : (ts.map STour.cells).flatten = ts.map STour.slice := by
  induction ts with
  | nil => rfl
  | cons t ts ih => rw [List.map_cons, List.flatten_cons, ih]; rfl
set_option maxRecDepth 100000 in
theorem Tours_any (f : Floor) (n : Int) (w : World) (hl : Lim w) (h : FloorAt w w.heap.size f) :
    Calls Tryd.prog 22 #[f.val, vi n] w fun e w' => ∃ A ts, e = .returned (.tuple #[.slice A ts.length ts.length, vi (checkSlipV f n)]) ∧ ToursAt w' w'.heap.size A ts.length ts ∧ ts.map STour.lines = ToursV f n ∧ Below w.heap.size w w' := by
  have HL := Lib.hid hl
  have HF := Lib.hid h
  rcases check_cases f n with hc | ⟨hc, hv, m, s, rfl, hs⟩
  · obtain ⟨ec, hec⟩ : ∃ ec, checkSlipV f n = ec := ⟨_, rfl⟩
    have hne : ec ≠ 0 := by omega
    have hned : decide (ec = 0) = false := by simpa using hne
    have E : Hid (ToursV f n = []) := by unfold Hid ToursV; rw [if_neg (by omega)]
    have CH := Lib.hid (fun (W : World) hL hW => checkSlip_is hec W hL hW)
    rw [E.out, hec]
    clear h hl hc hec E
    refine (callsIn_wide (n := 12)).1 ?_
    refine callsIn_of_wp_marks Tryd.func22 rfl trivial ?_ rfl
    simp only [Tryd.ntmps22, List.size_toArray, List.length_cons, List.length_nil, Nat.reduceAdd, Nat.reduceSub, Array.replicate_succ, Array.replicate_zero, List.push_toArray, List.append_toArray, List.nil_append, List.cons_append]
    gi_wp2_with fail
    refine ⟨trivial, ?_⟩
    refine (callsIn_wide.2 (CH.out _ (HL.out.next (by (repeat (first | exact Below.refl _ _ | refine Below.setCell ?_ (by first | omega | (simp; omega) | (simp; done)) _ | refine Below.alloc ?_ (by first | omega | (simp; omega) | (simp; done)) _ | refine Below.drew ?_ | refine below_drewN ?_ _ | refine Below.trans ?_ (Below.mono (by assumption) (by first | omega | (simp; omega) | (simp; done))))))) (HF.out.to (by (repeat (first | exact Below.refl _ _ | refine Below.setCell ?_ (by first | omega | (simp; omega) | (simp; done)) _ | refine Below.alloc ?_ (by first | omega | (simp; omega) | (simp; done)) _ | refine Below.drew ?_ | refine below_drewN ?_ _ | refine Below.trans ?_ (Below.mono (by assumption) (by first | omega | (simp; omega) | (simp; done))))))))).mono ?_
    rintro e W ⟨rfl, hb⟩
    have HB0 : Below w.heap.size w W := by (repeat (first | exact Below.refl _ _ | refine Below.setCell ?_ (by first | omega | (simp; omega) | (simp; done)) _ | refine Below.alloc ?_ (by first | omega | (simp; omega) | (simp; done)) _ | refine Below.drew ?_ | refine below_drewN ?_ _ | refine Below.trans ?_ (Below.mono (by assumption) (by first | omega | (simp; omega) | (simp; done)))))
    clear hb
    gi_wp2_with fail
    refine ⟨_, results_tmp2 rfl _ _ _, ?_⟩
    exact ⟨none, [], rfl, ⟨rows_nil _ _, by simp⟩, rfl, HB0⟩
  · obtain ⟨i0, hi, hy0, hy1, hy2⟩ := info_parts info_lines
    have hf := fine hv
    obtain ⟨c, hcc⟩ : ∃ c : Nat, f.carry = c := ⟨f.carry.toNat, by have := hf.carry1; omega⟩
    have hc1 := hf.carry1
    have hc2 := hf.carry20
    obtain ⟨_, _, hsl⟩ := hf.slips s (List.mem_of_getElem? hs)
    obtain ⟨ho, hsum, hs0, hs1⟩ := pieces_only hf.far12 hsl
    obtain ⟨hok, htw⟩ := lines_good (by have := hf.far12; omega) hsl
    have hlen := loadsOf_len hf (List.mem_of_getElem? hs)
    have CH := Lib.hid (fun (W : World) hL hW => checkSlip_is hc W hL hW)
    obtain ⟨all, hall⟩ : ∃ all, loadsOf f s = all := ⟨_, rfl⟩
    have HALL : Hid (loadsF c (piecesF s.lines).sum.toNat (piecesF s.lines) = all) := by
      have e : f.carry.toNat = c := by omega
      unfold Hid
      rw [← hall, loadsOf, e]
    have E : Hid (ToursV f m = all.map linesOf) := by unfold Hid ToursV; rw [if_pos hc]; simp [hs, hall]
    rw [hall] at hlen
    have HC := Lib.hid hcc
    have HC1 : Hid (1 ≤ c ∧ c ≤ 20) := ⟨by omega, by omega⟩
    have HSL := Lib.hid hsl
    have HTW := Lib.hid htw
    have HOK := Lib.hid hok
    have HO := Lib.hid ho
    have HFN := Lib.hid hf
    rw [hc, E.out]
    clear hcc hc1 hc2 hsl ho hsum hs0 hs1 hok htw hall h hf hl hc E hv
    refine (callsIn_wide (n := 12)).1 ?_
    refine callsIn_of_wp_marks Tryd.func22 rfl trivial ?_ rfl
    simp only [Tryd.ntmps22, List.size_toArray, List.length_cons, List.length_nil, Nat.reduceAdd, Nat.reduceSub, Array.replicate_succ, Array.replicate_zero, List.push_toArray, List.append_toArray, List.nil_append, List.cons_append]
    gi_wp2_with fail
    refine ⟨trivial, ?_⟩
    refine (callsIn_wide.2 (CH.out _ (HL.out.next (by (repeat (first | exact Below.refl _ _ | refine Below.setCell ?_ (by first | omega | (simp; omega) | (simp; done)) _ | refine Below.alloc ?_ (by first | omega | (simp; omega) | (simp; done)) _ | refine Below.drew ?_ | refine below_drewN ?_ _ | refine Below.trans ?_ (Below.mono (by assumption) (by first | omega | (simp; omega) | (simp; done))))))) (HF.out.to (by (repeat (first | exact Below.refl _ _ | refine Below.setCell ?_ (by first | omega | (simp; omega) | (simp; done)) _ | refine Below.alloc ?_ (by first | omega | (simp; omega) | (simp; done)) _ | refine Below.drew ?_ | refine below_drewN ?_ _ | refine Below.trans ?_ (Below.mono (by assumption) (by first | omega | (simp; omega) | (simp; done))))))))).mono ?_
    rintro e W ⟨rfl, hb⟩
    have HB0 : Below w.heap.size w W := by (repeat (first | exact Below.refl _ _ | refine Below.setCell ?_ (by first | omega | (simp; omega) | (simp; done)) _ | refine Below.alloc ?_ (by first | omega | (simp; omega) | (simp; done)) _ | refine Below.drew ?_ | refine below_drewN ?_ _ | refine Below.trans ?_ (Below.mono (by assumption) (by first | omega | (simp; omega) | (simp; done)))))
    have a0 : W.cell? ⟨w.heap.size, 0, none⟩ = some (.slice f.fA f.far.length f.fC) := cell_keep hb (by simp [go_sem])
    have a1 : W.cell? ⟨w.heap.size, 1, none⟩ = some (vi f.slo) := cell_keep hb (by simp [go_sem])
    have a2 : W.cell? ⟨w.heap.size, 2, none⟩ = some (vi f.shi) := cell_keep hb (by simp [go_sem])
    have a3 : W.cell? ⟨w.heap.size, 3, none⟩ = some (.slice f.pA f.picks.length f.pC) := cell_keep hb (by simp [go_sem])
    have a4 : W.cell? ⟨w.heap.size, 4, none⟩ = some (vi f.carry) := cell_keep hb (by simp [go_sem])
    have a5 : W.cell? ⟨w.heap.size, 5, none⟩ = some (.slice f.sA f.slips.length f.sC) := cell_keep hb (by simp [go_sem])
    have zW := cell_lt a0
    clear hb
    gi_wp2_with fail
    refine ⟨trivial, ?_⟩
    refine (callsIn_wide.2 (loads_any f m _)).mono ?_
    rintro e w2 ⟨bF, bn, rfl, ⟨y1, y2⟩, hAt, hb2⟩
    have hz2 := hb2.size
    simp only [World.size_alloc] at hz2 y1 y2
    have bL : Boxed w2 W.heap.size llT (.slice none 0 0) := by
      refine (hb2.block W.heap.size (by simp)).trans ?_
      exact Boxed.new W llT (.slice none 0 0)
    have hB2 : Below w.heap.size w w2 := gr_trans HB0 (((Below.refl W.heap.size W).alloc (Nat.le_refl _) _).trans (hb2.mono (by simp)))
    have hzW := HB0.size
    clear hb2 a0 a1 a2 a3 a4 a5
    gi_wp2_with fail
    refine range_outerE rfl (by omega) (gf := 94) (lb := #[.pointer (some ⟨bF, 0, none⟩), .pointer (some ⟨bn, 0, none⟩)]) rfl trivial (enters_of Tryd.func94 (by kernel_rfl) rfl)
      (loads_seq f c m HC.out HC1.out.1 HC1.out.2 s hs HOK.out HTW.out HO.out _ (Int.self_le_toNat _) all HALL.out lsT (by decide) (by decide) (by decide) _ (by omega) bF bn w.heap.size W.heap.size w2 (by omega) (by omega) bL.lt (by omega) (by omega) hAt (HF.out.below hB2))
      (fun h k => KE.trans h k) (fun W l o o' hl h h1 _ => KE.turn _ W l o o' hl h h1) (Below.refl _ _) (fun _ => rfl)
      (fun pre X => (∃ v ts, ListIn X w2.heap.size W.heap.size ((Loads pre).map linesOf) v ts) ∧ KE lsT w2.heap.size W.heap.size w2 X)
      (OwnE.and (ownE_list bL.lt (fun pre => (Loads pre).map linesOf)) (ownE_ke (Nat.le_refl _) (Nat.le_refl _)))
      ⟨⟨_, [], bL, rfl, World.ownsRow_nil _ _ _ _, by simp⟩, KE.refl _ _ _ _⟩
      (fun x a' X => ∃ Bx, w2.heap.size ≤ Bx ∧ CellsBox X Bx 102 (x.1.map vi) ∧ a' = { tmps := #[f.val, vi m, .pointer (some ⟨w.heap.size, 0, none⟩), undef, .slice none 0 0, vi 0, vi 0, .pointer (some ⟨W.heap.size, 0, none⟩), .pointer (some ⟨Bx, 0, none⟩), f.val, vi m, vi 0, vi 0, .bool false, undef, f.val, f.val, vi m, loadsV bF bn, piecesV x.1, undef, undef, undef, undef, undef, undef, undef, undef, undef, undef, undef], defers := [] })
      (fun x a' _ X Y row hs hg hr => by obtain ⟨Bx, h1, h2, h3⟩ := hs; exact ⟨Bx, h1, (hg.block Bx h2.lt fun e => by obtain ⟨_, o, ho, hc⟩ := hr Bx e.symm; rw [show X.heap[Bx]? = _ from h2] at ho; cases ho; cases hc).trans h2, h3⟩)
      ?assign ?body ?done
    case assign =>
      rintro l pre ⟨x, hx, hon⟩ X K ⟨⟨v, ts, hv⟩, hS⟩ hK
      have hs9 := hS.size
      have hxl := hx.len
      obtain ⟨r0, r1, r2, r3, r4, r5, r6, r7, r8, r9, r10, r11, rfl⟩ := spread hxl
      gi_wp2_with fail
      have hb : ∀ o, Below X.heap.size X (X.alloc o) := fun o => (Below.refl X.heap.size X).alloc (Nat.le_refl _) o
      exact hK _ _ (keeps_of_below (hb _) _) (ke_of_below (hb _) (by omega)) ⟨⟨v, ts, hv.to (hb _)⟩, hS.trans (ke_of_below (hb _) (by omega))⟩ ⟨X.heap.size, by omega, CellsBox.new X _ [vi r0, vi r1, vi r2, vi r3, vi r4, vi r5, vi r6, vi r7, vi r8, vi r9, vi r10, vi r11], rfl⟩
    case body =>
      rintro l pre ⟨x, hx, hon⟩ a' X hl ⟨rr, hrr⟩ ⟨⟨v, ts, hv⟩, hS⟩ ⟨Bx, hBx, hbx, rfl⟩ hlt
      have hs9 := hS.size
      have dL := hv.box.cell
      have fL := hv.box.frozen
      have zL := hv.box.lt
      have hxl := hx.len
      have LINES := Lib.hid (fun W => pLines_any x hxl W)
      have HWANT : Hid ((Loads (pre ++ [⟨x, hx, hon⟩])).map linesOf = (Loads pre).map linesOf ++ [linesOf x]) := by unfold Hid; simp [Loads]
      have hpl : ts.length < all.length := by
        have := congrArg List.length hv.eq
        simp [Loads] at this
        omega
      have hRl := lines_small hxl
      obtain ⟨R, hR⟩ : ∃ R, R = linesOf x := ⟨_, rfl⟩
      rw [← hR] at LINES hRl HWANT
      obtain ⟨A0, c0, rfl, hn1, hn2⟩ := own_form hv.own
      have HV := Lib.hid hv
      obtain ⟨r0, r1, r2, r3, r4, r5, r6, r7, r8, r9, r10, r11, rfl⟩ := spread hxl
      obtain ⟨c0, c1, c2, c3, c4, c5, c6, c7, c8, c9, c10, c11⟩ := (hbx.arr rfl).cells
      have zB := hbx.lt
      have HBX := Lib.hid hbx
      clear hR hv hbx
      gi_wp2_with fail
      --BEGIN
      refine' wp_region_box_round (fun w' => CellsBox w' Bx 102 [vi r0, vi r1, vi r2, vi r3, vi r4, vi r5, vi r6, vi r7, vi r8, vi r9, vi r10, vi r11]) (fun a b h h' => h.keep h') rfl ?hno [1] 5 31 (by kernel_rfl) (by kernel_rfl) rfl (by kernel_rfl) (by kernel_rfl) rfl (by kernel_rfl) ?hl5 HBX.out ?hq5 ?hr5
      case hno => exact fun _ _ h => h
      case hl5 =>
        simp only [List.map_cons, List.map_nil, List.getD_cons_zero, List.getD_cons_succ]
        exact rfl
      case hq5 =>
        intro w0 hw0
        obtain ⟨c0, c1, c2, c3, c4, c5, c6, c7, c8, c9, c10, c11⟩ := (CellsBox.arr (p := [r0, r1, r2, r3, r4, r5, r6, r7, r8, r9, r10, r11]) rfl hw0).cells
        have zx := hw0.lt
        (repeat (go_big_quiet_step (fail)))
        exact wpQuiet_nil rfl
      clear c0 c1 c2 c3 c4 c5 c6 c7 c8 c9 c10 c11
      refine wpUp_two (i := 0) (j := 2) (by kernel_rfl) rfl rfl rfl rfl (fun wa u1 u2 Ka hKa => ?_) (fun wa u1 u2 Ka hKa => ?_)
      · have HVa := HV.out.to u1
        have da := HVa.box.cell
        have fa := HVa.box.frozen
        have za := HVa.box.lt
        clear HVa
        go_simp
        refine hKa _ _ u2 ?_
        clear da fa za
        refine wpUp_one (i := 2) (by kernel_rfl) rfl rfl (fun wc v1 v2 Kc hKc => ?_)
        go_simp
        refine (LINES.out _).mono ?_
        rintro e wl ⟨A, rfl, hRA, hRb, hbl⟩
        have HRA := Lib.hid hRA
        have HRB := Lib.hid hRb
        clear hRA hRb
        refine hKc _ _ (v2.keep hbl) ?_
        refine wpUp_one (i := 3) (by kernel_rfl) rfl rfl (fun wd x1 x2 Kd hKd => ?_)
        go_simp
        obtain ⟨V, hV⟩ : ∃ V, V = wd.alloc (.cells #[.slice A R.length R.length] lsT) := ⟨_, rfl⟩
        have hbV : Below wd.heap.size wd V := by rw [hV]; exact (Below.refl _ _).alloc (Nat.le_refl _) _
        have HCV : Hid (CellsBox V wd.heap.size lsT [.slice A R.length R.length]) := by unfold Hid; rw [hV]; exact CellsBox.new wd _ _
        have hVd : wd.alloc (.cells #[.slice A R.length R.length] 50) = V := hV.symm
        rw [hVd]
        clear hV hVd
        refine hKd _ _ (x2.keep hbV) ?_
        have HBc : Below X.heap.size X V := gr_trans (gr_trans (gr_trans (gr_trans u1 v1) hbl) x1) hbV
        have HTc : TourIn V ⟨A, R.length, R⟩ := TourIn.to ⟨HRA.out, fun bb hb => (HRB.out bb hb).2⟩ (gr_trans x1 hbV)
        have HRA := Lib.hid HTc.lines
        have HRBc := Lib.hid HTc.blk
        have HCB : Hid (CellsBox V wd.heap.size lsT [.slice A R.length R.length]) := HCV
        obtain ⟨b, hbb⟩ : ∃ b, b = wd.heap.size := ⟨_, rfl⟩
        rw [← hbb] at HCB
        try rw [← hbb]
        clear hbb
        refine wpUp_one (i := 4) (by kernel_rfl) rfl rfl (fun w7 g1 g2 K4 hK4 => ?_)
        have HB7 : Below X.heap.size X w7 := gr_trans HBc g1
        have HV7 := HV.out.to HB7
        have HT7 : TourIn w7 ⟨A, R.length, R⟩ := TourIn.to ⟨HRA.out, HRBc.out⟩ g1
        have hc7 := HCB.out.keep g1
        have hown7 := HV7.own
        have zw7 := HB7.size
        refine wp_append_own _ _ _ _ (by rfl) w2.heap.size lsT i0 _ 1 24 Tryd.underlying29 hi hy0 hy1 hy2 rfl (by omega) (.slice A0 ts.length c0) ts.length _ (by rfl) hown7 ⟨b, 0, none⟩ 1 1 [.slice A R.length R.length] (by rfl) (by rfl) (news1 (hc7.cell (j := 0) rfl)) (by simp [Value.oneCell']) (by unfold maxLen; omega) (by omega) (by omega) ?_
        intro v5 w8 hown8 hgrow _
        obtain ⟨A5, c5, rfl, -, -⟩ := own_form hown8
        simp only [Act.put, List.setIfInBounds_toArray, List.set_cons_zero, List.set_cons_succ]
        have hx8 := list_other HV7 hgrow Bx 102 _ (by decide) (HBX.out.keep HB7)
        refine hK4 _ _ hx8 ?_
        refine wpUp_one (i := 5) (by kernel_rfl) rfl rfl (fun w9 q1 q2 K5 hK5 => ?_)
        obtain ⟨P1, P2, P3⟩ := list_append (t := ⟨A, R.length, R⟩) (n₀ := w2.heap.size) HB7 HV7 HT7 hgrow hown8 q1 (Nat.le_refl _) (by omega)
        have hx9 := (hx8.keep q1).apart ⟨W.heap.size, 0, none⟩ (.slice A5 (ts.length + 1) c5) (by simp only; omega)
        have b9 := boxed_below (list_box HV7 hgrow) q1
        have d9 := b9.cell
        have f9 := b9.frozen
        have z9 := b9.lt
        have HP1 := Lib.hid P1
        have HP2 := Lib.hid P2
        have HP3 := Lib.hid P3
        have HX9 := Lib.hid hx9
        clear P1 P2 P3 hx9 b9 hown7 hown8 hgrow hx8 hc7 HT7 HV7
        go_simp
        refine hK5 _ _ HX9.out (wpUp_done (by kernel_rfl) (fun W9 s1 s2 => NoPanic.normal ?_))
        have HKE9 : KE lsT w2.heap.size W.heap.size X W9 := HP2.out.trans (ke_of_below s1 (by have := HP2.out.size; omega))
        refine ⟨(HP3.out _).trans (keeps_of_below s1 _), HKE9, ⟨.slice A5 (ts.length + 1) c5, ts ++ [⟨A, R.length, R⟩], ?_⟩, hS.trans HKE9⟩
        rw [HWANT.out]
        exact HP1.out.to s1
      · go_simp
        refine (LINES.out _).mono ?_
        rintro e wl ⟨A, rfl, hRA, hRb, hbl⟩
        have HRA := Lib.hid hRA
        have HRB := Lib.hid hRb
        clear hRA hRb
        refine hKa _ _ (u2.keep hbl) ?_
        refine wpUp_two (i := 0) (j := 3) (by kernel_rfl) rfl rfl rfl rfl (fun wb v1 v2 Kb hKb => ?_) (fun wb v1 v2 Kb hKb => ?_)
        · have HVa := HV.out.to (gr_trans (gr_trans u1 hbl) v1)
          have da := HVa.box.cell
          have fa := HVa.box.frozen
          have za := HVa.box.lt
          clear HVa
          go_simp
          refine hKb _ _ v2 ?_
          clear da fa za
          refine wpUp_one (i := 3) (by kernel_rfl) rfl rfl (fun wd x1 x2 Kd hKd => ?_)
          go_simp
          obtain ⟨V, hV⟩ : ∃ V, V = wd.alloc (.cells #[.slice A R.length R.length] lsT) := ⟨_, rfl⟩
          have hbV : Below wd.heap.size wd V := by rw [hV]; exact (Below.refl _ _).alloc (Nat.le_refl _) _
          have HCV : Hid (CellsBox V wd.heap.size lsT [.slice A R.length R.length]) := by unfold Hid; rw [hV]; exact CellsBox.new wd _ _
          have hVd : wd.alloc (.cells #[.slice A R.length R.length] 50) = V := hV.symm
          rw [hVd]
          clear hV hVd
          refine hKd _ _ (x2.keep hbV) ?_
          have HBc : Below X.heap.size X V := gr_trans (gr_trans (gr_trans (gr_trans u1 hbl) v1) x1) hbV
          have HTc : TourIn V ⟨A, R.length, R⟩ := TourIn.to ⟨HRA.out, fun bb hb => (HRB.out bb hb).2⟩ (gr_trans (gr_trans v1 x1) hbV)
          have HRA := Lib.hid HTc.lines
          have HRBc := Lib.hid HTc.blk
          have HCB : Hid (CellsBox V wd.heap.size lsT [.slice A R.length R.length]) := HCV
          obtain ⟨b, hbb⟩ : ∃ b, b = wd.heap.size := ⟨_, rfl⟩
          rw [← hbb] at HCB
          try rw [← hbb]
          clear hbb
          refine wpUp_one (i := 4) (by kernel_rfl) rfl rfl (fun w7 g1 g2 K4 hK4 => ?_)
          have HB7 : Below X.heap.size X w7 := gr_trans HBc g1
          have HV7 := HV.out.to HB7
          have HT7 : TourIn w7 ⟨A, R.length, R⟩ := TourIn.to ⟨HRA.out, HRBc.out⟩ g1
          have hc7 := HCB.out.keep g1
          have hown7 := HV7.own
          have zw7 := HB7.size
          refine wp_append_own _ _ _ _ (by rfl) w2.heap.size lsT i0 _ 1 24 Tryd.underlying29 hi hy0 hy1 hy2 rfl (by omega) (.slice A0 ts.length c0) ts.length _ (by rfl) hown7 ⟨b, 0, none⟩ 1 1 [.slice A R.length R.length] (by rfl) (by rfl) (news1 (hc7.cell (j := 0) rfl)) (by simp [Value.oneCell']) (by unfold maxLen; omega) (by omega) (by omega) ?_
          intro v5 w8 hown8 hgrow _
          obtain ⟨A5, c5, rfl, -, -⟩ := own_form hown8
          simp only [Act.put, List.setIfInBounds_toArray, List.set_cons_zero, List.set_cons_succ]
          have hx8 := list_other HV7 hgrow Bx 102 _ (by decide) (HBX.out.keep HB7)
          refine hK4 _ _ hx8 ?_
          refine wpUp_one (i := 5) (by kernel_rfl) rfl rfl (fun w9 q1 q2 K5 hK5 => ?_)
          obtain ⟨P1, P2, P3⟩ := list_append (t := ⟨A, R.length, R⟩) (n₀ := w2.heap.size) HB7 HV7 HT7 hgrow hown8 q1 (Nat.le_refl _) (by omega)
          have hx9 := (hx8.keep q1).apart ⟨W.heap.size, 0, none⟩ (.slice A5 (ts.length + 1) c5) (by simp only; omega)
          have b9 := boxed_below (list_box HV7 hgrow) q1
          have d9 := b9.cell
          have f9 := b9.frozen
          have z9 := b9.lt
          have HP1 := Lib.hid P1
          have HP2 := Lib.hid P2
          have HP3 := Lib.hid P3
          have HX9 := Lib.hid hx9
          clear P1 P2 P3 hx9 b9 hown7 hown8 hgrow hx8 hc7 HT7 HV7
          go_simp
          refine hK5 _ _ HX9.out (wpUp_done (by kernel_rfl) (fun W9 s1 s2 => NoPanic.normal ?_))
          have HKE9 : KE lsT w2.heap.size W.heap.size X W9 := HP2.out.trans (ke_of_below s1 (by have := HP2.out.size; omega))
          refine ⟨(HP3.out _).trans (keeps_of_below s1 _), HKE9, ⟨.slice A5 (ts.length + 1) c5, ts ++ [⟨A, R.length, R⟩], ?_⟩, hS.trans HKE9⟩
          rw [HWANT.out]
          exact HP1.out.to s1
        · go_simp
          obtain ⟨V, hV⟩ : ∃ V, V = wb.alloc (.cells #[.slice A R.length R.length] lsT) := ⟨_, rfl⟩
          have hbV : Below wb.heap.size wb V := by rw [hV]; exact (Below.refl _ _).alloc (Nat.le_refl _) _
          have HCV : Hid (CellsBox V wb.heap.size lsT [.slice A R.length R.length]) := by unfold Hid; rw [hV]; exact CellsBox.new wb _ _
          have hVd : wb.alloc (.cells #[.slice A R.length R.length] 50) = V := hV.symm
          rw [hVd]
          clear hV hVd
          refine hKb _ _ (v2.keep hbV) ?_
          refine wpUp_one (i := 0) (by kernel_rfl) rfl rfl (fun wd x1 x2 Kd hKd => ?_)
          have HVa := HV.out.to (gr_trans (gr_trans (gr_trans (gr_trans u1 hbl) v1) hbV) x1)
          have da := HVa.box.cell
          have fa := HVa.box.frozen
          have za := HVa.box.lt
          clear HVa
          go_simp
          refine hKd _ _ x2 ?_
          clear da fa za
          have HBc : Below X.heap.size X wd := gr_trans (gr_trans (gr_trans (gr_trans u1 hbl) v1) hbV) x1
          have HTc : TourIn wd ⟨A, R.length, R⟩ := TourIn.to ⟨HRA.out, fun bb hb => (HRB.out bb hb).2⟩ (gr_trans (gr_trans v1 hbV) x1)
          have HRA := Lib.hid HTc.lines
          have HRBc := Lib.hid HTc.blk
          have HCB : Hid (CellsBox wd wb.heap.size lsT [.slice A R.length R.length]) := HCV.out.keep x1
          obtain ⟨b, hbb⟩ : ∃ b, b = wb.heap.size := ⟨_, rfl⟩
          rw [← hbb] at HCB
          try rw [← hbb]
          clear hbb
          refine wpUp_one (i := 4) (by kernel_rfl) rfl rfl (fun w7 g1 g2 K4 hK4 => ?_)
          have HB7 : Below X.heap.size X w7 := gr_trans HBc g1
          have HV7 := HV.out.to HB7
          have HT7 : TourIn w7 ⟨A, R.length, R⟩ := TourIn.to ⟨HRA.out, HRBc.out⟩ g1
          have hc7 := HCB.out.keep g1
          have hown7 := HV7.own
          have zw7 := HB7.size
          refine wp_append_own _ _ _ _ (by rfl) w2.heap.size lsT i0 _ 1 24 Tryd.underlying29 hi hy0 hy1 hy2 rfl (by omega) (.slice A0 ts.length c0) ts.length _ (by rfl) hown7 ⟨b, 0, none⟩ 1 1 [.slice A R.length R.length] (by rfl) (by rfl) (news1 (hc7.cell (j := 0) rfl)) (by simp [Value.oneCell']) (by unfold maxLen; omega) (by omega) (by omega) ?_
          intro v5 w8 hown8 hgrow _
          obtain ⟨A5, c5, rfl, -, -⟩ := own_form hown8
          simp only [Act.put, List.setIfInBounds_toArray, List.set_cons_zero, List.set_cons_succ]
          have hx8 := list_other HV7 hgrow Bx 102 _ (by decide) (HBX.out.keep HB7)
          refine hK4 _ _ hx8 ?_
          refine wpUp_one (i := 5) (by kernel_rfl) rfl rfl (fun w9 q1 q2 K5 hK5 => ?_)
          obtain ⟨P1, P2, P3⟩ := list_append (t := ⟨A, R.length, R⟩) (n₀ := w2.heap.size) HB7 HV7 HT7 hgrow hown8 q1 (Nat.le_refl _) (by omega)
          have hx9 := (hx8.keep q1).apart ⟨W.heap.size, 0, none⟩ (.slice A5 (ts.length + 1) c5) (by simp only; omega)
          have b9 := boxed_below (list_box HV7 hgrow) q1
          have d9 := b9.cell
          have f9 := b9.frozen
          have z9 := b9.lt
          have HP1 := Lib.hid P1
          have HP2 := Lib.hid P2
          have HP3 := Lib.hid P3
          have HX9 := Lib.hid hx9
          clear P1 P2 P3 hx9 b9 hown7 hown8 hgrow hx8 hc7 HT7 HV7
          go_simp
          refine hK5 _ _ HX9.out (wpUp_done (by kernel_rfl) (fun W9 s1 s2 => NoPanic.normal ?_))
          have HKE9 : KE lsT w2.heap.size W.heap.size X W9 := HP2.out.trans (ke_of_below s1 (by have := HP2.out.size; omega))
          refine ⟨(HP3.out _).trans (keeps_of_below s1 _), HKE9, ⟨.slice A5 (ts.length + 1) c5, ts ++ [⟨A, R.length, R⟩], ?_⟩, hS.trans HKE9⟩
          rw [HWANT.out]
          exact HP1.out.to s1
    case done =>
      rintro D xs X hD hxs ⟨⟨v, ts, hv⟩, hKE⟩ hDf
      rw [hxs] at hv
      have hcl := hv.box.cell
      have hlts : ts.length = all.length := by
        have := congrArg List.length hv.eq
        simpa using this
      have hv2 := hv.put (.deferred none) hDf rfl
      have hsz : (X.putObj D (.deferred none)).heap.size = X.heap.size := by simp
      obtain ⟨A5, c5, rfl, h1, h2, hrows⟩ := own_rows (m := ts.map STour.cells) (cells_tour ts) (by rw [cells_flat]; exact hv2.own) (by simp) (by omega)
      have HR := Lib.hid (tours_rows hrows hv2.each)
      have HEQ := Lib.hid hv2.eq
      have HBF : Hid (Below w.heap.size w (X.putObj D (.deferred none))) := (hB2.trans (hKE.spare.below (by omega) (by omega))).trans (belowK_b (w := w) (Nat.le_refl _) X D _ _ (by omega) hDf rfl rfl)
      clear hv hv2 hrows hsz
      gi_wp2
      refine ⟨by simp, .inl ⟨_, _, rfl, run_takeDeferred hDf, ?_⟩⟩
      exact ⟨_, results_tmp2 rfl _ _ _, A5, ts, by rw [hlts]; rfl, HR.out, HEQ.out, HBF.out⟩
end Go.Proofs.YtomgnpfpaodpiaaDoor

/- Contract of works: the chapter's examples. -/
namespace Go.Proofs.YtomgnpfpaodpiaaDoor
open Go Go.RowKit
set_option maxHeartbeats 8000000
theorem one_tour {ts : List STour} {l : List SLine} (h : ts.map STour.lines = [l]) : ∃ tA tc, ts = [⟨tA, tc, l⟩] := by
  cases ts with
  | nil => simp at h
  | cons t ts =>
    cases ts with
    | nil => simp at h; exact ⟨t.ad, t.cap, by rw [← h]⟩
    | cons _ _ => simp at h
section
variable (a0 a1 a2 a3 a4 a5 a6 : Option Addr)
theorem w_tours (w : World) (hl : Lim w) (h : FloorAt w w.heap.size (chap a0 a1 a2 a3 a4 a5 a6)) :
    Calls Tryd.prog 22 #[(chap a0 a1 a2 a3 a4 a5 a6).val, vi 2] w fun e w' => ∃ A tA tc, e = .returned (.tuple #[.slice A 1 1, vi 0]) ∧ ToursAt w' w'.heap.size A 1 [⟨tA, tc, [⟨0, 1⟩]⟩] ∧ Below w.heap.size w w' := by
  refine (Tours_any _ 2 w hl h).mono ?_
  rintro e w' ⟨A, ts, rfl, hT, hts, hb⟩
  rw [(ch_tours a0 a1 a2 a3 a4 a5 a6).1] at hts
  rw [(ch_tours a0 a1 a2 a3 a4 a5 a6).2]
  obtain ⟨tA, tc, rfl⟩ := one_tour hts
  exact ⟨A, tA, tc, rfl, hT, hb⟩
theorem w_is (t0 t1 A : Option Addr) (w : World) (hl : Lim w) (h : FloorAt w w.heap.size (chap a0 a1 a2 a3 a4 a5 a6)) (ht : ToursAt w w.heap.size A 2 [⟨t0, 2, [⟨0, 1⟩, ⟨2, 3⟩]⟩, ⟨t1, 1, [⟨0, 1⟩]⟩]) :
    Calls Tryd.prog 14 #[(chap a0 a1 a2 a3 a4 a5 a6).val, vi 0, .slice A 2 2] w fun e w' => e = .returned (.tuple #[.bool true, vi 0]) ∧ Below w.heap.size w w' := by
  have := IsTours_any _ 0 A 2 _ w hl h ht
  rw [ch_is, (ch_takes a0 a1 a2 a3 a4 a5 a6).2] at this
  exact this
theorem w_done (t0 t1 A : Option Addr) (w : World) (hl : Lim w) (h : FloorAt w w.heap.size (chap a0 a1 a2 a3 a4 a5 a6)) (ht : RosterAt w w.heap.size A 2 [⟨t0, 2, [2, 1]⟩, ⟨t1, 2, [0, 3]⟩]) :
    Calls Tryd.prog 25 #[(chap a0 a1 a2 a3 a4 a5 a6).val, .slice A 2 2] w fun e w' => ∃ R, e = .returned (.tuple #[.slice R 4 4, vi 0]) ∧ RowsAt w' w'.heap.size 2 R 4 ([(140, 252), (95, 188), (25, 48), (365, 654)].map spanC) ∧ Below w.heap.size w w' := by
  have := Done_any _ A 2 _ w hl h ht
  rw [ch_done] at this
  exact this
theorem w_roster (w : World) (hl : Lim w) (h : FloorAt w w.heap.size (chap a0 a1 a2 a3 a4 a5 a6)) :
    Calls Tryd.prog 28 #[(chap a0 a1 a2 a3 a4 a5 a6).val] w fun e w' => ∃ A, e = .returned (.tuple #[.slice A 2 2, vi 0]) ∧ Below w.heap.size w w' := by
  refine (Roster_any _ w hl h).mono ?_
  rintro e w' ⟨A, ts, rfl, hT, hts, hb⟩
  have h1 := congrArg List.length hts
  rw [List.length_map, List.length_map, (ch_roster a0 a1 a2 a3 a4 a5 a6).1] at h1
  rw [(ch_roster a0 a1 a2 a3 a4 a5 a6).2, h1]
  exact ⟨A, rfl, hb⟩
theorem w_late (w : World) (hl : Lim w) (h : FloorAt w w.heap.size (chap a0 a1 a2 a3 a4 a5 a6)) :
    Calls Tryd.prog 30 #[(chap a0 a1 a2 a3 a4 a5 a6).val, vi 1] w fun e w' => ∃ A, e = .returned (.tuple #[.slice A 1 1, vi 0]) ∧ IntsAt w' w'.heap.size A 1 [0] ∧ Below w.heap.size w w' := by
  have := Late_any _ 1 w hl h
  rw [ch_late] at this
  exact this
theorem w_spare (w : World) (hl : Lim w) (h : FloorAt w w.heap.size (chap a0 a1 a2 a3 a4 a5 a6)) :
    Calls Tryd.prog 33 #[(chap a0 a1 a2 a3 a4 a5 a6).val, vi 3] w fun e w' => e = .returned (.tuple #[vi 542, vi 0]) ∧ Below w.heap.size w w' := by
  refine (Spare_any _ 3 w hl h).mono ?_
  rintro e w' ⟨v, c, rfl, hs, hb⟩
  obtain ⟨rfl, rfl⟩ := ch_spare a0 a1 a2 a3 a4 a5 a6 hs
  exact ⟨rfl, hb⟩
end
set_option maxRecDepth 100000 in
theorem works_any (w : World) (hl : Lim w) :
    Calls Tryd.prog 23 #[] w fun e w' => e = .returned (.bool true) ∧ Below w.heap.size w w' := by
  have HL := Lib.hid hl
  clear hl
  go_enter Tryd.func23, Tryd.ntmps23
  go_wp2_with fail
  refine (floor_any _).mono ?_
  rintro e w1 ⟨a0, a1, a2, a3, a4, a5, a6, rfl, hF, hb⟩
  have HB : Below w.heap.size w w1 := hb
  clear hb
  have HF := Lib.hid hF
  clear hF
  go_wp2_with fail
  refine (Steps_any (chap a0 a1 a2 a3 a4 a5 a6) 3 _ (HL.out.next HB) HF.out).mono ?_
  rintro e w2 ⟨rfl, hb⟩
  rw [(ch_steps a0 a1 a2 a3 a4 a5 a6).1, (ch_steps a0 a1 a2 a3 a4 a5 a6).2]
  replace HB : Below w.heap.size w w2 := HB.trans (hb.mono HB.size)
  replace HF := Lib.hid (HF.out.to hb)
  clear hb
  go_wp2_with fail
  clear HF
  refine (floor_any _).mono ?_
  rintro e w3 ⟨a0, a1, a2, a3, a4, a5, a6, rfl, hF, hb⟩
  replace HB : Below w.heap.size w w3 := HB.trans (hb.mono HB.size)
  clear hb
  have HF := Lib.hid hF
  clear hF
  go_wp2_with fail
  refine (Takes_any (chap a0 a1 a2 a3 a4 a5 a6) 0 _ (HL.out.next HB) HF.out).mono ?_
  rintro e w4 ⟨rfl, hb⟩
  rw [(ch_takes a0 a1 a2 a3 a4 a5 a6).1, (ch_takes a0 a1 a2 a3 a4 a5 a6).2]
  replace HB : Below w.heap.size w w4 := HB.trans (hb.mono HB.size)
  replace HF := Lib.hid (HF.out.to hb)
  clear hb
  go_wp2_with fail
  clear HF
  refine (floor_any _).mono ?_
  rintro e w5 ⟨a0, a1, a2, a3, a4, a5, a6, rfl, hF, hb⟩
  have HS : CellsBox w5 (w4.heap.size) 24 [vi 140, vi 252] := by
    have h := (CellsBox.new w4 24 [vi 140, vi 252]).keep hb
    first | exact h | simpa only [World.size_alloc] using h
  replace hb : Below w4.heap.size w4 w5 := by
    exact gr_trans (((Below.refl w4.heap.size w4).alloc (by first | exact Nat.le_refl _ | (simp only [World.size_alloc]; omega)) _)) hb
  replace HB : Below w.heap.size w w5 := HB.trans (hb.mono HB.size)
  have HS := Lib.hid HS
  clear hb
  have HF := Lib.hid hF
  clear hF
  go_wp2_with fail
  refine (w_tours a0 a1 a2 a3 a4 a5 a6 _ (HL.out.next HB) HF.out).mono ?_
  rintro e w6 ⟨A, tA, tc, rfl, hT, hb⟩
  replace HB : Below w.heap.size w w6 := HB.trans (hb.mono HB.size)
  replace HS := Lib.hid (HS.out.keep hb)
  replace HF := Lib.hid (HF.out.to hb)
  clear hb
  have HT := Lib.hid hT
  clear hT
  go_wp2_with fail
  clear HF
  refine (floor_any _).mono ?_
  rintro e w7 ⟨a0, a1, a2, a3, a4, a5, a6, rfl, hF, hb⟩
  replace HB : Below w.heap.size w w7 := HB.trans (hb.mono HB.size)
  replace HS := Lib.hid (HS.out.keep hb)
  replace HT := Lib.hid (HT.out.to hb)
  clear hb
  have HF := Lib.hid hF
  clear hF
  go_wp2_with fail
  refine (of_is _ _ _).mono ?_
  rintro e w8 ⟨rfl, hb⟩
  replace HB : Below w.heap.size w w8 := HB.trans (hb.mono HB.size)
  replace HS := Lib.hid (HS.out.keep hb)
  replace HT := Lib.hid (HT.out.to hb)
  replace HF := Lib.hid (HF.out.to hb)
  clear hb
  go_wp2_with fail
  refine (of_is _ _ _).mono ?_
  rintro e w9 ⟨rfl, hb⟩
  replace HB : Below w.heap.size w w9 := HB.trans (hb.mono HB.size)
  replace HS := Lib.hid (HS.out.keep hb)
  replace HT := Lib.hid (HT.out.to hb)
  replace HF := Lib.hid (HF.out.to hb)
  clear hb
  go_wp2_with fail
  refine (of_is _ _ _).mono ?_
  rintro e w10 ⟨rfl, hb⟩
  have H1 : CellsBox w10 (w9.heap.size) 64 [vi 0, vi 1, vi 2, vi 3] := by
    have h := (CellsBox.new w9 64 [vi 0, vi 1, vi 2, vi 3]).keep hb
    first | exact h | simpa only [World.size_alloc] using h
  replace hb : Below w9.heap.size w9 w10 := by
    exact gr_trans (((Below.refl w9.heap.size w9).alloc (by first | exact Nat.le_refl _ | (simp only [World.size_alloc]; omega)) _)) hb
  replace HB : Below w.heap.size w w10 := HB.trans (hb.mono HB.size)
  replace HS := Lib.hid (HS.out.keep hb)
  replace HT := Lib.hid (HT.out.to hb)
  replace HF := Lib.hid (HF.out.to hb)
  have H1 := Lib.hid H1
  clear hb
  go_wp2_with fail
  obtain ⟨V, hV⟩ : ∃ V, V = ((w10.alloc (.cells #[vi 0, vi 1] 64)).alloc (.cells #[.slice (some ⟨w9.heap.size, 0, none⟩) 2 2, .slice (some ⟨w10.heap.size, 0, none⟩) 1 1] 50)) := ⟨_, rfl⟩
  have hbV : Below w10.heap.size w10 V := by rw [hV]; exact ((Below.refl w10.heap.size w10).alloc (Nat.le_refl _) _).alloc (by simp only [World.size_alloc]; omega) _
  have hTV : ToursAt V V.heap.size (some ⟨w10.heap.size + 1, 0, none⟩) 2 [⟨some ⟨w9.heap.size, 0, none⟩, 2, [⟨0, 1⟩, ⟨2, 3⟩]⟩, ⟨some ⟨w10.heap.size, 0, none⟩, 1, [⟨0, 1⟩]⟩] := by
    have b1 := H1.out.keep hbV
    have b2 : CellsBox V w10.heap.size 64 [vi 0, vi 1] := by rw [hV]; exact (CellsBox.new w10 _ _).alloc _
    have b3 : CellsBox V (w10.heap.size + 1) 50 [.slice (some ⟨w9.heap.size, 0, none⟩) 2 2, .slice (some ⟨w10.heap.size, 0, none⟩) 1 1] := by
      rw [hV]
      have h := CellsBox.new (w10.alloc (.cells #[vi 0, vi 1] 64)) 50 [.slice (some ⟨w9.heap.size, 0, none⟩) 2 2, .slice (some ⟨w10.heap.size, 0, none⟩) 1 1]
      rwa [World.size_alloc] at h
    refine ⟨⟨by simp, by simp, by simp, row_of_box b3 (by intro r hr; obtain ⟨p, _, rfl⟩ := List.mem_map.1 hr; rfl)⟩, fun t ht => ?_⟩
    simp only [List.mem_cons, List.not_mem_nil, or_false] at ht
    rcases ht with rfl | rfl
    · exact ⟨by simp, by simp, by simp, row_of_box b1 (by intro r hr; obtain ⟨p, _, rfl⟩ := List.mem_map.1 hr; rfl)⟩
    · exact ⟨by simp, by simp, by simp, row_of_box b2 (by intro r hr; obtain ⟨p, _, rfl⟩ := List.mem_map.1 hr; rfl)⟩
  rw [← hV]
  replace HB : Below w.heap.size w V := HB.trans (hbV.mono HB.size)
  replace HS := Lib.hid (HS.out.keep hbV)
  replace HT := Lib.hid (HT.out.to hbV)
  replace HF := Lib.hid (HF.out.to hbV)
  replace H1 := Lib.hid (H1.out.keep hbV)
  clear hV hbV H1
  refine (w_is a0 a1 a2 a3 a4 a5 a6 _ _ _ _ (HL.out.next HB) HF.out hTV).mono ?_
  rintro e w11 ⟨rfl, hb⟩
  replace HB : Below w.heap.size w w11 := HB.trans (hb.mono HB.size)
  replace HS := Lib.hid (HS.out.keep hb)
  replace HT := Lib.hid (HT.out.to hb)
  replace HF := Lib.hid (HF.out.to hb)
  clear hb hTV
  go_wp2_with fail
  obtain ⟨tb, to_, rfl, htb, t0⟩ := row1 (k := 0) HT.out.rows.row rfl rfl
  obtain ⟨lb, lo_, rfl, hlb, l0, l1⟩ := row2 (k := 0) (HT.out.each ⟨tA, tc, [⟨0, 1⟩]⟩ (by simp)).row rfl rfl
  replace t0 : w11.cell? ⟨tb, to_, none⟩ = some (.slice (some ⟨lb, lo_, none⟩) 1 tc) := t0
  replace l0 : w11.cell? ⟨lb, lo_, none⟩ = some (vi 0) := by simpa using l0
  replace l1 : w11.cell? ⟨lb, lo_ + 1, none⟩ = some (vi 1) := by simpa using l1
  have s0 := HS.out.cell (j := 0) rfl
  have s1 := HS.out.cell (j := 1) rfl
  have zs := HS.out.lt
  refine wp_region_grow_lit (by kernel_rfl) (by kernel_rfl) ?_
  (repeat (go_big_quiet_step (first | (go_at_call 44; refine Calls.grow_of (to_any _ _ _)) | (go_at_call 51; refine Calls.grow_of (of_is _ _ _)))))
  refine wpQuiet_nil ?_
  intro w12 hw1
  have hb := below_of_plus hw1
  replace HB : Below w.heap.size w w12 := HB.trans (hb.mono HB.size)
  clear hw1 hb HS HT HF s0 s1 zs t0 l0 l1 htb hlb
  go_wp2_with fail
  refine (floor_any _).mono ?_
  rintro e w13 ⟨a0, a1, a2, a3, a4, a5, a6, rfl, hF, hb⟩
  replace HB : Below w.heap.size w w13 := HB.trans (hb.mono HB.size)
  clear hb
  have HF := Lib.hid hF
  clear hF
  go_wp2_with fail
  obtain ⟨V, hV⟩ : ∃ V, V = (((w13.alloc (.cells #[vi 2, vi 1] 3)).alloc (.cells #[vi 0, vi 3] 3)).alloc (.cells #[.slice (some ⟨w13.heap.size, 0, none⟩) 2 2, .slice (some ⟨w13.heap.size + 1, 0, none⟩) 2 2] 22)) := ⟨_, rfl⟩
  have hbV : Below w13.heap.size w13 V := by rw [hV]; exact (((Below.refl w13.heap.size w13).alloc (Nat.le_refl _) _).alloc (by simp only [World.size_alloc]; omega) _).alloc (by simp only [World.size_alloc]; omega) _
  have hTV : RosterAt V V.heap.size (some ⟨w13.heap.size + 1 + 1, 0, none⟩) 2 [⟨some ⟨w13.heap.size, 0, none⟩, 2, [2, 1]⟩, ⟨some ⟨w13.heap.size + 1, 0, none⟩, 2, [0, 3]⟩] := by
    have b1 : CellsBox V w13.heap.size 3 [vi 2, vi 1] := by rw [hV]; exact ((CellsBox.new w13 _ _).alloc _).alloc _
    have b2 : CellsBox V (w13.heap.size + 1) 3 [vi 0, vi 3] := by
      rw [hV]
      have h := (CellsBox.new (w13.alloc (.cells #[vi 2, vi 1] 3)) 3 [vi 0, vi 3]).alloc (.cells #[.slice (some ⟨w13.heap.size, 0, none⟩) 2 2, .slice (some ⟨w13.heap.size + 1, 0, none⟩) 2 2] 22)
      rwa [World.size_alloc] at h
    have b3 : CellsBox V (w13.heap.size + 1 + 1) 22 [.slice (some ⟨w13.heap.size, 0, none⟩) 2 2, .slice (some ⟨w13.heap.size + 1, 0, none⟩) 2 2] := by
      rw [hV]
      have h := CellsBox.new ((w13.alloc (.cells #[vi 2, vi 1] 3)).alloc (.cells #[vi 0, vi 3] 3)) 22 [.slice (some ⟨w13.heap.size, 0, none⟩) 2 2, .slice (some ⟨w13.heap.size + 1, 0, none⟩) 2 2]
      rwa [World.size_alloc, World.size_alloc] at h
    refine ⟨⟨by simp, by simp, by simp, row_of_box b3 (by intro r hr; obtain ⟨p, _, rfl⟩ := List.mem_map.1 hr; rfl)⟩, fun t ht => ?_⟩
    simp only [List.mem_cons, List.not_mem_nil, or_false] at ht
    rcases ht with rfl | rfl
    · exact ⟨by simp, by simp, by simp, row_of_box b1 (by intro r hr; obtain ⟨p, _, rfl⟩ := List.mem_map.1 hr; rfl)⟩
    · exact ⟨by simp, by simp, by simp, row_of_box b2 (by intro r hr; obtain ⟨p, _, rfl⟩ := List.mem_map.1 hr; rfl)⟩
  rw [← hV]
  replace HB : Below w.heap.size w V := HB.trans (hbV.mono HB.size)
  replace HF := Lib.hid (HF.out.to hbV)
  clear hV hbV
  refine (w_done a0 a1 a2 a3 a4 a5 a6 _ _ _ _ (HL.out.next HB) HF.out hTV).mono ?_
  rintro e w14 ⟨dR, rfl, hD, hb⟩
  replace HB : Below w.heap.size w w14 := HB.trans (hb.mono HB.size)
  clear hb hTV HF
  have HD := Lib.hid hD
  clear hD
  go_wp2_with fail
  refine (floor_any _).mono ?_
  rintro e w15 ⟨a0, a1, a2, a3, a4, a5, a6, rfl, hF, hb⟩
  replace HB : Below w.heap.size w w15 := HB.trans (hb.mono HB.size)
  replace HD := Lib.hid (HD.out.to hb)
  clear hb
  have HF := Lib.hid hF
  clear hF
  go_wp2_with fail
  refine (w_roster a0 a1 a2 a3 a4 a5 a6 _ (HL.out.next HB) HF.out).mono ?_
  rintro e w16 ⟨rA, rfl, hb⟩
  replace HB : Below w.heap.size w w16 := HB.trans (hb.mono HB.size)
  replace HD := Lib.hid (HD.out.to hb)
  replace HF := Lib.hid (HF.out.to hb)
  clear hb
  clear HF
  go_wp2_with fail
  refine (floor_any _).mono ?_
  rintro e w17 ⟨a0, a1, a2, a3, a4, a5, a6, rfl, hF, hb⟩
  replace HB : Below w.heap.size w w17 := HB.trans (hb.mono HB.size)
  replace HD := Lib.hid (HD.out.to hb)
  clear hb
  have HF := Lib.hid hF
  clear hF
  go_wp2_with fail
  refine (w_late a0 a1 a2 a3 a4 a5 a6 _ (HL.out.next HB) HF.out).mono ?_
  rintro e w18 ⟨lA, rfl, hI, hb⟩
  replace HB : Below w.heap.size w w18 := HB.trans (hb.mono HB.size)
  replace HD := Lib.hid (HD.out.to hb)
  replace HF := Lib.hid (HF.out.to hb)
  clear hb
  clear HF
  have HI := Lib.hid hI
  clear hI
  go_wp2_with fail
  refine (floor_any _).mono ?_
  rintro e w19 ⟨a0, a1, a2, a3, a4, a5, a6, rfl, hF, hb⟩
  replace HB : Below w.heap.size w w19 := HB.trans (hb.mono HB.size)
  replace HD := Lib.hid (HD.out.to hb)
  replace HI := Lib.hid (HI.out.to hb)
  clear hb
  have HF := Lib.hid hF
  clear hF
  go_wp2_with fail
  refine (w_spare a0 a1 a2 a3 a4 a5 a6 _ (HL.out.next HB) HF.out).mono ?_
  rintro e w20 ⟨rfl, hb⟩
  replace HB : Below w.heap.size w w20 := HB.trans (hb.mono HB.size)
  replace HD := Lib.hid (HD.out.to hb)
  replace HI := Lib.hid (HI.out.to hb)
  replace HF := Lib.hid (HF.out.to hb)
  clear hb
  clear HF
  go_wp2_with fail
  refine (to_any _ _ _).mono ?_
  rintro e w21 ⟨rfl, hb⟩
  replace HB : Below w.heap.size w w21 := HB.trans (hb.mono HB.size)
  replace HD := Lib.hid (HD.out.to hb)
  replace HI := Lib.hid (HI.out.to hb)
  clear hb
  go_wp2_with fail
  refine (to_any _ _ _).mono ?_
  rintro e w22 ⟨rfl, hb⟩
  replace HB : Below w.heap.size w w22 := HB.trans (hb.mono HB.size)
  replace HD := Lib.hid (HD.out.to hb)
  replace HI := Lib.hid (HI.out.to hb)
  clear hb
  go_wp2_with fail
  refine (to_any _ _ _).mono ?_
  rintro e w23 ⟨rfl, hb⟩
  replace HB : Below w.heap.size w w23 := HB.trans (hb.mono HB.size)
  replace HD := Lib.hid (HD.out.to hb)
  replace HI := Lib.hid (HI.out.to hb)
  clear hb
  go_wp2_with fail
  refine (to_any _ _ _).mono ?_
  rintro e w24 ⟨rfl, hb⟩
  replace HB : Below w.heap.size w w24 := HB.trans (hb.mono HB.size)
  replace HD := Lib.hid (HD.out.to hb)
  replace HI := Lib.hid (HI.out.to hb)
  clear hb
  go_wp2_with fail
  have hbA : Below w24.heap.size w24 (w24.alloc (.cells #[vi 140, vi 252, vi 95, vi 188, vi 25, vi 48, vi 365, vi 654] 24)) := (Below.refl _ _).alloc (Nat.le_refl _) _
  have HB1 : Below w.heap.size w (w24.alloc (.cells #[vi 140, vi 252, vi 95, vi 188, vi 25, vi 48, vi 365, vi 654] 24)) := HB.trans (hbA.mono HB.size)
  have hsp : RowsAt (w24.alloc (.cells #[vi 140, vi 252, vi 95, vi 188, vi 25, vi 48, vi 365, vi 654] 24)) (w24.alloc (.cells #[vi 140, vi 252, vi 95, vi 188, vi 25, vi 48, vi 365, vi 654] 24)).heap.size 2 (some ⟨w24.heap.size, 0, none⟩) 4 ([((140 : Int), (252 : Int)), (95, 188), (25, 48), (365, 654)].map spanC) := ⟨by simp, by simp, by simp, row_of_box (CellsBox.new w24 24 [vi 140, vi 252, vi 95, vi 188, vi 25, vi 48, vi 365, vi 654]) (by intro r hr; obtain ⟨p, _, rfl⟩ := List.mem_map.1 hr; rfl)⟩
  refine (matchSpans_free dR (some ⟨w24.heap.size, 0, none⟩) 4 4 [((140 : Int), (252 : Int)), (95, 188), (25, 48), (365, 654)] [((140 : Int), (252 : Int)), (95, 188), (25, 48), (365, 654)] _ (HD.out.to hbA) hsp).mono ?_
  rintro e w25 ⟨rfl, hb⟩
  rw [show decide ([((140 : Int), (252 : Int)), (95, 188), (25, 48), (365, 654)] = [((140 : Int), (252 : Int)), (95, 188), (25, 48), (365, 654)]) = true by decide]
  replace HB : Below w.heap.size w w25 := HB1.trans (hb.mono HB1.size)
  replace HI := Lib.hid ((HI.out.to hbA).to hb)
  clear hb hbA HB1 hsp HD
  go_wp2_with fail
  have hbA : Below w25.heap.size w25 (w25.alloc (.cells #[vi 0] 3)) := (Below.refl _ _).alloc (Nat.le_refl _) _
  have HB1 : Below w.heap.size w (w25.alloc (.cells #[vi 0] 3)) := HB.trans (hbA.mono HB.size)
  have hsp : IntsAt (w25.alloc (.cells #[vi 0] 3)) (w25.alloc (.cells #[vi 0] 3)).heap.size (some ⟨w25.heap.size, 0, none⟩) 1 [0] := ⟨by simp, by simp, by simp, row_of_box (CellsBox.new w25 3 [vi 0]) (by intro r hr; obtain ⟨p, _, rfl⟩ := List.mem_map.1 hr; rfl)⟩
  refine (match_free lA (some ⟨w25.heap.size, 0, none⟩) 1 1 [0] [0] _ (HI.out.to hbA) hsp).mono ?_
  rintro e w26 ⟨rfl, hb⟩
  rw [show decide ([(0 : Int)] = [0]) = true by decide]
  replace HB : Below w.heap.size w w26 := HB1.trans (hb.mono HB1.size)
  clear hb hbA HB1 hsp HI
  go_wp2_with fail
  go_ret
  exact ⟨rfl, HB⟩
end Go.Proofs.YtomgnpfpaodpiaaDoor

/- Contract of the specification's Check, where the head of a floor is wrong. -/
namespace Go.Proofs.YtomgnpfpaodpiaaDoor
open Go Go.RowKit
set_option maxHeartbeats 4000000
def properB (a b c d : Int) : Bool := decide (c ≤ a) && decide (a ≤ b) && decide (b ≤ d)
theorem proper_is {a b c d : Int} {v : Bool} (hv : properB a b c d = v) (w : World) :
    Calls Tryd.prog 58 #[.agg #[vi a, vi b], vi c, vi d] w fun e w' => e = .returned (.bool v) ∧ Below w.heap.size w w' := by
  subst hv
  exact proper_any a b c d w
theorem proper_within (a b c d : Int) : properB a b c d = withinB c d a b := by
  unfold properB withinB hasB
  by_cases h1 : c ≤ a <;> by_cases h2 : a ≤ b <;> by_cases h3 : b ≤ d
  all_goals (simp [h1, h2, h3] <;> omega)
/-- the head of a floor -/
def headB (f : Floor) : Bool := hasB 1 12 f.far.length && (decide (f.picks.length = f.far.length) && (properB f.slo f.shi 1 10 && (hasB 1 20 f.carry && decide (f.slips.length ≤ 9))))
theorem valid_head (f : Floor) : validB f = (headB f && ((List.range f.far.length).all (goodShelf f) && (List.range f.slips.length).all (goodSlip f))) := by
  unfold validB shelvesB headB
  rw [proper_within]
  have e1 : decide ((f.picks.length : Int) = f.far.length) = decide (f.picks.length = f.far.length) := by
    by_cases h : f.picks.length = f.far.length
    · simp [h]
    · have : ¬ (f.picks.length : Int) = f.far.length := by omega
      simp [h, this]
  have e2 : hasB 0 9 f.slips.length = decide (f.slips.length ≤ 9) := by
    unfold hasB
    by_cases h : f.slips.length ≤ 9
    · have : (f.slips.length : Int) ≤ 9 := by omega
      simp [h, this]
    · have : ¬ (f.slips.length : Int) ≤ 9 := by omega
      simp [h, this]
  rw [e1, e2]
  generalize hasB 1 12 f.far.length = x1
  generalize decide (f.picks.length = f.far.length) = x2
  generalize withinB 1 10 f.slo f.shi = x3
  generalize hasB 1 20 f.carry = x4
  generalize decide (f.slips.length ≤ 9) = x5
  generalize (List.range f.far.length).all (goodShelf f) = x6
  generalize (List.range f.slips.length).all (goodSlip f) = x7
  cases x1 <;> cases x2 <;> cases x3 <;> cases x4 <;> cases x5 <;> cases x6 <;> cases x7 <;> rfl
set_option maxRecDepth 100000 in
theorem rcheck_no (f : Floor) (w : World) (h : FloorAt w w.heap.size f) (hb : headB f = false) :
    Calls Tryd.prog 17 #[f.val] w fun e w' => e = .returned (vi 30) ∧ Below w.heap.size w w' := by
  have h1l := h.far.lens
  have h2l := h.picks.lens
  have h3l := h.slips.lens
  obtain ⟨fA, fC, ff, slo, shi, pA, pC, fp, fc, sA, sC, fs⟩ := f
  unfold headB at hb
  simp only at hb h1l h2l h3l
  clear h
  show Calls Tryd.prog 17 #[.agg #[.slice fA ff.length fC, vi slo, vi shi, .slice pA fp.length pC, vi fc, .slice sA fs.length sC]] w _
  rcases h1 : hasB 1 12 ff.length with _ | _
  · clear hb
    have H1 := Lib.hid h1
    clear h1
    go_enter Tryd.func17, Tryd.ntmps17
    go_wp2_with (go_at_call_of 39 ff; refine (tween_is H1.out _).mono ?_; rintro e w1 ⟨rfl, rfl⟩)
    go_rounds 2
    go_wp2_with fail
    go_rounds 2
    go_ret
    refine ⟨rfl, ?_⟩
    (repeat (first | exact Below.refl _ _ | refine Below.setCell ?_ (by first | omega | (simp; omega) | (simp; done)) _ | refine Below.alloc ?_ (by first | omega | (simp; omega) | (simp; done)) _ | refine Below.drew ?_ | refine below_drewN ?_ _ | refine Below.trans ?_ (Below.mono (by assumption) (by first | omega | (simp; omega) | (simp; done)))))
  have H1 := Lib.hid h1
  by_cases h2 : fp.length = ff.length
  · have h2e : ((fp.length : Int) == (ff.length : Int)) = true := by simp [h2]
    rcases h3 : properB slo shi 1 10 with _ | _
    · have H3 := Lib.hid h3
      clear hb h1 h2 h3
      go_enter Tryd.func17, Tryd.ntmps17
      go_wp2_with (first | (go_at_call_of 39 ff; refine (tween_is H1.out _).mono ?_; rintro e w1 ⟨rfl, rfl⟩) | (go_at_call 58; refine (proper_is H3.out _).mono ?_; rintro e w1 ⟨rfl, hb1⟩; obtain ⟨⟨hc1, hf1, hs1⟩, hz1⟩ := after hb1; (try simp only [World.size_alloc, World.size_setCell, World.size_drew] at hz1)))
      go_rounds 2
      go_wp2_with fail
      go_rounds 2
      go_ret
      refine ⟨rfl, ?_⟩
      (repeat (first | exact Below.refl _ _ | refine Below.setCell ?_ (by first | omega | (simp; omega) | (simp; done)) _ | refine Below.alloc ?_ (by first | omega | (simp; omega) | (simp; done)) _ | refine Below.drew ?_ | refine below_drewN ?_ _ | refine Below.trans ?_ (Below.mono (by assumption) (by first | omega | (simp; omega) | (simp; done)))))
    have H3 := Lib.hid h3
    rcases h4 : hasB 1 20 fc with _ | _
    · have H4 := Lib.hid h4
      clear hb h1 h2 h3 h4
      go_enter Tryd.func17, Tryd.ntmps17
      go_wp2_with (first | (go_at_call_of 39 ff; refine (tween_is H1.out _).mono ?_; rintro e w1 ⟨rfl, rfl⟩) | (go_at_call 58; refine (proper_is H3.out _).mono ?_; rintro e w1 ⟨rfl, hb1⟩; obtain ⟨⟨hc1, hf1, hs1⟩, hz1⟩ := after hb1; (try simp only [World.size_alloc, World.size_setCell, World.size_drew] at hz1)) | (go_at_call_of 39 fc; refine (tween_is H4.out _).mono ?_; rintro e w1 ⟨rfl, rfl⟩))
      go_rounds 2
      go_wp2_with fail
      go_rounds 2
      go_ret
      refine ⟨rfl, ?_⟩
      (repeat (first | exact Below.refl _ _ | refine Below.setCell ?_ (by first | omega | (simp; omega) | (simp; done)) _ | refine Below.alloc ?_ (by first | omega | (simp; omega) | (simp; done)) _ | refine Below.drew ?_ | refine below_drewN ?_ _ | refine Below.trans ?_ (Below.mono (by assumption) (by first | omega | (simp; omega) | (simp; done)))))
    have H4 := Lib.hid h4
    have h5 : ¬ (fs.length : Int) ≤ 9 := by
      rw [h1, h3, h4] at hb
      simp [h2] at hb
      omega
    have h5d : decide ((fs.length : Int) ≤ 9) = false := by simpa using h5
    clear hb h1 h2 h3 h4 h5
    go_enter Tryd.func17, Tryd.ntmps17
    go_wp2_with (first | (go_at_call_of 39 ff; refine (tween_is H1.out _).mono ?_; rintro e w1 ⟨rfl, rfl⟩) | (go_at_call 58; refine (proper_is H3.out _).mono ?_; rintro e w1 ⟨rfl, hb1⟩; obtain ⟨⟨hc1, hf1, hs1⟩, hz1⟩ := after hb1; (try simp only [World.size_alloc, World.size_setCell, World.size_drew] at hz1)) | (go_at_call_of 39 fc; refine (tween_is H4.out _).mono ?_; rintro e w1 ⟨rfl, rfl⟩))
    go_rounds 2
    go_wp2_with fail
    go_rounds 2
    go_ret
    refine ⟨rfl, ?_⟩
    (repeat (first | exact Below.refl _ _ | refine Below.setCell ?_ (by first | omega | (simp; omega) | (simp; done)) _ | refine Below.alloc ?_ (by first | omega | (simp; omega) | (simp; done)) _ | refine Below.drew ?_ | refine below_drewN ?_ _ | refine Below.trans ?_ (Below.mono (by assumption) (by first | omega | (simp; omega) | (simp; done)))))
  · have h2e : ((fp.length : Int) == (ff.length : Int)) = false := by simp; omega
    clear hb h1 h2
    go_enter Tryd.func17, Tryd.ntmps17
    go_wp2_with (go_at_call_of 39 ff; refine (tween_is H1.out _).mono ?_; rintro e w1 ⟨rfl, rfl⟩)
    go_rounds 2
    go_wp2_with fail
    go_rounds 2
    go_ret
    refine ⟨rfl, ?_⟩
    (repeat (first | exact Below.refl _ _ | refine Below.setCell ?_ (by first | omega | (simp; omega) | (simp; done)) _ | refine Below.alloc ?_ (by first | omega | (simp; omega) | (simp; done)) _ | refine Below.drew ?_ | refine below_drewN ?_ _ | refine Below.trans ?_ (Below.mono (by assumption) (by first | omega | (simp; omega) | (simp; done)))))
end Go.Proofs.YtomgnpfpaodpiaaDoor

/- Contract of the specification's Check. -/
namespace Go.Proofs.YtomgnpfpaodpiaaDoor
open Go Go.RowKit
set_option maxHeartbeats 4000000
def lastR (f : Floor) (k : Nat) : Int := match k with | 0 => 0 | i + 1 => (f.far[i]?).getD 0
theorem shelf_ref {f : Floor} {k : Nat} {x : Int} {q : Int × Int} (h : f.far[k]? = some x) (h2 : f.picks[k]? = some q) (h0 : 0 ≤ lastR f k) : goodShelf f k = (hasB (lastR f k) 500 x && properB q.1 q.2 0 300) := by
  rw [goodShelf_of h h2, proper_within]
  congr 1
  unfold hasB climbsAt lastR
  cases k with
  | zero => simp
  | succ i =>
    have hi : i < f.far.length := by have := (List.getElem?_eq_some_iff.1 h).1; omega
    show (decide (0 ≤ x) && decide (x ≤ 500) && (match f.far[i]? with | some p => decide (p ≤ x) | none => true)) = (decide ((f.far[i]?).getD 0 ≤ x) && decide (x ≤ 500))
    change 0 ≤ (f.far[i]?).getD 0 at h0
    rw [List.getElem?_eq_getElem hi] at h0 ⊢
    simp only [Option.getD_some] at h0 ⊢
    by_cases a : f.far[i] ≤ x <;> by_cases b : x ≤ 500 <;> by_cases c : 0 ≤ x
    all_goals (first | (simp [a, b, c]; done) | (exfalso; omega))
theorem slip_ref {f : Floor} {k : Nat} {s : SSlip} (h : f.slips[k]? = some s) : goodSlip f k = (hasB 0 100000 s.till && (hasB 1 12 s.lines.length && linesR f.far.length s.lines)) := by
  rw [goodSlip_of h]; rfl
theorem rlines_is {f : Floor} {l : List SLine} {v : Bool} (hv : linesR f.far.length l = v) (A : Option Addr) (cap : Nat) (hf : f.far.length ≤ 35184372088832) (w : World) (h : SLinesAt w w.heap.size A l.length l) :
    Calls Tryd.prog 56 #[f.val, .slice A l.length cap] w fun e w' => e = .returned (.bool v) ∧ Below w.heap.size w w' := by
  subst hv
  exact rlines_any f A cap l hf w h
set_option maxRecDepth 100000 in
theorem rcheck_any (f : Floor) (w : World) (h : FloorAt w w.heap.size f) :
    Calls Tryd.prog 17 #[f.val] w fun e w' => e = .returned (vi (checkV f)) ∧ Below w.heap.size w w' := by
  rcases hh : headB f with _ | _
  · have : checkV f = 30 := by unfold checkV; rw [valid_head, hh]; rfl
    rw [this]
    exact rcheck_no f w h hh
  have HV : Hid (validB f = ((List.range f.far.length).all (goodShelf f) && (List.range f.slips.length).all (goodSlip f))) := by unfold Hid; rw [valid_head, hh, Bool.true_and]
  have h1l := h.far.lens
  have h2l := h.picks.lens
  have h3l := h.slips.lens
  have HF := Lib.hid h
  have GS : Hid (∀ (k : Nat) (x : Int) (q : Int × Int), f.far[k]? = some x → f.picks[k]? = some q → 0 ≤ lastR f k → goodShelf f k = (hasB (lastR f k) 500 x && properB q.1 q.2 0 300)) := fun k x q a b c => shelf_ref a b c
  have GL : Hid (∀ (k : Nat) (s : SSlip), f.slips[k]? = some s → goodSlip f k = (hasB 0 100000 s.till && (hasB 1 12 s.lines.length && linesR f.far.length s.lines))) := fun k s a => slip_ref a
  have LS : Hid (∀ (k : Nat) (x : Int), f.far[k]? = some x → lastR f (k + 1) = x) := fun k x a => by show (f.far[k]?).getD 0 = x; rw [a]; rfl
  have L0 : Hid (lastR f 0 = 0) := rfl
  have RL := Lib.hid (fun (l : List SLine) (v : Bool) (hv : linesR f.far.length l = v) (A : Option Addr) (cap : Nat) (W : World) hW => rlines_is hv A cap h1l.2 W hW)
  obtain ⟨S, hS⟩ : ∃ S, S = goodShelf f := ⟨_, rfl⟩
  obtain ⟨G, hG⟩ : ∃ G, G = goodSlip f := ⟨_, rfl⟩
  obtain ⟨T, hT⟩ : ∃ T, T = lastR f := ⟨_, rfl⟩
  obtain ⟨V, hV⟩ : ∃ V, V = validB f := ⟨_, rfl⟩
  obtain ⟨an, han⟩ : ∃ an, an = checkV f := ⟨_, rfl⟩
  have A1 : Hid (V = true → an = 0) := fun e => by rw [han]; unfold checkV; rw [← hV, e]; rfl
  have A0 : Hid (V = false → an = 30) := fun e => by rw [han]; unfold checkV; rw [← hV, e]; rfl
  rw [← hS, ← hG, ← hV] at HV
  rw [← hS, ← hT] at GS
  rw [← hG] at GL
  rw [← hT] at LS L0
  rw [← han]
  have FIN : Hid ((∀ k, k < f.far.length → S k = true) → (∀ k, k < f.slips.length → G k = true) → V = true) := fun a b => by
    have e1 : (List.range f.far.length).all S = true := by rw [List.all_eq_true]; exact fun k hk => a k (List.mem_range.1 hk)
    have e2 : (List.range f.slips.length).all G = true := by rw [List.all_eq_true]; exact fun k hk => b k (List.mem_range.1 hk)
    rw [HV.out, e1, e2]; rfl
  have BADS : Hid (∀ k, k < f.far.length → S k = false → V = false) := fun k hk hs => by
    have := all_no (b := true) hk hs
    rw [Bool.true_and] at this
    rw [HV.out, this]; rfl
  have BADG : Hid (∀ k, k < f.slips.length → G k = false → V = false) := fun k hk hs => by
    have := all_no (b := true) hk hs
    rw [Bool.true_and] at this
    rw [HV.out, this, Bool.and_false]
  clear hS hG hT hV han HV h
  unfold headB at hh
  simp only [Bool.and_eq_true, decide_eq_true_eq] at hh
  obtain ⟨fA, fC, ff, slo, shi, pA, pC, fp, fc, sA, sC, fs⟩ := f
  simp only at h1l h2l h3l GS GL LS FIN BADS BADG hh RL
  obtain ⟨h1, h2, h3, h4, h5⟩ := hh
  have H1 := Lib.hid h1
  have H3 := Lib.hid h3
  have H4 := Lib.hid h4
  have h2e : ((fp.length : Int) == (ff.length : Int)) = true := by simp [h2]
  have h5d : decide ((fs.length : Int) ≤ 9) = true := by simp; omega
  have H2 := Lib.hid h2
  show Calls Tryd.prog 17 #[.agg #[.slice fA ff.length fC, vi slo, vi shi, .slice pA fp.length pC, vi fc, .slice sA fs.length sC]] w _
  clear h1 h3 h4 h2
  go_enter Tryd.func17, Tryd.ntmps17
  go_wp2_with (first | (go_at_call_of 39 ff; refine (tween_is H1.out _).mono ?_; rintro e w1 ⟨rfl, rfl⟩) | (go_at_call 58; refine (proper_is H3.out _).mono ?_; rintro e w1 ⟨rfl, hb1⟩; obtain ⟨⟨hc1, hf1, hs1⟩, hz1⟩ := after hb1; (try simp only [World.size_alloc, World.size_setCell, World.size_drew] at hz1)) | (go_at_call_of 39 fc; refine (tween_is H4.out _).mono ?_; rintro e w1 ⟨rfl, rfl⟩))
  have HB0 : Below w.heap.size w w1 := by (repeat (first | exact Below.refl _ _ | refine Below.setCell ?_ (by first | omega | (simp; omega) | (simp; done)) _ | refine Below.alloc ?_ (by first | omega | (simp; omega) | (simp; done)) _ | refine Below.drew ?_ | refine below_drewN ?_ _ | refine Below.trans ?_ (Below.mono (by assumption) (by first | omega | (simp; omega) | (simp; done)))))
  have X0 : CellsBox w1 w.heap.size 28 [.slice fA ff.length fC, vi slo, vi shi, .slice pA fp.length pC, vi fc, .slice sA fs.length sC] := (CellsBox.new w _ _).keep hb1
  have HX := Lib.hid X0
  clear hb1 hc1 hf1 hs1 hz1 X0 h2e h5d
  obtain ⟨W, rfl⟩ : ∃ W, W = w1 := ⟨_, rfl⟩
  go_loopw [3, 4, 5] (fun ok la i wr => ∃ (k : Nat) (b : Bool) (nx : Int), k ≤ ff.length ∧ i = .int .i64 k ∧ ok = .bool b ∧ la = vi nx ∧ Below W.heap.size W wr ∧ Hid ((b = true → T k = nx ∧ 0 ≤ nx ∧ ∀ j, j < k → S j = true) ∧ (b = false → V = false))) (fun _ _ i _ => ff.length - (intOf i).toNat)
  case atStart => exact ⟨0, true, 0, Nat.zero_le _, rfl, rfl, rfl, Below.refl _ _, ⟨fun _ => ⟨L0.out, Int.le_refl _, fun j hj => absurd hj (by omega)⟩, fun h => by cases h⟩⟩
  obtain ⟨k, b, nx, hk, rfl, rfl, rfl, hB, hI⟩ := hrel
  have HBr : Below w.heap.size w wr := HB0.trans (hB.mono HB0.size)
  have XR := HX.out.keep hB
  have a0 := XR.cell (j := 0) rfl
  have a1 := XR.cell (j := 1) rfl
  have a2 := XR.cell (j := 2) rfl
  have a3 := XR.cell (j := 3) rfl
  have a4 := XR.cell (j := 4) rfl
  have a5 := XR.cell (j := 5) rfl
  have za := XR.lt
  have HXR := Lib.hid XR
  clear XR
  rcases b with _ | _
  · have E : Hid (an = 30) := A0.out (hI.out.2 rfl)
    clear hI
    go_wp2_with fail
    go_rounds 2
    go_ret
    exact ⟨retI E.out.symm, HBr⟩
  obtain ⟨hT, hn0, hall⟩ := hI.out.1 rfl
  have HT := Lib.hid hT
  have HALL := Lib.hid hall
  clear hI hT hall
  by_cases hlt : k < ff.length
  · obtain ⟨x, hx⟩ : ∃ x, ff[k]? = some x := ⟨_, List.getElem?_eq_getElem hlt⟩
    obtain ⟨q, hq⟩ : ∃ q, fp[k]? = some q := ⟨_, List.getElem?_eq_getElem (by have := H2.out; omega)⟩
    obtain ⟨bb, off, rfl, hbb, x0⟩ := ints_at (HF.out.far.to HBr) hx
    obtain ⟨pb, po, rfl, hpb, q0, q1⟩ := row2 (HF.out.picks.to HBr).row hq rfl
    have hg := GS.out k x q hx hq (by rw [HT.out]; exact hn0)
    rw [HT.out] at hg
    have HG := Lib.hid hg
    have HLS := Lib.hid (LS.out k x hx)
    have hkI : (k : Int) < ff.length := by omega
    have hkP : (k : Int) < fp.length := by have := H2.out; omega
    have h0k : (0 : Int) ≤ k := by omega
    have zbb : bb < wr.heap.size := hbb
    clear hx hq hg
    obtain ⟨qa, qb⟩ := q
    simp only at q0 q1 HG
    rcases t1 : hasB nx 500 x with _ | _
    · have HBAD : Hid (V = false) := BADS.out k hlt (by rw [HG.out, t1]; rfl)
      have T1 := Lib.hid t1
      clear t1
      go_wp2_with (go_at_call 39; refine (tween_is T1.out _).mono ?_; rintro e w1 ⟨rfl, rfl⟩)
      go_roundw
      case rel => exact ⟨k + 1, false, x, by omega, by go_num, rfl, rfl, gr_trans hB (by (repeat (first | exact Below.refl _ _ | refine Below.setCell ?_ (by first | omega | (simp; omega) | (simp; done)) _ | refine Below.alloc ?_ (by first | omega | (simp; omega) | (simp; done)) _ | refine Below.drew ?_ | refine below_drewN ?_ _ | refine Below.trans ?_ (Below.mono (by assumption) (by first | omega | (simp; omega) | (simp; done)))))), ⟨(fun h => absurd h (by decide)), fun _ => HBAD.out⟩⟩
      case measure => simp [intOf]; omega
    have hxr := hasB_iff.1 t1
    have T1 := Lib.hid t1
    have hx0 : 0 ≤ x := by omega
    rcases t2 : properB qa qb 0 300 with _ | _
    · have HBAD : Hid (V = false) := BADS.out k hlt (by rw [HG.out, t1, t2]; rfl)
      have T2 := Lib.hid t2
      clear t1 t2
      go_wp2_with (first | (go_at_call 39; refine (tween_is T1.out _).mono ?_; rintro e w1 ⟨rfl, rfl⟩) | (go_at_call 58; refine (proper_is T2.out _).mono ?_; rintro e w1 ⟨rfl, hb1⟩; obtain ⟨⟨hc1, hf1, hs1⟩, hz1⟩ := after hb1; (try simp only [World.size_alloc, World.size_setCell, World.size_drew] at hz1)))
      go_roundw
      case rel => exact ⟨k + 1, false, x, by omega, by go_num, rfl, rfl, gr_trans hB (by (repeat (first | exact Below.refl _ _ | refine Below.setCell ?_ (by first | omega | (simp; omega) | (simp; done)) _ | refine Below.alloc ?_ (by first | omega | (simp; omega) | (simp; done)) _ | refine Below.drew ?_ | refine below_drewN ?_ _ | refine Below.trans ?_ (Below.mono (by assumption) (by first | omega | (simp; omega) | (simp; done)))))), ⟨(fun h => absurd h (by decide)), fun _ => HBAD.out⟩⟩
      case measure => simp [intOf]; omega
    · have HOK : Hid (∀ j, j < k + 1 → S j = true) := upto_succ HALL.out (by rw [HG.out, t1, t2]; rfl)
      have T2 := Lib.hid t2
      clear t1 t2
      go_wp2_with (first | (go_at_call 39; refine (tween_is T1.out _).mono ?_; rintro e w1 ⟨rfl, rfl⟩) | (go_at_call 58; refine (proper_is T2.out _).mono ?_; rintro e w1 ⟨rfl, hb1⟩; obtain ⟨⟨hc1, hf1, hs1⟩, hz1⟩ := after hb1; (try simp only [World.size_alloc, World.size_setCell, World.size_drew] at hz1)))
      go_roundw
      case rel => exact ⟨k + 1, true, x, by omega, by go_num, rfl, rfl, gr_trans hB (by (repeat (first | exact Below.refl _ _ | refine Below.setCell ?_ (by first | omega | (simp; omega) | (simp; done)) _ | refine Below.alloc ?_ (by first | omega | (simp; omega) | (simp; done)) _ | refine Below.drew ?_ | refine below_drewN ?_ _ | refine Below.trans ?_ (Below.mono (by assumption) (by first | omega | (simp; omega) | (simp; done)))))), ⟨(fun _ => ⟨HLS.out, hx0, HOK.out⟩), fun h => absurd h (by decide)⟩⟩
      case measure => simp [intOf]; omega
  · obtain rfl : k = ff.length := by omega
    clear hlt
    go_wp2_with fail
    obtain ⟨wo, rfl⟩ : ∃ wo : World, wo = wr := ⟨_, rfl⟩
    have HSH := Lib.hid HALL.out
    have HBo := HBr
    have HXo := Lib.hid HXR.out
    clear hB HBr HXR HALL HT hn0 hk a0 a1 a2 a3 a4 a5 za
    go_loopw [3, 6] (fun ok i wr => ∃ (k : Nat) (b : Bool), k ≤ fs.length ∧ i = .int .i64 k ∧ ok = .bool b ∧ Below wo.heap.size wo wr ∧ Hid ((b = true → ∀ j, j < k → G j = true) ∧ (b = false → V = false))) (fun _ i _ => fs.length - (intOf i).toNat)
    case atStart => exact ⟨0, true, Nat.zero_le _, rfl, rfl, Below.refl _ _, ⟨fun _ j hj => absurd hj (by omega), fun h => by cases h⟩⟩
    obtain ⟨k, b, hk, rfl, rfl, hB, hI⟩ := hrel
    have HBr : Below w.heap.size w wr := HBo.trans (hB.mono HBo.size)
    have XR := HXo.out.keep hB
    have a0 := XR.cell (j := 0) rfl
    have a1 := XR.cell (j := 1) rfl
    have a2 := XR.cell (j := 2) rfl
    have a3 := XR.cell (j := 3) rfl
    have a4 := XR.cell (j := 4) rfl
    have a5 := XR.cell (j := 5) rfl
    have za := XR.lt
    have HXR := Lib.hid XR
    clear XR
    rcases b with _ | _
    · have E : Hid (an = 30) := A0.out (hI.out.2 rfl)
      clear hI
      go_wp2_with fail
      go_ret
      exact ⟨retI E.out.symm, HBr⟩
    have HALL := Lib.hid (hI.out.1 rfl)
    clear hI
    by_cases hlt : k < fs.length
    · obtain ⟨s, hs⟩ : ∃ s, fs[k]? = some s := ⟨_, List.getElem?_eq_getElem hlt⟩
      have HG := Lib.hid (GL.out k s hs)
      have hse := HF.out.each s (List.mem_of_getElem? hs)
      obtain ⟨bb, off, rfl, hbb, x0, x1⟩ := row2 (HF.out.slips.to HBr).row hs rfl
      have hkI : (k : Int) < fs.length := by omega
      have h0k : (0 : Int) ≤ k := by omega
      clear hs
      obtain ⟨sa, sc, sl, st⟩ := s
      simp only at x0 x1 HG hse
      have HSE : Hid (SLinesAt wr wr.heap.size sa sl.length sl) := (RowsAt.short hse).to HBr
      have hsl := hse.lens
      clear hse
      rcases t1 : hasB 0 100000 st with _ | _
      · have HBAD : Hid (V = false) := BADG.out k hlt (by rw [HG.out, t1]; rfl)
        have T1 := Lib.hid t1
        clear t1
        go_wp2_with (go_at_call 39; refine (tween_is T1.out _).mono ?_; rintro e w1 ⟨rfl, rfl⟩)
        go_roundw
        case rel => exact ⟨k + 1, false, by omega, by go_num, rfl, gr_trans hB (by (repeat (first | exact Below.refl _ _ | refine Below.setCell ?_ (by first | omega | (simp; omega) | (simp; done)) _ | refine Below.alloc ?_ (by first | omega | (simp; omega) | (simp; done)) _ | refine Below.drew ?_ | refine below_drewN ?_ _ | refine Below.trans ?_ (Below.mono (by assumption) (by first | omega | (simp; omega) | (simp; done)))))), ⟨(fun h => absurd h (by decide)), fun _ => HBAD.out⟩⟩
        case measure => simp [intOf]; omega
      have T1 := Lib.hid t1
      rcases t2 : hasB 1 12 sl.length with _ | _
      · have HBAD : Hid (V = false) := BADG.out k hlt (by rw [HG.out, t1, t2]; rfl)
        have T2 := Lib.hid t2
        clear t1 t2
        go_wp2_with (first | (go_at_call_of 39 st; refine (tween_is T1.out _).mono ?_; rintro e w1 ⟨rfl, rfl⟩) | (go_at_call_of 39 sl; refine (tween_is T2.out _).mono ?_; rintro e w1 ⟨rfl, rfl⟩))
        go_roundw
        case rel => exact ⟨k + 1, false, by omega, by go_num, rfl, gr_trans hB (by (repeat (first | exact Below.refl _ _ | refine Below.setCell ?_ (by first | omega | (simp; omega) | (simp; done)) _ | refine Below.alloc ?_ (by first | omega | (simp; omega) | (simp; done)) _ | refine Below.drew ?_ | refine below_drewN ?_ _ | refine Below.trans ?_ (Below.mono (by assumption) (by first | omega | (simp; omega) | (simp; done)))))), ⟨(fun h => absurd h (by decide)), fun _ => HBAD.out⟩⟩
        case measure => simp [intOf]; omega
      have T2 := Lib.hid t2
      obtain ⟨lb, hlb⟩ : ∃ lb, linesR ff.length sl = lb := ⟨_, rfl⟩
      rw [t1, t2, hlb] at HG
      have RLL := Lib.hid (RL.out sl lb hlb sa sc)
      clear t1 t2 hlb
      go_wp2_with (first | (go_at_call_of 39 st; refine (tween_is T1.out _).mono ?_; rintro e w1 ⟨rfl, rfl⟩) | (go_at_call_of 39 sl; refine (tween_is T2.out _).mono ?_; rintro e w1 ⟨rfl, rfl⟩))
      refine (RLL.out _ (HSE.out.to (by (repeat (first | exact Below.refl _ _ | refine Below.setCell ?_ (by first | omega | (simp; omega) | (simp; done)) _ | refine Below.alloc ?_ (by first | omega | (simp; omega) | (simp; done)) _ | refine Below.drew ?_ | refine below_drewN ?_ _ | refine Below.trans ?_ (Below.mono (by assumption) (by first | omega | (simp; omega) | (simp; done)))))))).mono ?_
      rintro e w9 ⟨rfl, hb9⟩
      have HB9 : Below wo.heap.size wo w9 := gr_trans hB (by (repeat (first | exact Below.refl _ _ | refine Below.setCell ?_ (by first | omega | (simp; omega) | (simp; done)) _ | refine Below.alloc ?_ (by first | omega | (simp; omega) | (simp; done)) _ | refine Below.drew ?_ | refine below_drewN ?_ _ | refine Below.trans ?_ (Below.mono (by assumption) (by first | omega | (simp; omega) | (simp; done))))))
      clear hb9
      rcases lb with _ | _
      · have HBAD : Hid (V = false) := BADG.out k hlt (by rw [HG.out]; rfl)
        go_wp2_with fail
        go_roundw
        case rel => exact ⟨k + 1, false, by omega, by go_num, rfl, HB9, ⟨(fun h => absurd h (by decide)), fun _ => HBAD.out⟩⟩
        case measure => simp [intOf]; omega
      · have HOK : Hid (∀ j, j < k + 1 → G j = true) := upto_succ HALL.out (by rw [HG.out]; rfl)
        go_wp2_with fail
        go_roundw
        case rel => exact ⟨k + 1, true, by omega, by go_num, rfl, HB9, ⟨(fun _ => HOK.out), fun h => absurd h (by decide)⟩⟩
        case measure => simp [intOf]; omega
    · obtain rfl : k = fs.length := by omega
      have E : Hid (an = 0) := A1.out (FIN.out HSH.out HALL.out)
      go_wp2_with fail
      go_ret
      exact ⟨retI E.out.symm, HBr⟩
end Go.Proofs.YtomgnpfpaodpiaaDoor

/- Contracts of the specification's isSlip and asked. -/
namespace Go.Proofs.YtomgnpfpaodpiaaDoor
open Go Go.RowKit
set_option maxHeartbeats 4000000
def askedV (f : Floor) (b : Bool) : Int := if checkV f = 0 then (if b then 0 else 31) else checkV f
theorem asked_slip (f : Floor) (n : Int) : askedV f (slipB f n) = checkSlipV f n := by
  unfold askedV checkV checkSlipV
  cases validB f <;> cases slipB f n <;> rfl
theorem rcheck_is {f : Floor} {e : Int} (hv : checkV f = e) (w : World) (h : FloorAt w w.heap.size f) :
    Calls Tryd.prog 17 #[f.val] w fun e' w' => e' = .returned (vi e) ∧ Below w.heap.size w w' := by
  subst hv
  exact rcheck_any f w h
theorem isSlip_any (f : Floor) (n : Int) (w : World) (hl : f.slips.length ≤ 35184372088832) :
    Calls Tryd.prog 55 #[f.val, vi n] w fun e w' => e = .returned (.bool (slipB f n)) ∧ Below w.heap.size w w' := by
  obtain ⟨v, hv⟩ : ∃ v, v = slipB f n := ⟨_, rfl⟩
  have hh : hasB 0 ((f.slips.length : Int) - 1) n = v := by
    rw [hv]
    unfold hasB slipB
    congr 1
    by_cases h : n < (f.slips.length : Int)
    · have : n ≤ (f.slips.length : Int) - 1 := by omega
      simp [h, this]
    · have : ¬ n ≤ (f.slips.length : Int) - 1 := by omega
      simp [h, this]
  rw [← hv]
  have hw : IntKind.wrap .i64 ((f.slips.length : Int) - 1) = (f.slips.length : Int) - 1 := wrapI (by omega) (by omega)
  have HH := Lib.hid hh
  clear hv hh
  obtain ⟨fA, fC, ff, slo, shi, pA, pC, fp, fc, sA, sC, fs⟩ := f
  simp only at hl hw HH
  show Calls Tryd.prog 55 #[.agg #[.slice fA ff.length fC, vi slo, vi shi, .slice pA fp.length pC, vi fc, .slice sA fs.length sC], vi n] w _
  go_enter Tryd.func55, Tryd.ntmps55
  go_wp2_with (go_at_call 39; refine (tween_is HH.out _).mono ?_; rintro e w1 ⟨rfl, rfl⟩)
  go_ret
  refine ⟨rfl, ?_⟩
  (repeat (first | exact Below.refl _ _ | refine Below.setCell ?_ (by first | omega | (simp; omega) | (simp; done)) _ | refine Below.alloc ?_ (by first | omega | (simp; omega) | (simp; done)) _ | refine Below.drew ?_ | refine below_drewN ?_ _ | refine Below.trans ?_ (Below.mono (by assumption) (by first | omega | (simp; omega) | (simp; done)))))
theorem isSlip_is {f : Floor} {n : Int} {v : Bool} (hv : slipB f n = v) (w : World) (hl : f.slips.length ≤ 35184372088832) :
    Calls Tryd.prog 55 #[f.val, vi n] w fun e w' => e = .returned (.bool v) ∧ Below w.heap.size w w' := by
  subst hv
  exact isSlip_any f n w hl
theorem asked_any (f : Floor) (b : Bool) (w : World) (h : FloorAt w w.heap.size f) :
    Calls Tryd.prog 54 #[f.val, .bool b] w fun e w' => e = .returned (vi (askedV f b)) ∧ Below w.heap.size w w' := by
  have HF := Lib.hid h
  have hb0 : Below w.heap.size w (w.alloc (.cells f.cells.toArray 28)) := (Below.refl _ _).alloc (Nat.le_refl _) _
  rcases check_two f with ⟨hc, hv⟩ | ⟨hc, hv⟩
  · have CH := Lib.hid (fun (W : World) hW => rcheck_is hc W hW)
    have E : Hid (askedV f b = 30) := by unfold Hid askedV; rw [if_neg (by omega), hc]
    obtain ⟨an, han⟩ : ∃ an, an = askedV f b := ⟨_, rfl⟩
    rw [← han] at E ⊢
    clear h hc hv han
    show Calls Tryd.prog 54 #[.agg #[.slice f.fA f.far.length f.fC, vi f.slo, vi f.shi, .slice f.pA f.picks.length f.pC, vi f.carry, .slice f.sA f.slips.length f.sC], .bool b] w _
    go_enter Tryd.func54, Tryd.ntmps54
    go_wp2_with fail
    refine (CH.out _ (HF.out.to (by (repeat (first | exact Below.refl _ _ | refine Below.setCell ?_ (by first | omega | (simp; omega) | (simp; done)) _ | refine Below.alloc ?_ (by first | omega | (simp; omega) | (simp; done)) _ | refine Below.drew ?_ | refine below_drewN ?_ _ | refine Below.trans ?_ (Below.mono (by assumption) (by first | omega | (simp; omega) | (simp; done)))))))).mono ?_
    rintro e W ⟨rfl, hb⟩
    have HB0 : Below w.heap.size w W := by (repeat (first | exact Below.refl _ _ | refine Below.setCell ?_ (by first | omega | (simp; omega) | (simp; done)) _ | refine Below.alloc ?_ (by first | omega | (simp; omega) | (simp; done)) _ | refine Below.drew ?_ | refine below_drewN ?_ _ | refine Below.trans ?_ (Below.mono (by assumption) (by first | omega | (simp; omega) | (simp; done)))))
    clear hb
    go_wp2_with fail
    go_ret
    exact ⟨retI E.out.symm, HB0⟩
  · have CH := Lib.hid (fun (W : World) hW => rcheck_is hc W hW)
    have E : Hid (askedV f b = if b then 0 else 31) := by unfold Hid askedV; rw [if_pos hc]
    obtain ⟨an, han⟩ : ∃ an, an = askedV f b := ⟨_, rfl⟩
    rw [← han] at E ⊢
    clear h hc hv han
    show Calls Tryd.prog 54 #[.agg #[.slice f.fA f.far.length f.fC, vi f.slo, vi f.shi, .slice f.pA f.picks.length f.pC, vi f.carry, .slice f.sA f.slips.length f.sC], .bool b] w _
    rcases b with _ | _
    · go_enter Tryd.func54, Tryd.ntmps54
      go_wp2_with fail
      refine (CH.out _ (HF.out.to (by (repeat (first | exact Below.refl _ _ | refine Below.setCell ?_ (by first | omega | (simp; omega) | (simp; done)) _ | refine Below.alloc ?_ (by first | omega | (simp; omega) | (simp; done)) _ | refine Below.drew ?_ | refine below_drewN ?_ _ | refine Below.trans ?_ (Below.mono (by assumption) (by first | omega | (simp; omega) | (simp; done)))))))).mono ?_
      rintro e W ⟨rfl, hb⟩
      have HB0 : Below w.heap.size w W := by (repeat (first | exact Below.refl _ _ | refine Below.setCell ?_ (by first | omega | (simp; omega) | (simp; done)) _ | refine Below.alloc ?_ (by first | omega | (simp; omega) | (simp; done)) _ | refine Below.drew ?_ | refine below_drewN ?_ _ | refine Below.trans ?_ (Below.mono (by assumption) (by first | omega | (simp; omega) | (simp; done)))))
      clear hb
      go_wp2_with fail
      go_ret
      exact ⟨retI E.out.symm, HB0⟩
    · go_enter Tryd.func54, Tryd.ntmps54
      go_wp2_with fail
      refine (CH.out _ (HF.out.to (by (repeat (first | exact Below.refl _ _ | refine Below.setCell ?_ (by first | omega | (simp; omega) | (simp; done)) _ | refine Below.alloc ?_ (by first | omega | (simp; omega) | (simp; done)) _ | refine Below.drew ?_ | refine below_drewN ?_ _ | refine Below.trans ?_ (Below.mono (by assumption) (by first | omega | (simp; omega) | (simp; done)))))))).mono ?_
      rintro e W ⟨rfl, hb⟩
      have HB0 : Below w.heap.size w W := by (repeat (first | exact Below.refl _ _ | refine Below.setCell ?_ (by first | omega | (simp; omega) | (simp; done)) _ | refine Below.alloc ?_ (by first | omega | (simp; omega) | (simp; done)) _ | refine Below.drew ?_ | refine below_drewN ?_ _ | refine Below.trans ?_ (Below.mono (by assumption) (by first | omega | (simp; omega) | (simp; done)))))
      clear hb
      go_wp2_with fail
      go_ret
      exact ⟨retI E.out.symm, HB0⟩
theorem asked_is {f : Floor} {b : Bool} {e : Int} (he : askedV f b = e) (w : World) (h : FloorAt w w.heap.size f) :
    Calls Tryd.prog 54 #[f.val, .bool b] w fun e' w' => e' = .returned (vi e) ∧ Below w.heap.size w w' := by
  subst he
  exact asked_any f b w h
end Go.Proofs.YtomgnpfpaodpiaaDoor

