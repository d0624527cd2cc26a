/- Contract of works: the chapter's examples. -/
import Derived.Test.YtomgnpfpaodpiaaDoorH20
import Derived.Test.YtomgnpfpaodpiaaDoorH36
import Derived.Test.YtomgnpfpaodpiaaDoorH37
import Derived.Test.YtomgnpfpaodpiaaDoorH19
import Derived.Test.YtomgnpfpaodpiaaDoorH09
set_option linter.unusedVariables false
set_option linter.unusedSimpArgs false
namespace Go.Proofs.YtomgnpfpaodpiaaDoor
open Go Go.RowKit
set_option maxHeartbeats 8000000
theorem one_tour {ts : List STour} {l : List SLine} (h : ts.map STour.lines = [l]) : ∃ tA tc, ts = [⟨tA, tc, l⟩] := by
  cases ts with
  | nil => simp at h
  | cons t ts =>
    cases ts with
    | nil => simp at h; exact ⟨t.ad, t.cap, by rw [← h]⟩
    | cons _ _ => simp at h
section
variable (a0 a1 a2 a3 a4 a5 a6 : Option Addr)
theorem w_tours (w : World) (hl : Lim w) (h : FloorAt w w.heap.size (chap a0 a1 a2 a3 a4 a5 a6)) :
    Calls Tryd.prog 22 #[(chap a0 a1 a2 a3 a4 a5 a6).val, vi 2] w fun e w' => ∃ A tA tc, e = .returned (.tuple #[.slice A 1 1, vi 0]) ∧ ToursAt w' w'.heap.size A 1 [⟨tA, tc, [⟨0, 1⟩]⟩] ∧ Below w.heap.size w w' := by
  refine (Tours_any _ 2 w hl h).mono ?_
  rintro e w' ⟨A, ts, rfl, hT, hts, hb⟩
  rw [(ch_tours a0 a1 a2 a3 a4 a5 a6).1] at hts
  rw [(ch_tours a0 a1 a2 a3 a4 a5 a6).2]
  obtain ⟨tA, tc, rfl⟩ := one_tour hts
  exact ⟨A, tA, tc, rfl, hT, hb⟩
theorem w_is (t0 t1 A : Option Addr) (w : World) (hl : Lim w) (h : FloorAt w w.heap.size (chap a0 a1 a2 a3 a4 a5 a6)) (ht : ToursAt w w.heap.size A 2 [⟨t0, 2, [⟨0, 1⟩, ⟨2, 3⟩]⟩, ⟨t1, 1, [⟨0, 1⟩]⟩]) :
    Calls Tryd.prog 14 #[(chap a0 a1 a2 a3 a4 a5 a6).val, vi 0, .slice A 2 2] w fun e w' => e = .returned (.tuple #[.bool true, vi 0]) ∧ Below w.heap.size w w' := by
  have := IsTours_any _ 0 A 2 _ w hl h ht
  rw [ch_is, (ch_takes a0 a1 a2 a3 a4 a5 a6).2] at this
  exact this
theorem w_done (t0 t1 A : Option Addr) (w : World) (hl : Lim w) (h : FloorAt w w.heap.size (chap a0 a1 a2 a3 a4 a5 a6)) (ht : RosterAt w w.heap.size A 2 [⟨t0, 2, [2, 1]⟩, ⟨t1, 2, [0, 3]⟩]) :
    Calls Tryd.prog 25 #[(chap a0 a1 a2 a3 a4 a5 a6).val, .slice A 2 2] w fun e w' => ∃ R, e = .returned (.tuple #[.slice R 4 4, vi 0]) ∧ RowsAt w' w'.heap.size 2 R 4 ([(140, 252), (95, 188), (25, 48), (365, 654)].map spanC) ∧ Below w.heap.size w w' := by
  have := Done_any _ A 2 _ w hl h ht
  rw [ch_done] at this
  exact this
theorem w_roster (w : World) (hl : Lim w) (h : FloorAt w w.heap.size (chap a0 a1 a2 a3 a4 a5 a6)) :
    Calls Tryd.prog 28 #[(chap a0 a1 a2 a3 a4 a5 a6).val] w fun e w' => ∃ A, e = .returned (.tuple #[.slice A 2 2, vi 0]) ∧ Below w.heap.size w w' := by
  refine (Roster_any _ w hl h).mono ?_
  rintro e w' ⟨A, ts, rfl, hT, hts, hb⟩
  have h1 := congrArg List.length hts
  rw [List.length_map, List.length_map, (ch_roster a0 a1 a2 a3 a4 a5 a6).1] at h1
  rw [(ch_roster a0 a1 a2 a3 a4 a5 a6).2, h1]
  exact ⟨A, rfl, hb⟩
theorem w_late (w : World) (hl : Lim w) (h : FloorAt w w.heap.size (chap a0 a1 a2 a3 a4 a5 a6)) :
    Calls Tryd.prog 30 #[(chap a0 a1 a2 a3 a4 a5 a6).val, vi 1] w fun e w' => ∃ A, e = .returned (.tuple #[.slice A 1 1, vi 0]) ∧ IntsAt w' w'.heap.size A 1 [0] ∧ Below w.heap.size w w' := by
  have := Late_any _ 1 w hl h
  rw [ch_late] at this
  exact this
theorem w_spare (w : World) (hl : Lim w) (h : FloorAt w w.heap.size (chap a0 a1 a2 a3 a4 a5 a6)) :
    Calls Tryd.prog 33 #[(chap a0 a1 a2 a3 a4 a5 a6).val, vi 3] w fun e w' => e = .returned (.tuple #[vi 542, vi 0]) ∧ Below w.heap.size w w' := by
  refine (Spare_any _ 3 w hl h).mono ?_
  rintro e w' ⟨v, c, rfl, hs, hb⟩
  obtain ⟨rfl, rfl⟩ := ch_spare a0 a1 a2 a3 a4 a5 a6 hs
  exact ⟨rfl, hb⟩
end
set_option maxRecDepth 100000 in
theorem works_any (w : World) (hl : Lim w) :
    Calls Tryd.prog 23 #[] w fun e w' => e = .returned (.bool true) ∧ Below w.heap.size w w' := by
  have HL := Lib.hid hl
  clear hl
  go_enter Tryd.func23, Tryd.ntmps23
  go_wp2_with fail
  refine (floor_any _).mono ?_
  rintro e w1 ⟨a0, a1, a2, a3, a4, a5, a6, rfl, hF, hb⟩
  have HB : Below w.heap.size w w1 := hb
  clear hb
  have HF := Lib.hid hF
  clear hF
  go_wp2_with fail
  refine (Steps_any (chap a0 a1 a2 a3 a4 a5 a6) 3 _ (HL.out.next HB) HF.out).mono ?_
  rintro e w2 ⟨rfl, hb⟩
  rw [(ch_steps a0 a1 a2 a3 a4 a5 a6).1, (ch_steps a0 a1 a2 a3 a4 a5 a6).2]
  replace HB : Below w.heap.size w w2 := HB.trans (hb.mono HB.size)
  replace HF := Lib.hid (HF.out.to hb)
  clear hb
  go_wp2_with fail
  clear HF
  refine (floor_any _).mono ?_
  rintro e w3 ⟨a0, a1, a2, a3, a4, a5, a6, rfl, hF, hb⟩
  replace HB : Below w.heap.size w w3 := HB.trans (hb.mono HB.size)
  clear hb
  have HF := Lib.hid hF
  clear hF
  go_wp2_with fail
  refine (Takes_any (chap a0 a1 a2 a3 a4 a5 a6) 0 _ (HL.out.next HB) HF.out).mono ?_
  rintro e w4 ⟨rfl, hb⟩
  rw [(ch_takes a0 a1 a2 a3 a4 a5 a6).1, (ch_takes a0 a1 a2 a3 a4 a5 a6).2]
  replace HB : Below w.heap.size w w4 := HB.trans (hb.mono HB.size)
  replace HF := Lib.hid (HF.out.to hb)
  clear hb
  go_wp2_with fail
  clear HF
  refine (floor_any _).mono ?_
  rintro e w5 ⟨a0, a1, a2, a3, a4, a5, a6, rfl, hF, hb⟩
  have HS : CellsBox w5 (w4.heap.size) 24 [vi 140, vi 252] := by
    have h := (CellsBox.new w4 24 [vi 140, vi 252]).keep hb
    first | exact h | simpa only [World.size_alloc] using h
  replace hb : Below w4.heap.size w4 w5 := by
    exact gr_trans (((Below.refl w4.heap.size w4).alloc (by first | exact Nat.le_refl _ | (simp only [World.size_alloc]; omega)) _)) hb
  replace HB : Below w.heap.size w w5 := HB.trans (hb.mono HB.size)
  have HS := Lib.hid HS
  clear hb
  have HF := Lib.hid hF
  clear hF
  go_wp2_with fail
  refine (w_tours a0 a1 a2 a3 a4 a5 a6 _ (HL.out.next HB) HF.out).mono ?_
  rintro e w6 ⟨A, tA, tc, rfl, hT, hb⟩
  replace HB : Below w.heap.size w w6 := HB.trans (hb.mono HB.size)
  replace HS := Lib.hid (HS.out.keep hb)
  replace HF := Lib.hid (HF.out.to hb)
  clear hb
  have HT := Lib.hid hT
  clear hT
  go_wp2_with fail
  clear HF
  refine (floor_any _).mono ?_
  rintro e w7 ⟨a0, a1, a2, a3, a4, a5, a6, rfl, hF, hb⟩
  replace HB : Below w.heap.size w w7 := HB.trans (hb.mono HB.size)
  replace HS := Lib.hid (HS.out.keep hb)
  replace HT := Lib.hid (HT.out.to hb)
  clear hb
  have HF := Lib.hid hF
  clear hF
  go_wp2_with fail
  refine (of_is _ _ _).mono ?_
  rintro e w8 ⟨rfl, hb⟩
  replace HB : Below w.heap.size w w8 := HB.trans (hb.mono HB.size)
  replace HS := Lib.hid (HS.out.keep hb)
  replace HT := Lib.hid (HT.out.to hb)
  replace HF := Lib.hid (HF.out.to hb)
  clear hb
  go_wp2_with fail
  refine (of_is _ _ _).mono ?_
  rintro e w9 ⟨rfl, hb⟩
  replace HB : Below w.heap.size w w9 := HB.trans (hb.mono HB.size)
  replace HS := Lib.hid (HS.out.keep hb)
  replace HT := Lib.hid (HT.out.to hb)
  replace HF := Lib.hid (HF.out.to hb)
  clear hb
  go_wp2_with fail
  refine (of_is _ _ _).mono ?_
  rintro e w10 ⟨rfl, hb⟩
  have H1 : CellsBox w10 (w9.heap.size) 64 [vi 0, vi 1, vi 2, vi 3] := by
    have h := (CellsBox.new w9 64 [vi 0, vi 1, vi 2, vi 3]).keep hb
    first | exact h | simpa only [World.size_alloc] using h
  replace hb : Below w9.heap.size w9 w10 := by
    exact gr_trans (((Below.refl w9.heap.size w9).alloc (by first | exact Nat.le_refl _ | (simp only [World.size_alloc]; omega)) _)) hb
  replace HB : Below w.heap.size w w10 := HB.trans (hb.mono HB.size)
  replace HS := Lib.hid (HS.out.keep hb)
  replace HT := Lib.hid (HT.out.to hb)
  replace HF := Lib.hid (HF.out.to hb)
  have H1 := Lib.hid H1
  clear hb
  go_wp2_with fail
  obtain ⟨V, hV⟩ : ∃ V, V = ((w10.alloc (.cells #[vi 0, vi 1] 64)).alloc (.cells #[.slice (some ⟨w9.heap.size, 0, none⟩) 2 2, .slice (some ⟨w10.heap.size, 0, none⟩) 1 1] 50)) := ⟨_, rfl⟩
  have hbV : Below w10.heap.size w10 V := by rw [hV]; exact ((Below.refl w10.heap.size w10).alloc (Nat.le_refl _) _).alloc (by simp only [World.size_alloc]; omega) _
  have hTV : ToursAt V V.heap.size (some ⟨w10.heap.size + 1, 0, none⟩) 2 [⟨some ⟨w9.heap.size, 0, none⟩, 2, [⟨0, 1⟩, ⟨2, 3⟩]⟩, ⟨some ⟨w10.heap.size, 0, none⟩, 1, [⟨0, 1⟩]⟩] := by
    have b1 := H1.out.keep hbV
    have b2 : CellsBox V w10.heap.size 64 [vi 0, vi 1] := by rw [hV]; exact (CellsBox.new w10 _ _).alloc _
    have b3 : CellsBox V (w10.heap.size + 1) 50 [.slice (some ⟨w9.heap.size, 0, none⟩) 2 2, .slice (some ⟨w10.heap.size, 0, none⟩) 1 1] := by
      rw [hV]
      have h := CellsBox.new (w10.alloc (.cells #[vi 0, vi 1] 64)) 50 [.slice (some ⟨w9.heap.size, 0, none⟩) 2 2, .slice (some ⟨w10.heap.size, 0, none⟩) 1 1]
      rwa [World.size_alloc] at h
    refine ⟨⟨by simp, by simp, by simp, row_of_box b3 (by intro r hr; obtain ⟨p, _, rfl⟩ := List.mem_map.1 hr; rfl)⟩, fun t ht => ?_⟩
    simp only [List.mem_cons, List.not_mem_nil, or_false] at ht
    rcases ht with rfl | rfl
    · exact ⟨by simp, by simp, by simp, row_of_box b1 (by intro r hr; obtain ⟨p, _, rfl⟩ := List.mem_map.1 hr; rfl)⟩
    · exact ⟨by simp, by simp, by simp, row_of_box b2 (by intro r hr; obtain ⟨p, _, rfl⟩ := List.mem_map.1 hr; rfl)⟩
  rw [← hV]
  replace HB : Below w.heap.size w V := HB.trans (hbV.mono HB.size)
  replace HS := Lib.hid (HS.out.keep hbV)
  replace HT := Lib.hid (HT.out.to hbV)
  replace HF := Lib.hid (HF.out.to hbV)
  replace H1 := Lib.hid (H1.out.keep hbV)
  clear hV hbV H1
  refine (w_is a0 a1 a2 a3 a4 a5 a6 _ _ _ _ (HL.out.next HB) HF.out hTV).mono ?_
  rintro e w11 ⟨rfl, hb⟩
  replace HB : Below w.heap.size w w11 := HB.trans (hb.mono HB.size)
  replace HS := Lib.hid (HS.out.keep hb)
  replace HT := Lib.hid (HT.out.to hb)
  replace HF := Lib.hid (HF.out.to hb)
  clear hb hTV
  go_wp2_with fail
  obtain ⟨tb, to_, rfl, htb, t0⟩ := row1 (k := 0) HT.out.rows.row rfl rfl
  obtain ⟨lb, lo_, rfl, hlb, l0, l1⟩ := row2 (k := 0) (HT.out.each ⟨tA, tc, [⟨0, 1⟩]⟩ (by simp)).row rfl rfl
  replace t0 : w11.cell? ⟨tb, to_, none⟩ = some (.slice (some ⟨lb, lo_, none⟩) 1 tc) := t0
  replace l0 : w11.cell? ⟨lb, lo_, none⟩ = some (vi 0) := by simpa using l0
  replace l1 : w11.cell? ⟨lb, lo_ + 1, none⟩ = some (vi 1) := by simpa using l1
  have s0 := HS.out.cell (j := 0) rfl
  have s1 := HS.out.cell (j := 1) rfl
  have zs := HS.out.lt
  refine wp_region_grow_lit (by kernel_rfl) (by kernel_rfl) ?_
  (repeat (go_big_quiet_step (first | (go_at_call 44; refine Calls.grow_of (to_any _ _ _)) | (go_at_call 51; refine Calls.grow_of (of_is _ _ _)))))
  refine wpQuiet_nil ?_
  intro w12 hw1
  have hb := below_of_plus hw1
  replace HB : Below w.heap.size w w12 := HB.trans (hb.mono HB.size)
  clear hw1 hb HS HT HF s0 s1 zs t0 l0 l1 htb hlb
  go_wp2_with fail
  refine (floor_any _).mono ?_
  rintro e w13 ⟨a0, a1, a2, a3, a4, a5, a6, rfl, hF, hb⟩
  replace HB : Below w.heap.size w w13 := HB.trans (hb.mono HB.size)
  clear hb
  have HF := Lib.hid hF
  clear hF
  go_wp2_with fail
  obtain ⟨V, hV⟩ : ∃ V, V = (((w13.alloc (.cells #[vi 2, vi 1] 3)).alloc (.cells #[vi 0, vi 3] 3)).alloc (.cells #[.slice (some ⟨w13.heap.size, 0, none⟩) 2 2, .slice (some ⟨w13.heap.size + 1, 0, none⟩) 2 2] 22)) := ⟨_, rfl⟩
  have hbV : Below w13.heap.size w13 V := by rw [hV]; exact (((Below.refl w13.heap.size w13).alloc (Nat.le_refl _) _).alloc (by simp only [World.size_alloc]; omega) _).alloc (by simp only [World.size_alloc]; omega) _
  have hTV : RosterAt V V.heap.size (some ⟨w13.heap.size + 1 + 1, 0, none⟩) 2 [⟨some ⟨w13.heap.size, 0, none⟩, 2, [2, 1]⟩, ⟨some ⟨w13.heap.size + 1, 0, none⟩, 2, [0, 3]⟩] := by
    have b1 : CellsBox V w13.heap.size 3 [vi 2, vi 1] := by rw [hV]; exact ((CellsBox.new w13 _ _).alloc _).alloc _
    have b2 : CellsBox V (w13.heap.size + 1) 3 [vi 0, vi 3] := by
      rw [hV]
      have h := (CellsBox.new (w13.alloc (.cells #[vi 2, vi 1] 3)) 3 [vi 0, vi 3]).alloc (.cells #[.slice (some ⟨w13.heap.size, 0, none⟩) 2 2, .slice (some ⟨w13.heap.size + 1, 0, none⟩) 2 2] 22)
      rwa [World.size_alloc] at h
    have b3 : CellsBox V (w13.heap.size + 1 + 1) 22 [.slice (some ⟨w13.heap.size, 0, none⟩) 2 2, .slice (some ⟨w13.heap.size + 1, 0, none⟩) 2 2] := by
      rw [hV]
      have h := CellsBox.new ((w13.alloc (.cells #[vi 2, vi 1] 3)).alloc (.cells #[vi 0, vi 3] 3)) 22 [.slice (some ⟨w13.heap.size, 0, none⟩) 2 2, .slice (some ⟨w13.heap.size + 1, 0, none⟩) 2 2]
      rwa [World.size_alloc, World.size_alloc] at h
    refine ⟨⟨by simp, by simp, by simp, row_of_box b3 (by intro r hr; obtain ⟨p, _, rfl⟩ := List.mem_map.1 hr; rfl)⟩, fun t ht => ?_⟩
    simp only [List.mem_cons, List.not_mem_nil, or_false] at ht
    rcases ht with rfl | rfl
    · exact ⟨by simp, by simp, by simp, row_of_box b1 (by intro r hr; obtain ⟨p, _, rfl⟩ := List.mem_map.1 hr; rfl)⟩
    · exact ⟨by simp, by simp, by simp, row_of_box b2 (by intro r hr; obtain ⟨p, _, rfl⟩ := List.mem_map.1 hr; rfl)⟩
  rw [← hV]
  replace HB : Below w.heap.size w V := HB.trans (hbV.mono HB.size)
  replace HF := Lib.hid (HF.out.to hbV)
  clear hV hbV
  refine (w_done a0 a1 a2 a3 a4 a5 a6 _ _ _ _ (HL.out.next HB) HF.out hTV).mono ?_
  rintro e w14 ⟨dR, rfl, hD, hb⟩
  replace HB : Below w.heap.size w w14 := HB.trans (hb.mono HB.size)
  clear hb hTV HF
  have HD := Lib.hid hD
  clear hD
  go_wp2_with fail
  refine (floor_any _).mono ?_
  rintro e w15 ⟨a0, a1, a2, a3, a4, a5, a6, rfl, hF, hb⟩
  replace HB : Below w.heap.size w w15 := HB.trans (hb.mono HB.size)
  replace HD := Lib.hid (HD.out.to hb)
  clear hb
  have HF := Lib.hid hF
  clear hF
  go_wp2_with fail
  refine (w_roster a0 a1 a2 a3 a4 a5 a6 _ (HL.out.next HB) HF.out).mono ?_
  rintro e w16 ⟨rA, rfl, hb⟩
  replace HB : Below w.heap.size w w16 := HB.trans (hb.mono HB.size)
  replace HD := Lib.hid (HD.out.to hb)
  replace HF := Lib.hid (HF.out.to hb)
  clear hb
  clear HF
  go_wp2_with fail
  refine (floor_any _).mono ?_
  rintro e w17 ⟨a0, a1, a2, a3, a4, a5, a6, rfl, hF, hb⟩
  replace HB : Below w.heap.size w w17 := HB.trans (hb.mono HB.size)
  replace HD := Lib.hid (HD.out.to hb)
  clear hb
  have HF := Lib.hid hF
  clear hF
  go_wp2_with fail
  refine (w_late a0 a1 a2 a3 a4 a5 a6 _ (HL.out.next HB) HF.out).mono ?_
  rintro e w18 ⟨lA, rfl, hI, hb⟩
  replace HB : Below w.heap.size w w18 := HB.trans (hb.mono HB.size)
  replace HD := Lib.hid (HD.out.to hb)
  replace HF := Lib.hid (HF.out.to hb)
  clear hb
  clear HF
  have HI := Lib.hid hI
  clear hI
  go_wp2_with fail
  refine (floor_any _).mono ?_
  rintro e w19 ⟨a0, a1, a2, a3, a4, a5, a6, rfl, hF, hb⟩
  replace HB : Below w.heap.size w w19 := HB.trans (hb.mono HB.size)
  replace HD := Lib.hid (HD.out.to hb)
  replace HI := Lib.hid (HI.out.to hb)
  clear hb
  have HF := Lib.hid hF
  clear hF
  go_wp2_with fail
  refine (w_spare a0 a1 a2 a3 a4 a5 a6 _ (HL.out.next HB) HF.out).mono ?_
  rintro e w20 ⟨rfl, hb⟩
  replace HB : Below w.heap.size w w20 := HB.trans (hb.mono HB.size)
  replace HD := Lib.hid (HD.out.to hb)
  replace HI := Lib.hid (HI.out.to hb)
  replace HF := Lib.hid (HF.out.to hb)
  clear hb
  clear HF
  go_wp2_with fail
  refine (to_any _ _ _).mono ?_
  rintro e w21 ⟨rfl, hb⟩
  replace HB : Below w.heap.size w w21 := HB.trans (hb.mono HB.size)
  replace HD := Lib.hid (HD.out.to hb)
  replace HI := Lib.hid (HI.out.to hb)
  clear hb
  go_wp2_with fail
  refine (to_any _ _ _).mono ?_
  rintro e w22 ⟨rfl, hb⟩
  replace HB : Below w.heap.size w w22 := HB.trans (hb.mono HB.size)
  replace HD := Lib.hid (HD.out.to hb)
  replace HI := Lib.hid (HI.out.to hb)
  clear hb
  go_wp2_with fail
  refine (to_any _ _ _).mono ?_
  rintro e w23 ⟨rfl, hb⟩
  replace HB : Below w.heap.size w w23 := HB.trans (hb.mono HB.size)
  replace HD := Lib.hid (HD.out.to hb)
  replace HI := Lib.hid (HI.out.to hb)
  clear hb
  go_wp2_with fail
  refine (to_any _ _ _).mono ?_
  rintro e w24 ⟨rfl, hb⟩
  replace HB : Below w.heap.size w w24 := HB.trans (hb.mono HB.size)
  replace HD := Lib.hid (HD.out.to hb)
  replace HI := Lib.hid (HI.out.to hb)
  clear hb
  go_wp2_with fail
  have hbA : Below w24.heap.size w24 (w24.alloc (.cells #[vi 140, vi 252, vi 95, vi 188, vi 25, vi 48, vi 365, vi 654] 24)) := (Below.refl _ _).alloc (Nat.le_refl _) _
  have HB1 : Below w.heap.size w (w24.alloc (.cells #[vi 140, vi 252, vi 95, vi 188, vi 25, vi 48, vi 365, vi 654] 24)) := HB.trans (hbA.mono HB.size)
  have hsp : RowsAt (w24.alloc (.cells #[vi 140, vi 252, vi 95, vi 188, vi 25, vi 48, vi 365, vi 654] 24)) (w24.alloc (.cells #[vi 140, vi 252, vi 95, vi 188, vi 25, vi 48, vi 365, vi 654] 24)).heap.size 2 (some ⟨w24.heap.size, 0, none⟩) 4 ([((140 : Int), (252 : Int)), (95, 188), (25, 48), (365, 654)].map spanC) := ⟨by simp, by simp, by simp, row_of_box (CellsBox.new w24 24 [vi 140, vi 252, vi 95, vi 188, vi 25, vi 48, vi 365, vi 654]) (by intro r hr; obtain ⟨p, _, rfl⟩ := List.mem_map.1 hr; rfl)⟩
  refine (matchSpans_free dR (some ⟨w24.heap.size, 0, none⟩) 4 4 [((140 : Int), (252 : Int)), (95, 188), (25, 48), (365, 654)] [((140 : Int), (252 : Int)), (95, 188), (25, 48), (365, 654)] _ (HD.out.to hbA) hsp).mono ?_
  rintro e w25 ⟨rfl, hb⟩
  rw [show decide ([((140 : Int), (252 : Int)), (95, 188), (25, 48), (365, 654)] = [((140 : Int), (252 : Int)), (95, 188), (25, 48), (365, 654)]) = true by decide]
  replace HB : Below w.heap.size w w25 := HB1.trans (hb.mono HB1.size)
  replace HI := Lib.hid ((HI.out.to hbA).to hb)
  clear hb hbA HB1 hsp HD
  go_wp2_with fail
  have hbA : Below w25.heap.size w25 (w25.alloc (.cells #[vi 0] 3)) := (Below.refl _ _).alloc (Nat.le_refl _) _
  have HB1 : Below w.heap.size w (w25.alloc (.cells #[vi 0] 3)) := HB.trans (hbA.mono HB.size)
  have hsp : IntsAt (w25.alloc (.cells #[vi 0] 3)) (w25.alloc (.cells #[vi 0] 3)).heap.size (some ⟨w25.heap.size, 0, none⟩) 1 [0] := ⟨by simp, by simp, by simp, row_of_box (CellsBox.new w25 3 [vi 0]) (by intro r hr; obtain ⟨p, _, rfl⟩ := List.mem_map.1 hr; rfl)⟩
  refine (match_free lA (some ⟨w25.heap.size, 0, none⟩) 1 1 [0] [0] _ (HI.out.to hbA) hsp).mono ?_
  rintro e w26 ⟨rfl, hb⟩
  rw [show decide ([(0 : Int)] = [0]) = true by decide]
  replace HB : Below w.heap.size w w26 := HB1.trans (hb.mono HB1.size)
  clear hb hbA HB1 hsp HI
  go_wp2_with fail
  go_ret
  exact ⟨rfl, HB⟩
end Go.Proofs.YtomgnpfpaodpiaaDoor

/- Contract of the specification's Check, where the head of a floor is wrong. -/
namespace Go.Proofs.YtomgnpfpaodpiaaDoor
open Go Go.RowKit
set_option maxHeartbeats 4000000
def properB (a b c d : Int) : Bool := decide (c ≤ a) && decide (a ≤ b) && decide (b ≤ d)
theorem proper_is {a b c d : Int} {v : Bool} (hv : properB a b c d = v) (w : World) :
    Calls Tryd.prog 58 #[.agg #[vi a, vi b], vi c, vi d] w fun e w' => e = .returned (.bool v) ∧ Below w.heap.size w w' := by
  subst hv
  exact proper_any a b c d w
theorem proper_within (a b c d : Int) : properB a b c d = withinB c d a b := by
  unfold properB withinB hasB
  by_cases h1 : c ≤ a <;> by_cases h2 : a ≤ b <;> by_cases h3 : b ≤ d
  all_goals (simp [h1, h2, h3] <;> omega)
/-- the head of a floor -/
def headB (f : Floor) : Bool := hasB 1 12 f.far.length && (decide (f.picks.length = f.far.length) && (properB f.slo f.shi 1 10 && (hasB 1 20 f.carry && decide (f.slips.length ≤ 9))))
theorem valid_head (f : Floor) : validB f = (headB f && ((List.range f.far.length).all (goodShelf f) && (List.range f.slips.length).all (goodSlip f))) := by
  unfold validB shelvesB headB
  rw [proper_within]
  have e1 : decide ((f.picks.length : Int) = f.far.length) = decide (f.picks.length = f.far.length) := by
    by_cases h : f.picks.length = f.far.length
    · simp [h]
    · have : ¬ (f.picks.length : Int) = f.far.length := by omega
      simp [h, this]
  have e2 : hasB 0 9 f.slips.length = decide (f.slips.length ≤ 9) := by
    unfold hasB
    by_cases h : f.slips.length ≤ 9
    · have : (f.slips.length : Int) ≤ 9 := by omega
      simp [h, this]
    · have : ¬ (f.slips.length : Int) ≤ 9 := by omega
      simp [h, this]
  rw [e1, e2]
  generalize hasB 1 12 f.far.length = x1
  generalize decide (f.picks.length = f.far.length) = x2
  generalize withinB 1 10 f.slo f.shi = x3
  generalize hasB 1 20 f.carry = x4
  generalize decide (f.slips.length ≤ 9) = x5
  generalize (List.range f.far.length).all (goodShelf f) = x6
  generalize (List.range f.slips.length).all (goodSlip f) = x7
  cases x1 <;> cases x2 <;> cases x3 <;> cases x4 <;> cases x5 <;> cases x6 <;> cases x7 <;> rfl
set_option maxRecDepth 100000 in
theorem rcheck_no (f : Floor) (w : World) (h : FloorAt w w.heap.size f) (hb : headB f = false) :
    Calls Tryd.prog 17 #[f.val] w fun e w' => e = .returned (vi 30) ∧ Below w.heap.size w w' := by
  have h1l := h.far.lens
  have h2l := h.picks.lens
  have h3l := h.slips.lens
  obtain ⟨fA, fC, ff, slo, shi, pA, pC, fp, fc, sA, sC, fs⟩ := f
  unfold headB at hb
  simp only at hb h1l h2l h3l
  clear h
  show Calls Tryd.prog 17 #[.agg #[.slice fA ff.length fC, vi slo, vi shi, .slice pA fp.length pC, vi fc, .slice sA fs.length sC]] w _
  rcases h1 : hasB 1 12 ff.length with _ | _
  · clear hb
    have H1 := Lib.hid h1
    clear h1
    go_enter Tryd.func17, Tryd.ntmps17
    go_wp2_with (go_at_call_of 39 ff; refine (tween_is H1.out _).mono ?_; rintro e w1 ⟨rfl, rfl⟩)
    go_rounds 2
    go_wp2_with fail
    go_rounds 2
    go_ret
    refine ⟨rfl, ?_⟩
    (repeat (first | exact Below.refl _ _ | refine Below.setCell ?_ (by first | omega | (simp; omega) | (simp; done)) _ | refine Below.alloc ?_ (by first | omega | (simp; omega) | (simp; done)) _ | refine Below.drew ?_ | refine below_drewN ?_ _ | refine Below.trans ?_ (Below.mono (by assumption) (by first | omega | (simp; omega) | (simp; done)))))
  have H1 := Lib.hid h1
  by_cases h2 : fp.length = ff.length
  · have h2e : ((fp.length : Int) == (ff.length : Int)) = true := by simp [h2]
    rcases h3 : properB slo shi 1 10 with _ | _
    · have H3 := Lib.hid h3
      clear hb h1 h2 h3
      go_enter Tryd.func17, Tryd.ntmps17
      go_wp2_with (first | (go_at_call_of 39 ff; refine (tween_is H1.out _).mono ?_; rintro e w1 ⟨rfl, rfl⟩) | (go_at_call 58; refine (proper_is H3.out _).mono ?_; rintro e w1 ⟨rfl, hb1⟩; obtain ⟨⟨hc1, hf1, hs1⟩, hz1⟩ := after hb1; (try simp only [World.size_alloc, World.size_setCell, World.size_drew] at hz1)))
      go_rounds 2
      go_wp2_with fail
      go_rounds 2
      go_ret
      refine ⟨rfl, ?_⟩
      (repeat (first | exact Below.refl _ _ | refine Below.setCell ?_ (by first | omega | (simp; omega) | (simp; done)) _ | refine Below.alloc ?_ (by first | omega | (simp; omega) | (simp; done)) _ | refine Below.drew ?_ | refine below_drewN ?_ _ | refine Below.trans ?_ (Below.mono (by assumption) (by first | omega | (simp; omega) | (simp; done)))))
    have H3 := Lib.hid h3
    rcases h4 : hasB 1 20 fc with _ | _
    · have H4 := Lib.hid h4
      clear hb h1 h2 h3 h4
      go_enter Tryd.func17, Tryd.ntmps17
      go_wp2_with (first | (go_at_call_of 39 ff; refine (tween_is H1.out _).mono ?_; rintro e w1 ⟨rfl, rfl⟩) | (go_at_call 58; refine (proper_is H3.out _).mono ?_; rintro e w1 ⟨rfl, hb1⟩; obtain ⟨⟨hc1, hf1, hs1⟩, hz1⟩ := after hb1; (try simp only [World.size_alloc, World.size_setCell, World.size_drew] at hz1)) | (go_at_call_of 39 fc; refine (tween_is H4.out _).mono ?_; rintro e w1 ⟨rfl, rfl⟩))
      go_rounds 2
      go_wp2_with fail
      go_rounds 2
      go_ret
      refine ⟨rfl, ?_⟩
      (repeat (first | exact Below.refl _ _ | refine Below.setCell ?_ (by first | omega | (simp; omega) | (simp; done)) _ | refine Below.alloc ?_ (by first | omega | (simp; omega) | (simp; done)) _ | refine Below.drew ?_ | refine below_drewN ?_ _ | refine Below.trans ?_ (Below.mono (by assumption) (by first | omega | (simp; omega) | (simp; done)))))
    have H4 := Lib.hid h4
    have h5 : ¬ (fs.length : Int) ≤ 9 := by
      rw [h1, h3, h4] at hb
      simp [h2] at hb
      omega
    have h5d : decide ((fs.length : Int) ≤ 9) = false := by simpa using h5
    clear hb h1 h2 h3 h4 h5
    go_enter Tryd.func17, Tryd.ntmps17
    go_wp2_with (first | (go_at_call_of 39 ff; refine (tween_is H1.out _).mono ?_; rintro e w1 ⟨rfl, rfl⟩) | (go_at_call 58; refine (proper_is H3.out _).mono ?_; rintro e w1 ⟨rfl, hb1⟩; obtain ⟨⟨hc1, hf1, hs1⟩, hz1⟩ := after hb1; (try simp only [World.size_alloc, World.size_setCell, World.size_drew] at hz1)) | (go_at_call_of 39 fc; refine (tween_is H4.out _).mono ?_; rintro e w1 ⟨rfl, rfl⟩))
    go_rounds 2
    go_wp2_with fail
    go_rounds 2
    go_ret
    refine ⟨rfl, ?_⟩
    (repeat (first | exact Below.refl _ _ | refine Below.setCell ?_ (by first | omega | (simp; omega) | (simp; done)) _ | refine Below.alloc ?_ (by first | omega | (simp; omega) | (simp; done)) _ | refine Below.drew ?_ | refine below_drewN ?_ _ | refine Below.trans ?_ (Below.mono (by assumption) (by first | omega | (simp; omega) | (simp; done)))))
  · have h2e : ((fp.length : Int) == (ff.length : Int)) = false := by simp; omega
    clear hb h1 h2
    go_enter Tryd.func17, Tryd.ntmps17
    go_wp2_with (go_at_call_of 39 ff; refine (tween_is H1.out _).mono ?_; rintro e w1 ⟨rfl, rfl⟩)
    go_rounds 2
    go_wp2_with fail
    go_rounds 2
    go_ret
    refine ⟨rfl, ?_⟩
    (repeat (first | exact Below.refl _ _ | refine Below.setCell ?_ (by first | omega | (simp; omega) | (simp; done)) _ | refine Below.alloc ?_ (by first | omega | (simp; omega) | (simp; done)) _ | refine Below.drew ?_ | refine below_drewN ?_ _ | refine Below.trans ?_ (Below.mono (by assumption) (by first | omega | (simp; omega) | (simp; done)))))
end Go.Proofs.YtomgnpfpaodpiaaDoor

