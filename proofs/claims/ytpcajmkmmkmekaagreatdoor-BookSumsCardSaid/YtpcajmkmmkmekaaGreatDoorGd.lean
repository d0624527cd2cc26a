/- Contracts of what looks an entry up. -/
import Derived.Test.YtpcajmkmmkmekaaGreatDoorGc
import Derived.Deep.RegionWith
import Derived.Laws.EntriesVeiled
import Derived.Test.YtpcajmkmmkmekaaGreatDoorGa
import Derived.Maps.AppendAt
set_option linter.unusedVariables false
set_option linter.unusedSimpArgs false
namespace Go.Proofs.YtpcajmkmmkmekaaGreatDoor
open Go Go.RowKit
set_option maxHeartbeats 1000000
def Entry.zero : Entry := ⟨0, 0, 0, none, 0, []⟩
abbrev foundV (o : Option Entry) : Value := .tuple #[(o.getD Entry.zero).val, .bool o.isSome]
theorem wantGood_any (e : Entry) (bg : Nat) (g : Int) (w : World) (h : w.cell? ⟨bg, 0, none⟩ = some (vi g)) (hb : bg < w.heap.size) :
    Calls Tryz.prog 73 #[e.val, .pointer (some ⟨bg, 0, none⟩)] w fun e' w' => e' = .returned (.bool (e.good == g)) ∧ Below w.heap.size w w' := by
  go_enter Tryz.func73, Tryz.ntmps73
  go_wp2
  go_ret
  refine ⟨rfl, ?_⟩
  (repeat (first | exact Below.refl _ _ | refine Below.setCell ?_ (by first | omega | (simp; omega) | (simp; done)) _ | refine Below.alloc ?_ (by first | omega | (simp; omega) | (simp; done)) _ | refine Below.drew ?_ | refine below_drewN ?_ _ | refine Below.trans ?_ (Below.mono (by assumption) (by first | omega | (simp; omega) | (simp; done)))))
theorem wantNumber_any (e : Entry) (bg : Nat) (g : Int) (w : World) (h : w.cell? ⟨bg, 0, none⟩ = some (vi g)) (hb : bg < w.heap.size) :
    Calls Tryz.prog 113 #[e.val, .pointer (some ⟨bg, 0, none⟩)] w fun e' w' => e' = .returned (.bool (e.number == g)) ∧ Below w.heap.size w w' := by
  go_enter Tryz.func113, Tryz.ntmps113
  go_wp2
  go_ret
  refine ⟨rfl, ?_⟩
  (repeat (first | exact Below.refl _ _ | refine Below.setCell ?_ (by first | omega | (simp; omega) | (simp; done)) _ | refine Below.alloc ?_ (by first | omega | (simp; omega) | (simp; done)) _ | refine Below.drew ?_ | refine below_drewN ?_ _ | refine Below.trans ?_ (Below.mono (by assumption) (by first | omega | (simp; omega) | (simp; done)))))
structure FindW (w : World) (bw bl bg : Nat) (f : Nat) (g : Int) : Prop where
  c0 : w.cell? ⟨bw, 0, none⟩ = some (.func (.func f) #[] #[.pointer (some ⟨bg, 0, none⟩)])
  c1 : w.cell? ⟨bl, 0, none⟩ = some (.func (.func 92) #[] #[.pointer (some ⟨bw, 0, none⟩), .pointer (some ⟨bl, 0, none⟩)])
  c2 : w.cell? ⟨bg, 0, none⟩ = some (vi g)
  h0 : bw < w.heap.size
  h1 : bl < w.heap.size
  h2 : bg < w.heap.size
theorem FindW.to {w w' : World} {bw bl bg f : Nat} {g : Int} (h : FindW w bw bl bg f g) (hb : Below w.heap.size w w') : FindW w' bw bl bg f g :=
  ⟨(hb.cell (p := ⟨bw, 0, none⟩) h.h0).trans h.c0, (hb.cell (p := ⟨bl, 0, none⟩) h.h1).trans h.c1, (hb.cell (p := ⟨bg, 0, none⟩) h.h2).trans h.c2, by have := hb.size; have := h.h0; omega, by have := hb.size; have := h.h1; omega, by have := hb.size; have := h.h2; omega⟩
def tailAd (b off n : Nat) : Option Addr := if n + 1 = 1 then some ⟨b, off, none⟩ else some ⟨b, off + 4, none⟩
theorem EntriesAt.tail {w : World} {B b off cap : Nat} {e : Entry} {l : List Entry} (h : EntriesAt w B (some ⟨b, off, none⟩) cap (e :: l)) : EntriesAt w B (tailAd b off l.length) l.length l := by
  refine ⟨Nat.le_refl _, by have := h.len; have := h.cap; simp at *; omega, ?_, fun x hx => h.each x (List.mem_cons_of_mem _ hx)⟩
  intro hl
  rw [List.length_map] at hl
  obtain ⟨b', off', hA, hb, hc⟩ := h.row (by simp)
  simp only [Option.some.injEq, Addr.mk.injEq, and_true] at hA
  obtain ⟨rfl, rfl⟩ := hA
  refine ⟨b, off + 4, by rw [tailAd, if_neg (by omega)], hb, fun i r hr j u hj hu => ?_⟩
  have := hc (i + 1) r (by simpa using hr) j u hj hu
  rwa [show off + (i + 1) * 4 = off + 4 + i * 4 by omega] at this
theorem slice_tail (w : World) (b off n cap : Nat) (h : n + 1 ≤ cap) :
    (Instr.slice 61 (.slice (some ⟨b, off, none⟩) (n + 1) cap) (some (vi 1)) (some (vi ((n : Int) + 1))) (some (vi ((n : Int) + 1)))).run Tryz.prog w = .ok (.slice (tailAd b off n) n n) w := by
  have h1 : (0 : Int) ≤ n := by omega
  have h2 : (n : Int) + 1 ≤ cap := by omega
  simp [go_sem, sliced, tailAd, h1, h2, Addr.add]
  rw [if_pos (by omega), if_pos (by omega), if_pos (by omega)]
theorem find1_good (bw bl bg : Nat) (g : Int) (l : List Entry) : ∀ (A : Option Addr) (cap : Nat) (w : World), EntriesAt w w.heap.size A cap l → FindW w bw bl bg 73 g →
    Calls Tryz.prog 92 #[.slice A l.length cap, .pointer (some ⟨bw, 0, none⟩), .pointer (some ⟨bl, 0, none⟩)] w fun e' w' => e' = .returned (foundV (l.find? fun e => e.good == g)) ∧ Below w.heap.size w w' := by
  induction l with
  | nil =>
    intro A cap w h hw
    go_enter Tryz.func92, Tryz.ntmps92
    go_wp2
    go_returns
    refine ⟨rfl, ?_⟩
    (repeat (first | exact Below.refl _ _ | refine Below.setCell ?_ (by first | omega | (simp; omega) | (simp; done)) _ | refine Below.alloc ?_ (by first | omega | (simp; omega) | (simp; done)) _ | refine Below.drew ?_ | refine below_drewN ?_ _ | refine Below.trans ?_ (Below.mono (by assumption) (by first | omega | (simp; omega) | (simp; done)))))
  | cons e l ih =>
    intro A cap w h hw
    obtain ⟨b, off, rfl, hb, c0, c1, c2, c3⟩ := row4 (k := 0) h.row rfl rfl
    simp only [Nat.zero_mul, Nat.add_zero] at c0 c1 c2 c3
    have d0 := hw.c0
    have d1 := hw.c1
    have z0 := hw.h0
    have z1 := hw.h1
    have hne : ((l.length : Int) + 1 == 0) = false := by rw [beq_eq_false_iff_ne]; omega
    have hlen := h.len
    have hcap := h.cap
    have IH := Lib.hid ih
    clear ih
    rcases hg : e.good == g with _ | _
    · go_enter Tryz.func92, Tryz.ntmps92
      go_wp2_with fail
      (refine wp_region_grow_lit (by kernel_rfl) (by kernel_rfl) ?_; (repeat (go_big_quiet_step ((go_at_call 73; refine Calls.grow_of (wantGood_any _ _ _ _ ((hw.to (by (repeat (first | exact Below.refl _ _ | refine Below.setCell ?_ (by first | omega | (simp; omega) | (simp; done)) _ | refine Below.alloc ?_ (by first | omega | (simp; omega) | (simp; done)) _ | refine Below.drew ?_ | refine below_drewN ?_ _ | refine Below.trans ?_ (Below.mono (plus_below _ _) (by first | omega | (simp; omega) | (simp; done))) | refine Below.trans ?_ (Below.mono (by assumption) (by first | omega | (simp; omega) | (simp; done))))))).c2) ((hw.to (by (repeat (first | exact Below.refl _ _ | refine Below.setCell ?_ (by first | omega | (simp; omega) | (simp; done)) _ | refine Below.alloc ?_ (by first | omega | (simp; omega) | (simp; done)) _ | refine Below.drew ?_ | refine below_drewN ?_ _ | refine Below.trans ?_ (Below.mono (plus_below _ _) (by first | omega | (simp; omega) | (simp; done))) | refine Below.trans ?_ (Below.mono (by assumption) (by first | omega | (simp; omega) | (simp; done))))))).h2)))))); refine wpQuiet_nil ?_; intro w1 hw1; have hb1 := below_of_plus hw1; clear hw1; obtain ⟨⟨hc1, hf1, hs1⟩, hz1⟩ := after hb1; (try simp only [World.size_alloc, World.size_setCell, World.size_drew] at hz1))
      go_wp2_with fail
      have HB2 : Below (w.heap.size + 1) (w.alloc (.cells #[vi 0, vi 0, vi 0, .slice none 0 0] 68)) w1 := by (repeat (first | exact Below.refl _ _ | refine Below.setCell ?_ (by first | omega | (simp; omega) | (simp; done)) _ | refine Below.alloc ?_ (by first | omega | (simp; omega) | (simp; done)) _ | refine Below.drew ?_ | refine below_drewN ?_ _ | refine Below.trans ?_ (Below.mono (by assumption) (by first | omega | (simp; omega) | (simp; done)))))
      have HB : Below w.heap.size w w1 := HB2.mono (by omega) |> fun h => ((Below.refl _ w).alloc (Nat.le_refl _) _).trans h
      have hw1 := hw.to HB
      have d1' := hw1.c1
      have z1' := hw1.h1
      have h1 := EntriesAt.to h HB
      have hsl := fun w => slice_tail w b off l.length cap (by simpa using hlen)
      have g0 := (HB2.cell (p := ⟨w.heap.size, 0, none⟩) (by simp)).trans (by simp [go_sem] : _ = some (vi 0))
      have g1 := (HB2.cell (p := ⟨w.heap.size, 1, none⟩) (by simp)).trans (by simp [go_sem] : _ = some (vi 0))
      have g2 := (HB2.cell (p := ⟨w.heap.size, 2, none⟩) (by simp)).trans (by simp [go_sem] : _ = some (vi 0))
      have g3 := (HB2.cell (p := ⟨w.heap.size, 3, none⟩) (by simp)).trans (by simp [go_sem] : _ = some (.slice none 0 0))
      have f0 := (HB2.frozen (p := ⟨w.heap.size, 0, none⟩) (by simp)).trans (by simp [go_sem] : _ = false)
      have f1 := (HB2.frozen (p := ⟨w.heap.size, 1, none⟩) (by simp)).trans (by simp [go_sem] : _ = false)
      have f2 := (HB2.frozen (p := ⟨w.heap.size, 2, none⟩) (by simp)).trans (by simp [go_sem] : _ = false)
      have f3 := (HB2.frozen (p := ⟨w.heap.size, 3, none⟩) (by simp)).trans (by simp [go_sem] : _ = false)
      have z2 : w.heap.size < w1.heap.size := by omega
      clear c0 c1 c2 c3 d0 d1 hz1 hs1 hc1 hf1 HB2
      go_region_with (go_at_call 92; refine (IH.out _ _ _ (EntriesAt.tail (EntriesAt.to h1 (Below.refl _ _).drew)) (hw1.to (Below.refl _ _).drew)).mono ?_; rintro e2 w2 ⟨rfl, hb2⟩; have G0 := (hb2.cell (p := ⟨w.heap.size, 0, none⟩) z2).trans g0; have G1 := (hb2.cell (p := ⟨w.heap.size, 1, none⟩) z2).trans g1; have G2 := (hb2.cell (p := ⟨w.heap.size, 2, none⟩) z2).trans g2; have G3 := (hb2.cell (p := ⟨w.heap.size, 3, none⟩) z2).trans g3; have F0 := (hb2.frozen (p := ⟨w.heap.size, 0, none⟩) z2).trans f0; have F1 := (hb2.frozen (p := ⟨w.heap.size, 1, none⟩) z2).trans f1; have F2 := (hb2.frozen (p := ⟨w.heap.size, 2, none⟩) z2).trans f2; have F3 := (hb2.frozen (p := ⟨w.heap.size, 3, none⟩) z2).trans f3; clear g0 g1 g2 g3 f0 f1 f2 f3)
      go_wp2
      refine bodyPost_ret (v := .tuple #[.agg #[_, _, _, _], .bool _]) (by simp [results, Tryz.results92, go_sem, G0, G1, G2, G3]; exact ⟨⟨rfl, rfl, rfl, rfl⟩, rfl⟩) rfl ⟨by simp [List.find?_cons, hg], ?_⟩
      (repeat (first | exact Below.refl _ _ | refine Below.setCell ?_ (by first | omega | (simp; omega) | (simp; done)) _ | refine Below.alloc ?_ (by first | omega | (simp; omega) | (simp; done)) _ | refine Below.drew ?_ | refine below_drewN ?_ _ | refine Below.trans ?_ (Below.mono (by assumption) (by first | omega | (simp; omega) | (simp; done)))))
    · go_enter Tryz.func92, Tryz.ntmps92
      go_wp2_with fail
      (refine wp_region_grow_lit (by kernel_rfl) (by kernel_rfl) ?_; (repeat (go_big_quiet_step ((go_at_call 73; refine Calls.grow_of (wantGood_any _ _ _ _ ((hw.to (by (repeat (first | exact Below.refl _ _ | refine Below.setCell ?_ (by first | omega | (simp; omega) | (simp; done)) _ | refine Below.alloc ?_ (by first | omega | (simp; omega) | (simp; done)) _ | refine Below.drew ?_ | refine below_drewN ?_ _ | refine Below.trans ?_ (Below.mono (plus_below _ _) (by first | omega | (simp; omega) | (simp; done))) | refine Below.trans ?_ (Below.mono (by assumption) (by first | omega | (simp; omega) | (simp; done))))))).c2) ((hw.to (by (repeat (first | exact Below.refl _ _ | refine Below.setCell ?_ (by first | omega | (simp; omega) | (simp; done)) _ | refine Below.alloc ?_ (by first | omega | (simp; omega) | (simp; done)) _ | refine Below.drew ?_ | refine below_drewN ?_ _ | refine Below.trans ?_ (Below.mono (plus_below _ _) (by first | omega | (simp; omega) | (simp; done))) | refine Below.trans ?_ (Below.mono (by assumption) (by first | omega | (simp; omega) | (simp; done))))))).h2)))))); refine wpQuiet_nil ?_; intro w1 hw1; have hb1 := below_of_plus hw1; clear hw1; obtain ⟨⟨hc1, hf1, hs1⟩, hz1⟩ := after hb1; (try simp only [World.size_alloc, World.size_setCell, World.size_drew] at hz1))
      have HB2 : Below (w.heap.size + 1) (w.alloc (.cells #[vi 0, vi 0, vi 0, .slice none 0 0] 68)) w1 := by (repeat (first | exact Below.refl _ _ | refine Below.setCell ?_ (by first | omega | (simp; omega) | (simp; done)) _ | refine Below.alloc ?_ (by first | omega | (simp; omega) | (simp; done)) _ | refine Below.drew ?_ | refine below_drewN ?_ _ | refine Below.trans ?_ (Below.mono (by assumption) (by first | omega | (simp; omega) | (simp; done)))))
      have HB : Below w.heap.size w w1 := HB2.mono (by omega) |> fun h => ((Below.refl _ w).alloc (Nat.le_refl _) _).trans h
      have z2 : w.heap.size < w1.heap.size := by omega
      have z3 : b < w1.heap.size := by omega
      have C0 := (HB.cell (p := ⟨b, off, none⟩) hb).trans c0
      have C1 := (HB.cell (p := ⟨b, off + 1, none⟩) hb).trans c1
      have C2 := (HB.cell (p := ⟨b, off + 2, none⟩) hb).trans c2
      have C3 := (HB.cell (p := ⟨b, off + 3, none⟩) hb).trans c3
      go_wp2
      refine bodyPost_ret (v := .tuple #[.agg #[_, _, _, _], .bool _]) (by simp [results, Tryz.results92, go_sem, hc1, z2]; exact ⟨⟨rfl, rfl, rfl, rfl⟩, rfl⟩) rfl ⟨by simp [List.find?_cons, hg], ?_⟩
      (repeat (first | exact Below.refl _ _ | refine Below.setCell ?_ (by first | omega | (simp; omega) | (simp; done)) _ | refine Below.alloc ?_ (by first | omega | (simp; omega) | (simp; done)) _ | refine Below.drew ?_ | refine below_drewN ?_ _ | refine Below.trans ?_ (Below.mono (by assumption) (by first | omega | (simp; omega) | (simp; done)))))
theorem find1_number (bw bl bg : Nat) (g : Int) (l : List Entry) : ∀ (A : Option Addr) (cap : Nat) (w : World), EntriesAt w w.heap.size A cap l → FindW w bw bl bg 113 g →
    Calls Tryz.prog 92 #[.slice A l.length cap, .pointer (some ⟨bw, 0, none⟩), .pointer (some ⟨bl, 0, none⟩)] w fun e' w' => e' = .returned (foundV (l.find? fun e => e.number == g)) ∧ Below w.heap.size w w' := by
  induction l with
  | nil =>
    intro A cap w h hw
    go_enter Tryz.func92, Tryz.ntmps92
    go_wp2
    go_returns
    refine ⟨rfl, ?_⟩
    (repeat (first | exact Below.refl _ _ | refine Below.setCell ?_ (by first | omega | (simp; omega) | (simp; done)) _ | refine Below.alloc ?_ (by first | omega | (simp; omega) | (simp; done)) _ | refine Below.drew ?_ | refine below_drewN ?_ _ | refine Below.trans ?_ (Below.mono (by assumption) (by first | omega | (simp; omega) | (simp; done)))))
  | cons e l ih =>
    intro A cap w h hw
    obtain ⟨b, off, rfl, hb, c0, c1, c2, c3⟩ := row4 (k := 0) h.row rfl rfl
    simp only [Nat.zero_mul, Nat.add_zero] at c0 c1 c2 c3
    have d0 := hw.c0
    have d1 := hw.c1
    have z0 := hw.h0
    have z1 := hw.h1
    have hne : ((l.length : Int) + 1 == 0) = false := by rw [beq_eq_false_iff_ne]; omega
    have hlen := h.len
    have hcap := h.cap
    have IH := Lib.hid ih
    clear ih
    rcases hg : e.number == g with _ | _
    · go_enter Tryz.func92, Tryz.ntmps92
      go_wp2_with fail
      (refine wp_region_grow_lit (by kernel_rfl) (by kernel_rfl) ?_; (repeat (go_big_quiet_step ((go_at_call 113; refine Calls.grow_of (wantNumber_any _ _ _ _ ((hw.to (by (repeat (first | exact Below.refl _ _ | refine Below.setCell ?_ (by first | omega | (simp; omega) | (simp; done)) _ | refine Below.alloc ?_ (by first | omega | (simp; omega) | (simp; done)) _ | refine Below.drew ?_ | refine below_drewN ?_ _ | refine Below.trans ?_ (Below.mono (plus_below _ _) (by first | omega | (simp; omega) | (simp; done))) | refine Below.trans ?_ (Below.mono (by assumption) (by first | omega | (simp; omega) | (simp; done))))))).c2) ((hw.to (by (repeat (first | exact Below.refl _ _ | refine Below.setCell ?_ (by first | omega | (simp; omega) | (simp; done)) _ | refine Below.alloc ?_ (by first | omega | (simp; omega) | (simp; done)) _ | refine Below.drew ?_ | refine below_drewN ?_ _ | refine Below.trans ?_ (Below.mono (plus_below _ _) (by first | omega | (simp; omega) | (simp; done))) | refine Below.trans ?_ (Below.mono (by assumption) (by first | omega | (simp; omega) | (simp; done))))))).h2)))))); refine wpQuiet_nil ?_; intro w1 hw1; have hb1 := below_of_plus hw1; clear hw1; obtain ⟨⟨hc1, hf1, hs1⟩, hz1⟩ := after hb1; (try simp only [World.size_alloc, World.size_setCell, World.size_drew] at hz1))
      go_wp2_with fail
      have HB2 : Below (w.heap.size + 1) (w.alloc (.cells #[vi 0, vi 0, vi 0, .slice none 0 0] 68)) w1 := by (repeat (first | exact Below.refl _ _ | refine Below.setCell ?_ (by first | omega | (simp; omega) | (simp; done)) _ | refine Below.alloc ?_ (by first | omega | (simp; omega) | (simp; done)) _ | refine Below.drew ?_ | refine below_drewN ?_ _ | refine Below.trans ?_ (Below.mono (by assumption) (by first | omega | (simp; omega) | (simp; done)))))
      have HB : Below w.heap.size w w1 := HB2.mono (by omega) |> fun h => ((Below.refl _ w).alloc (Nat.le_refl _) _).trans h
      have hw1 := hw.to HB
      have d1' := hw1.c1
      have z1' := hw1.h1
      have h1 := EntriesAt.to h HB
      have hsl := fun w => slice_tail w b off l.length cap (by simpa using hlen)
      have g0 := (HB2.cell (p := ⟨w.heap.size, 0, none⟩) (by simp)).trans (by simp [go_sem] : _ = some (vi 0))
      have g1 := (HB2.cell (p := ⟨w.heap.size, 1, none⟩) (by simp)).trans (by simp [go_sem] : _ = some (vi 0))
      have g2 := (HB2.cell (p := ⟨w.heap.size, 2, none⟩) (by simp)).trans (by simp [go_sem] : _ = some (vi 0))
      have g3 := (HB2.cell (p := ⟨w.heap.size, 3, none⟩) (by simp)).trans (by simp [go_sem] : _ = some (.slice none 0 0))
      have f0 := (HB2.frozen (p := ⟨w.heap.size, 0, none⟩) (by simp)).trans (by simp [go_sem] : _ = false)
      have f1 := (HB2.frozen (p := ⟨w.heap.size, 1, none⟩) (by simp)).trans (by simp [go_sem] : _ = false)
      have f2 := (HB2.frozen (p := ⟨w.heap.size, 2, none⟩) (by simp)).trans (by simp [go_sem] : _ = false)
      have f3 := (HB2.frozen (p := ⟨w.heap.size, 3, none⟩) (by simp)).trans (by simp [go_sem] : _ = false)
      have z2 : w.heap.size < w1.heap.size := by omega
      clear c0 c1 c2 c3 d0 d1 hz1 hs1 hc1 hf1 HB2
      go_region_with (go_at_call 92; refine (IH.out _ _ _ (EntriesAt.tail (EntriesAt.to h1 (Below.refl _ _).drew)) (hw1.to (Below.refl _ _).drew)).mono ?_; rintro e2 w2 ⟨rfl, hb2⟩; have G0 := (hb2.cell (p := ⟨w.heap.size, 0, none⟩) z2).trans g0; have G1 := (hb2.cell (p := ⟨w.heap.size, 1, none⟩) z2).trans g1; have G2 := (hb2.cell (p := ⟨w.heap.size, 2, none⟩) z2).trans g2; have G3 := (hb2.cell (p := ⟨w.heap.size, 3, none⟩) z2).trans g3; have F0 := (hb2.frozen (p := ⟨w.heap.size, 0, none⟩) z2).trans f0; have F1 := (hb2.frozen (p := ⟨w.heap.size, 1, none⟩) z2).trans f1; have F2 := (hb2.frozen (p := ⟨w.heap.size, 2, none⟩) z2).trans f2; have F3 := (hb2.frozen (p := ⟨w.heap.size, 3, none⟩) z2).trans f3; clear g0 g1 g2 g3 f0 f1 f2 f3)
      go_wp2
      refine bodyPost_ret (v := .tuple #[.agg #[_, _, _, _], .bool _]) (by simp [results, Tryz.results92, go_sem, G0, G1, G2, G3]; exact ⟨⟨rfl, rfl, rfl, rfl⟩, rfl⟩) rfl ⟨by simp [List.find?_cons, hg], ?_⟩
      (repeat (first | exact Below.refl _ _ | refine Below.setCell ?_ (by first | omega | (simp; omega) | (simp; done)) _ | refine Below.alloc ?_ (by first | omega | (simp; omega) | (simp; done)) _ | refine Below.drew ?_ | refine below_drewN ?_ _ | refine Below.trans ?_ (Below.mono (by assumption) (by first | omega | (simp; omega) | (simp; done)))))
    · go_enter Tryz.func92, Tryz.ntmps92
      go_wp2_with fail
      (refine wp_region_grow_lit (by kernel_rfl) (by kernel_rfl) ?_; (repeat (go_big_quiet_step ((go_at_call 113; refine Calls.grow_of (wantNumber_any _ _ _ _ ((hw.to (by (repeat (first | exact Below.refl _ _ | refine Below.setCell ?_ (by first | omega | (simp; omega) | (simp; done)) _ | refine Below.alloc ?_ (by first | omega | (simp; omega) | (simp; done)) _ | refine Below.drew ?_ | refine below_drewN ?_ _ | refine Below.trans ?_ (Below.mono (plus_below _ _) (by first | omega | (simp; omega) | (simp; done))) | refine Below.trans ?_ (Below.mono (by assumption) (by first | omega | (simp; omega) | (simp; done))))))).c2) ((hw.to (by (repeat (first | exact Below.refl _ _ | refine Below.setCell ?_ (by first | omega | (simp; omega) | (simp; done)) _ | refine Below.alloc ?_ (by first | omega | (simp; omega) | (simp; done)) _ | refine Below.drew ?_ | refine below_drewN ?_ _ | refine Below.trans ?_ (Below.mono (plus_below _ _) (by first | omega | (simp; omega) | (simp; done))) | refine Below.trans ?_ (Below.mono (by assumption) (by first | omega | (simp; omega) | (simp; done))))))).h2)))))); refine wpQuiet_nil ?_; intro w1 hw1; have hb1 := below_of_plus hw1; clear hw1; obtain ⟨⟨hc1, hf1, hs1⟩, hz1⟩ := after hb1; (try simp only [World.size_alloc, World.size_setCell, World.size_drew] at hz1))
      have HB2 : Below (w.heap.size + 1) (w.alloc (.cells #[vi 0, vi 0, vi 0, .slice none 0 0] 68)) w1 := by (repeat (first | exact Below.refl _ _ | refine Below.setCell ?_ (by first | omega | (simp; omega) | (simp; done)) _ | refine Below.alloc ?_ (by first | omega | (simp; omega) | (simp; done)) _ | refine Below.drew ?_ | refine below_drewN ?_ _ | refine Below.trans ?_ (Below.mono (by assumption) (by first | omega | (simp; omega) | (simp; done)))))
      have HB : Below w.heap.size w w1 := HB2.mono (by omega) |> fun h => ((Below.refl _ w).alloc (Nat.le_refl _) _).trans h
      have z2 : w.heap.size < w1.heap.size := by omega
      have z3 : b < w1.heap.size := by omega
      have C0 := (HB.cell (p := ⟨b, off, none⟩) hb).trans c0
      have C1 := (HB.cell (p := ⟨b, off + 1, none⟩) hb).trans c1
      have C2 := (HB.cell (p := ⟨b, off + 2, none⟩) hb).trans c2
      have C3 := (HB.cell (p := ⟨b, off + 3, none⟩) hb).trans c3
      go_wp2
      refine bodyPost_ret (v := .tuple #[.agg #[_, _, _, _], .bool _]) (by simp [results, Tryz.results92, go_sem, hc1, z2]; exact ⟨⟨rfl, rfl, rfl, rfl⟩, rfl⟩) rfl ⟨by simp [List.find?_cons, hg], ?_⟩
      (repeat (first | exact Below.refl _ _ | refine Below.setCell ?_ (by first | omega | (simp; omega) | (simp; done)) _ | refine Below.alloc ?_ (by first | omega | (simp; omega) | (simp; done)) _ | refine Below.drew ?_ | refine below_drewN ?_ _ | refine Below.trans ?_ (Below.mono (by assumption) (by first | omega | (simp; omega) | (simp; done)))))
end Go.Proofs.YtpcajmkmmkmekaaGreatDoor

/- Contracts of what looks an entry up, and of look, sizes, Fits and Sure. -/
namespace Go.Proofs.YtpcajmkmmkmekaaGreatDoor
open Go Go.RowKit
set_option maxHeartbeats 1000000
theorem find_good (x : Issue) (bg : Nat) (g : Int) (w : World) (h : IssueAt w w.heap.size x) (hg : w.cell? ⟨bg, 0, none⟩ = some (vi g)) (hb : bg < w.heap.size) :
    Calls Tryz.prog 72 #[x.val, .func (.func 73) #[] #[.pointer (some ⟨bg, 0, none⟩)]] w fun e' w' => e' = .returned (foundV (x.entries.find? fun e => e.good == g)) ∧ Below w.heap.size w w' := by
  go_enter Tryz.func72, Tryz.ntmps72
  go_wp2_with fail
  refine (find1_good (w.heap.size + 1) (w.heap.size + 1 + 1 + 1) bg g x.entries x.ad x.cap _ (EntriesAt.to h (by (repeat (first | exact Below.refl _ _ | refine Below.setCell ?_ (by first | omega | (simp; omega) | (simp; done)) _ | refine Below.alloc ?_ (by first | omega | (simp; omega) | (simp; done)) _ | refine Below.drew ?_ | refine below_drewN ?_ _ | refine Below.trans ?_ (Below.mono (by assumption) (by first | omega | (simp; omega) | (simp; done))))))) ⟨by simp [go_sem], by simp [go_sem], ((by (repeat (first | exact Below.refl _ _ | refine Below.setCell ?_ (by first | omega | (simp; omega) | (simp; done)) _ | refine Below.alloc ?_ (by first | omega | (simp; omega) | (simp; done)) _ | refine Below.drew ?_ | refine below_drewN ?_ _ | refine Below.trans ?_ (Below.mono (by assumption) (by first | omega | (simp; omega) | (simp; done))))) : Below w.heap.size w _).cell (p := ⟨bg, 0, none⟩) hb).trans hg, by simp, by simp, by simp; omega⟩).mono ?_
  rintro e' w1 ⟨rfl, hb1⟩
  obtain ⟨⟨hc1, hf1, hs1⟩, hz1⟩ := after hb1
  go_wp2
  refine bodyPost_ret (v := .tuple #[.agg #[_, _, _, _], .bool _]) (by simp [results, Tryz.results72, go_sem, hc1, hf1]; try exact ⟨⟨rfl, rfl, rfl, rfl⟩, rfl⟩) rfl ⟨rfl, ?_⟩
  (repeat (first | exact Below.refl _ _ | refine Below.setCell ?_ (by first | omega | (simp; omega) | (simp; done)) _ | refine Below.alloc ?_ (by first | omega | (simp; omega) | (simp; done)) _ | refine Below.drew ?_ | refine below_drewN ?_ _ | refine Below.trans ?_ (Below.mono (by assumption) (by first | omega | (simp; omega) | (simp; done)))))
theorem find_number (x : Issue) (bg : Nat) (g : Int) (w : World) (h : IssueAt w w.heap.size x) (hg : w.cell? ⟨bg, 0, none⟩ = some (vi g)) (hb : bg < w.heap.size) :
    Calls Tryz.prog 72 #[x.val, .func (.func 113) #[] #[.pointer (some ⟨bg, 0, none⟩)]] w fun e' w' => e' = .returned (foundV (x.entries.find? fun e => e.number == g)) ∧ Below w.heap.size w w' := by
  go_enter Tryz.func72, Tryz.ntmps72
  go_wp2_with fail
  refine (find1_number (w.heap.size + 1) (w.heap.size + 1 + 1 + 1) bg g x.entries x.ad x.cap _ (EntriesAt.to h (by (repeat (first | exact Below.refl _ _ | refine Below.setCell ?_ (by first | omega | (simp; omega) | (simp; done)) _ | refine Below.alloc ?_ (by first | omega | (simp; omega) | (simp; done)) _ | refine Below.drew ?_ | refine below_drewN ?_ _ | refine Below.trans ?_ (Below.mono (by assumption) (by first | omega | (simp; omega) | (simp; done))))))) ⟨by simp [go_sem], by simp [go_sem], ((by (repeat (first | exact Below.refl _ _ | refine Below.setCell ?_ (by first | omega | (simp; omega) | (simp; done)) _ | refine Below.alloc ?_ (by first | omega | (simp; omega) | (simp; done)) _ | refine Below.drew ?_ | refine below_drewN ?_ _ | refine Below.trans ?_ (Below.mono (by assumption) (by first | omega | (simp; omega) | (simp; done))))) : Below w.heap.size w _).cell (p := ⟨bg, 0, none⟩) hb).trans hg, by simp, by simp, by simp; omega⟩).mono ?_
  rintro e' w1 ⟨rfl, hb1⟩
  obtain ⟨⟨hc1, hf1, hs1⟩, hz1⟩ := after hb1
  go_wp2
  refine bodyPost_ret (v := .tuple #[.agg #[_, _, _, _], .bool _]) (by simp [results, Tryz.results72, go_sem, hc1, hf1]; try exact ⟨⟨rfl, rfl, rfl, rfl⟩, rfl⟩) rfl ⟨rfl, ?_⟩
  (repeat (first | exact Below.refl _ _ | refine Below.setCell ?_ (by first | omega | (simp; omega) | (simp; done)) _ | refine Below.alloc ?_ (by first | omega | (simp; omega) | (simp; done)) _ | refine Below.drew ?_ | refine below_drewN ?_ _ | refine Below.trans ?_ (Below.mono (by assumption) (by first | omega | (simp; omega) | (simp; done)))))
theorem entryOfGood_any (x : Issue) (g : Int) (w : World) (h : IssueAt w w.heap.size x) :
    Calls Tryz.prog 42 #[x.val, vi g] w fun e' w' => e' = .returned (foundV (x.entries.find? fun e => e.good == g)) ∧ Below w.heap.size w w' := by
  go_enter Tryz.func42, Tryz.ntmps42
  go_wp2_with fail
  refine (find_good x (w.heap.size + 1) g _ (IssueAt.to h (by (repeat (first | exact Below.refl _ _ | refine Below.setCell ?_ (by first | omega | (simp; omega) | (simp; done)) _ | refine Below.alloc ?_ (by first | omega | (simp; omega) | (simp; done)) _ | refine Below.drew ?_ | refine below_drewN ?_ _ | refine Below.trans ?_ (Below.mono (by assumption) (by first | omega | (simp; omega) | (simp; done))))))) (by simp [go_sem]) (by simp)).mono ?_
  rintro e' w1 ⟨rfl, hb1⟩
  obtain ⟨⟨hc1, hf1, hs1⟩, hz1⟩ := after hb1
  go_wp2
  refine bodyPost_ret (v := .tuple #[.agg #[_, _, _, _], .bool _]) (by simp [results, Tryz.results42, go_sem, hc1, hf1]; try exact ⟨⟨rfl, rfl, rfl, rfl⟩, rfl⟩) rfl ⟨rfl, ?_⟩
  (repeat (first | exact Below.refl _ _ | refine Below.setCell ?_ (by first | omega | (simp; omega) | (simp; done)) _ | refine Below.alloc ?_ (by first | omega | (simp; omega) | (simp; done)) _ | refine Below.drew ?_ | refine below_drewN ?_ _ | refine Below.trans ?_ (Below.mono (by assumption) (by first | omega | (simp; omega) | (simp; done)))))
theorem entryOfNumber_any (x : Issue) (g : Int) (w : World) (h : IssueAt w w.heap.size x) :
    Calls Tryz.prog 96 #[x.val, vi g] w fun e' w' => e' = .returned (foundV (x.entries.find? fun e => e.number == g)) ∧ Below w.heap.size w w' := by
  go_enter Tryz.func96, Tryz.ntmps96
  go_wp2_with fail
  refine (find_number x (w.heap.size + 1) g _ (IssueAt.to h (by (repeat (first | exact Below.refl _ _ | refine Below.setCell ?_ (by first | omega | (simp; omega) | (simp; done)) _ | refine Below.alloc ?_ (by first | omega | (simp; omega) | (simp; done)) _ | refine Below.drew ?_ | refine below_drewN ?_ _ | refine Below.trans ?_ (Below.mono (by assumption) (by first | omega | (simp; omega) | (simp; done))))))) (by simp [go_sem]) (by simp)).mono ?_
  rintro e' w1 ⟨rfl, hb1⟩
  obtain ⟨⟨hc1, hf1, hs1⟩, hz1⟩ := after hb1
  go_wp2
  refine bodyPost_ret (v := .tuple #[.agg #[_, _, _, _], .bool _]) (by simp [results, Tryz.results96, go_sem, hc1, hf1]; try exact ⟨⟨rfl, rfl, rfl, rfl⟩, rfl⟩) rfl ⟨rfl, ?_⟩
  (repeat (first | exact Below.refl _ _ | refine Below.setCell ?_ (by first | omega | (simp; omega) | (simp; done)) _ | refine Below.alloc ?_ (by first | omega | (simp; omega) | (simp; done)) _ | refine Below.drew ?_ | refine below_drewN ?_ _ | refine Below.trans ?_ (Below.mono (by assumption) (by first | omega | (simp; omega) | (simp; done)))))
end Go.Proofs.YtpcajmkmmkmekaaGreatDoor

/- Contracts of look, sizes, Fits and Sure. -/
namespace Go.Proofs.YtpcajmkmmkmekaaGreatDoor
open Go Go.RowKit
set_option maxHeartbeats 1000000
theorem info_int : (Tryz.prog.info? 3).map (fun i => (i.zero, i.size, i.bytes)) = some (some (.int .i64 0), 1, 8) := by kernel_rfl
theorem sizes_meet (a b : Int) (A : Option Addr) (cap : Nat) (l : List Fit) (p : Fit → Bool) (hp : ∀ f, p f = meetB f.lo f.hi a b) (w : World) (h : FitsAt w w.heap.size A cap l) :
    Calls Tryz.prog 97 #[.agg #[vi a, vi b, .func (.func 79) #[] #[]], .slice A l.length cap] w fun e w' => ∃ v, e = .returned v ∧ IntsOut (sizesV p l) w v w' := by
  have hcap := h.cap
  have hlen := h.len
  have Hp := Lib.hid hp
  clear hp
  obtain ⟨i0, hi, hz0, hz1, hz2⟩ := info_parts info_int
  go_enter Tryz.func97, Tryz.ntmps97
  go_wp2
  have HB0 : Below w.heap.size w (w.alloc (.cells #[vi a, vi b, .func (.func 79) #[] #[]] 130)) := by (repeat (first | exact Below.refl _ _ | refine Below.setCell ?_ (by first | omega | (simp; omega) | (simp; done)) _ | refine Below.alloc ?_ (by first | omega | (simp; omega) | (simp; done)) _ | refine Below.drew ?_ | refine below_drewN ?_ _ | refine Below.trans ?_ (Below.mono (by assumption) (by first | omega | (simp; omega) | (simp; done)))))
  have e0 : (w.alloc (.cells #[vi a, vi b, .func (.func 79) #[] #[]] 130)).cell? ⟨w.heap.size, 0, none⟩ = some (vi a) := by simp [go_sem]
  have e1 : (w.alloc (.cells #[vi a, vi b, .func (.func 79) #[] #[]] 130)).cell? ⟨w.heap.size, 1, none⟩ = some (vi b) := by simp [go_sem]
  have e2 : (w.alloc (.cells #[vi a, vi b, .func (.func 79) #[] #[]] 130)).cell? ⟨w.heap.size, 2, none⟩ = some (.func (.func 79) #[] #[]) := by simp [go_sem]
  have z0 : w.heap.size < (w.alloc (.cells #[vi a, vi b, .func (.func 79) #[] #[]] 130)).heap.size := by simp
  have h' := FitsAt.to h HB0
  generalize (w.alloc (.cells #[vi a, vi b, .func (.func 79) #[] #[]] 130)) = W at *
  go_loopw [5, 10] (fun v i wr => ∃ k : Nat, k ≤ l.length ∧ i = .int .i64 k ∧ Below W.heap.size W wr ∧ wr.ownsRow W.heap.size 3 1 v (sizesV p (l.take k)).length ((sizesV p (l.take k)).map vi)) (fun _ i _ => l.length - (intOf i).toNat)
  case atStart => exact ⟨0, Nat.zero_le _, rfl, Below.refl _ _, by simpa [sizesV] using World.ownsRow_nil _ _ _ _⟩
  case round =>
    obtain ⟨k, hk, rfl, hB, hown⟩ := hrel
    have hbs := hB.size
    by_cases hlt : k < l.length
    · obtain ⟨x, hx⟩ : ∃ x, l[k]? = some x := ⟨_, List.getElem?_eq_getElem hlt⟩
      obtain ⟨bb, off, rfl, hb, c0, c1, c2, c3⟩ := row4 (FitsAt.to h' hB).row hx rfl
      have d0 := (hB.cell (p := ⟨w.heap.size, 0, none⟩) z0).trans e0
      have d1 := (hB.cell (p := ⟨w.heap.size, 1, none⟩) z0).trans e1
      have d2 := (hB.cell (p := ⟨w.heap.size, 2, none⟩) z0).trans e2
      have z1 : w.heap.size < wr.heap.size := by omega
      have G := Lib.hid (sizesV_succ (p := p) hx)
      have hn := sizesV_le p l k
      clear hx
      have E : Hid (p x = meetB x.lo x.hi a b) := Hp.out x
      rcases hq : meetB x.lo x.hi a b with _ | _
      · go_wp2_with (go_at_call 79; refine (meet_any _ _ _ _ _).mono ?_; rintro e w1 ⟨rfl, hb1⟩; obtain ⟨⟨hc1, hf1, hs1⟩, hz1⟩ := after hb1; (try simp only [World.size_alloc, World.size_setCell, World.size_drew] at hz1))
        go_roundw
        case rel => exact ⟨k + 1, by omega, by go_num, (by (repeat (first | exact Below.refl _ _ | refine Below.setCell ?_ (by first | omega | (simp; omega) | (simp; done)) _ | refine Below.alloc ?_ (by first | omega | (simp; omega) | (simp; done)) _ | refine Below.drew ?_ | refine below_drewN ?_ _ | refine Below.trans ?_ (Below.mono (by assumption) (by first | omega | (simp; omega) | (simp; done)))))), by rw [G.out, E.out, hq]; simpa using own_keep (hown.alloc _) hb1⟩
        case measure => simp [intOf]; omega
      · go_wp2_with (first | (go_at_call 79; refine (meet_any _ _ _ _ _).mono ?_; rintro e w1 ⟨rfl, hb1⟩; have hown1 := own_keep (hown.alloc _) hb1; obtain ⟨⟨hc1, hf1, hs1⟩, hz3⟩ := after hb1; simp only [World.size_alloc] at hz3) | (at_builtin; refine wpList_append_own _ rfl _ _ 36 rfl W.heap.size 3 i0 (.int .i64 0) 1 8 Tryz.underlying36 hi hz0 hz1 hz2 rfl (by decide) _ _ _ rfl (hown1.alloc _) ⟨w1.heap.size, 0, none⟩ 1 1 [vi x.size] rfl rfl (cell_one_new _ _ _) (by simp [Value.oneCell']) (by unfold maxLen; omega) (by omega) (by simp; omega) ?_; intro v' w2 hown2 hgrow2 _))
        have HB3 : Below W.heap.size W w2 := Below.grown (by (repeat (first | exact Below.refl _ _ | refine Below.setCell ?_ (by first | omega | (simp; omega) | (simp; done)) _ | refine Below.alloc ?_ (by first | omega | (simp; omega) | (simp; done)) _ | refine Below.drew ?_ | refine below_drewN ?_ _ | refine Below.trans ?_ (Below.mono (by assumption) (by first | omega | (simp; omega) | (simp; done)))))) hgrow2 (by simp; omega) (fun j e => (hown.lt j e).1)
        refine ⟨⟨k + 1, by omega, by go_num, HB3, ?_⟩, by simp [intOf]; omega⟩
        rw [G.out, E.out, hq]
        simpa using hown2
    · obtain rfl : k = l.length := by omega
      rw [List.take_length] at hown
      have hn := sizesV_le p l l.length
      rw [List.take_length] at hn
      rcases hown.2 with ⟨rfl, h0⟩ | ⟨g, c, cur, rfl, hg, hh, hnc, hcm, _⟩
      · have h00 : sizesV p l = [] := List.eq_nil_of_length_eq_zero h0
        go_wp2
        go_ret
        refine ⟨_, rfl, ⟨none, 0, by rw [h00]; rfl, by rw [h00]; exact ⟨Nat.le_refl _, by omega, fun hl => absurd hl (by simp)⟩⟩, ?_⟩
        (repeat (first | exact Below.refl _ _ | refine Below.setCell ?_ (by first | omega | (simp; omega) | (simp; done)) _ | refine Below.alloc ?_ (by first | omega | (simp; omega) | (simp; done)) _ | refine Below.drew ?_ | refine below_drewN ?_ _ | refine Below.trans ?_ (Below.mono (by assumption) (by first | omega | (simp; omega) | (simp; done)))))
      · have hcm' : ((sizesV p l).length : Int) ≤ c := by omega
        go_wp2
        go_ret
        refine ⟨_, rfl, ⟨some ⟨g, 0, none⟩, (sizesV p l).length, ?_, ints_of_own hown _ (Nat.le_refl _) (by omega)⟩, ?_⟩
        · rfl
        (repeat (first | exact Below.refl _ _ | refine Below.setCell ?_ (by first | omega | (simp; omega) | (simp; done)) _ | refine Below.alloc ?_ (by first | omega | (simp; omega) | (simp; done)) _ | refine Below.drew ?_ | refine below_drewN ?_ _ | refine Below.trans ?_ (Below.mono (by assumption) (by first | omega | (simp; omega) | (simp; done)))))
theorem sizes_covers (a b : Int) (A : Option Addr) (cap : Nat) (l : List Fit) (p : Fit → Bool) (hp : ∀ f, p f = coverB f.lo f.hi a b) (w : World) (h : FitsAt w w.heap.size A cap l) :
    Calls Tryz.prog 97 #[.agg #[vi a, vi b, .func (.func 80) #[] #[]], .slice A l.length cap] w fun e w' => ∃ v, e = .returned v ∧ IntsOut (sizesV p l) w v w' := by
  have hcap := h.cap
  have hlen := h.len
  have Hp := Lib.hid hp
  clear hp
  obtain ⟨i0, hi, hz0, hz1, hz2⟩ := info_parts info_int
  go_enter Tryz.func97, Tryz.ntmps97
  go_wp2
  have HB0 : Below w.heap.size w (w.alloc (.cells #[vi a, vi b, .func (.func 80) #[] #[]] 130)) := by (repeat (first | exact Below.refl _ _ | refine Below.setCell ?_ (by first | omega | (simp; omega) | (simp; done)) _ | refine Below.alloc ?_ (by first | omega | (simp; omega) | (simp; done)) _ | refine Below.drew ?_ | refine below_drewN ?_ _ | refine Below.trans ?_ (Below.mono (by assumption) (by first | omega | (simp; omega) | (simp; done)))))
  have e0 : (w.alloc (.cells #[vi a, vi b, .func (.func 80) #[] #[]] 130)).cell? ⟨w.heap.size, 0, none⟩ = some (vi a) := by simp [go_sem]
  have e1 : (w.alloc (.cells #[vi a, vi b, .func (.func 80) #[] #[]] 130)).cell? ⟨w.heap.size, 1, none⟩ = some (vi b) := by simp [go_sem]
  have e2 : (w.alloc (.cells #[vi a, vi b, .func (.func 80) #[] #[]] 130)).cell? ⟨w.heap.size, 2, none⟩ = some (.func (.func 80) #[] #[]) := by simp [go_sem]
  have z0 : w.heap.size < (w.alloc (.cells #[vi a, vi b, .func (.func 80) #[] #[]] 130)).heap.size := by simp
  have h' := FitsAt.to h HB0
  generalize (w.alloc (.cells #[vi a, vi b, .func (.func 80) #[] #[]] 130)) = W at *
  go_loopw [5, 10] (fun v i wr => ∃ k : Nat, k ≤ l.length ∧ i = .int .i64 k ∧ Below W.heap.size W wr ∧ wr.ownsRow W.heap.size 3 1 v (sizesV p (l.take k)).length ((sizesV p (l.take k)).map vi)) (fun _ i _ => l.length - (intOf i).toNat)
  case atStart => exact ⟨0, Nat.zero_le _, rfl, Below.refl _ _, by simpa [sizesV] using World.ownsRow_nil _ _ _ _⟩
  case round =>
    obtain ⟨k, hk, rfl, hB, hown⟩ := hrel
    have hbs := hB.size
    by_cases hlt : k < l.length
    · obtain ⟨x, hx⟩ : ∃ x, l[k]? = some x := ⟨_, List.getElem?_eq_getElem hlt⟩
      obtain ⟨bb, off, rfl, hb, c0, c1, c2, c3⟩ := row4 (FitsAt.to h' hB).row hx rfl
      have d0 := (hB.cell (p := ⟨w.heap.size, 0, none⟩) z0).trans e0
      have d1 := (hB.cell (p := ⟨w.heap.size, 1, none⟩) z0).trans e1
      have d2 := (hB.cell (p := ⟨w.heap.size, 2, none⟩) z0).trans e2
      have z1 : w.heap.size < wr.heap.size := by omega
      have G := Lib.hid (sizesV_succ (p := p) hx)
      have hn := sizesV_le p l k
      clear hx
      have E : Hid (p x = coverB x.lo x.hi a b) := Hp.out x
      rcases hq : coverB x.lo x.hi a b with _ | _
      · go_wp2_with (go_at_call 80; refine (covers_any _ _ _ _ _).mono ?_; rintro e w1 ⟨rfl, hb1⟩; obtain ⟨⟨hc1, hf1, hs1⟩, hz1⟩ := after hb1; (try simp only [World.size_alloc, World.size_setCell, World.size_drew] at hz1))
        go_roundw
        case rel => exact ⟨k + 1, by omega, by go_num, (by (repeat (first | exact Below.refl _ _ | refine Below.setCell ?_ (by first | omega | (simp; omega) | (simp; done)) _ | refine Below.alloc ?_ (by first | omega | (simp; omega) | (simp; done)) _ | refine Below.drew ?_ | refine below_drewN ?_ _ | refine Below.trans ?_ (Below.mono (by assumption) (by first | omega | (simp; omega) | (simp; done)))))), by rw [G.out, E.out, hq]; simpa using own_keep (hown.alloc _) hb1⟩
        case measure => simp [intOf]; omega
      · go_wp2_with (first | (go_at_call 80; refine (covers_any _ _ _ _ _).mono ?_; rintro e w1 ⟨rfl, hb1⟩; have hown1 := own_keep (hown.alloc _) hb1; obtain ⟨⟨hc1, hf1, hs1⟩, hz3⟩ := after hb1; simp only [World.size_alloc] at hz3) | (at_builtin; refine wpList_append_own _ rfl _ _ 36 rfl W.heap.size 3 i0 (.int .i64 0) 1 8 Tryz.underlying36 hi hz0 hz1 hz2 rfl (by decide) _ _ _ rfl (hown1.alloc _) ⟨w1.heap.size, 0, none⟩ 1 1 [vi x.size] rfl rfl (cell_one_new _ _ _) (by simp [Value.oneCell']) (by unfold maxLen; omega) (by omega) (by simp; omega) ?_; intro v' w2 hown2 hgrow2 _))
        have HB3 : Below W.heap.size W w2 := Below.grown (by (repeat (first | exact Below.refl _ _ | refine Below.setCell ?_ (by first | omega | (simp; omega) | (simp; done)) _ | refine Below.alloc ?_ (by first | omega | (simp; omega) | (simp; done)) _ | refine Below.drew ?_ | refine below_drewN ?_ _ | refine Below.trans ?_ (Below.mono (by assumption) (by first | omega | (simp; omega) | (simp; done)))))) hgrow2 (by simp; omega) (fun j e => (hown.lt j e).1)
        refine ⟨⟨k + 1, by omega, by go_num, HB3, ?_⟩, by simp [intOf]; omega⟩
        rw [G.out, E.out, hq]
        simpa using hown2
    · obtain rfl : k = l.length := by omega
      rw [List.take_length] at hown
      have hn := sizesV_le p l l.length
      rw [List.take_length] at hn
      rcases hown.2 with ⟨rfl, h0⟩ | ⟨g, c, cur, rfl, hg, hh, hnc, hcm, _⟩
      · have h00 : sizesV p l = [] := List.eq_nil_of_length_eq_zero h0
        go_wp2
        go_ret
        refine ⟨_, rfl, ⟨none, 0, by rw [h00]; rfl, by rw [h00]; exact ⟨Nat.le_refl _, by omega, fun hl => absurd hl (by simp)⟩⟩, ?_⟩
        (repeat (first | exact Below.refl _ _ | refine Below.setCell ?_ (by first | omega | (simp; omega) | (simp; done)) _ | refine Below.alloc ?_ (by first | omega | (simp; omega) | (simp; done)) _ | refine Below.drew ?_ | refine below_drewN ?_ _ | refine Below.trans ?_ (Below.mono (by assumption) (by first | omega | (simp; omega) | (simp; done)))))
      · have hcm' : ((sizesV p l).length : Int) ≤ c := by omega
        go_wp2
        go_ret
        refine ⟨_, rfl, ⟨some ⟨g, 0, none⟩, (sizesV p l).length, ?_, ints_of_own hown _ (Nat.le_refl _) (by omega)⟩, ?_⟩
        · rfl
        (repeat (first | exact Below.refl _ _ | refine Below.setCell ?_ (by first | omega | (simp; omega) | (simp; done)) _ | refine Below.alloc ?_ (by first | omega | (simp; omega) | (simp; done)) _ | refine Below.drew ?_ | refine below_drewN ?_ _ | refine Below.trans ?_ (Below.mono (by assumption) (by first | omega | (simp; omega) | (simp; done)))))
end Go.Proofs.YtpcajmkmmkmekaaGreatDoor

/- Contracts of look, Fits and Sure. -/
namespace Go.Proofs.YtpcajmkmmkmekaaGreatDoor
open Go Go.RowKit
set_option maxHeartbeats 1000000
theorem look_meet (r : Rack) (issue number a b : Int) (p : Fit → Bool) (hp : ∀ f, p f = meetB f.lo f.hi a b) (w : World) (hl : Lim w) (hr : RackAt w w.heap.size r) :
    Calls Tryz.prog 78 #[r.val, vi issue, vi number, .agg #[vi a, vi b, .func (.func 79) #[] #[]]] w fun e w' => ∃ v, e = .returned (.tuple #[v, vi (lookErr r issue number a b)]) ∧ IntsOut (lookL p r issue number a b) w v w' := by
  have Hp := Lib.hid hp
  clear hp
  rcases hv : validB r with _ | _
  · have E : Hid (lookErr r issue number a b = 10 ∧ lookL p r issue number a b = []) := by simp [lookErr, lookL, hv, Hid]
    go_enter Tryz.func78, Tryz.ntmps78
    go_wp2_with (go_at_call 35; refine (isValid_any r _ (by repeat (first | assumption | refine Lim.alloc ?_ _ | refine Lim.setCell ?_ (by first | (simp; done) | (simp; omega) | omega) _ | refine Lim.drew ?_)) (hr.to (by (repeat (first | exact Below.refl _ _ | refine Below.setCell ?_ (by first | omega | (simp; omega) | (simp; done)) _ | refine Below.alloc ?_ (by first | omega | (simp; omega) | (simp; done)) _ | refine Below.drew ?_ | refine below_drewN ?_ _ | refine Below.trans ?_ (Below.mono (by assumption) (by first | omega | (simp; omega) | (simp; done)))))))).mono ?_; rintro e w1 ⟨rfl, hb1⟩; obtain ⟨⟨hc1, hf1, hs1⟩, hz1⟩ := after hb1; (try simp only [World.size_alloc, World.size_setCell, World.size_drew] at hz1))
    go_ret2
    refine ⟨_, by rw [E.out.1]; rfl, ?_⟩
    rw [E.out.2]
    refine IntsOut.nil ?_
    (repeat (first | exact Below.refl _ _ | refine Below.setCell ?_ (by first | omega | (simp; omega) | (simp; done)) _ | refine Below.alloc ?_ (by first | omega | (simp; omega) | (simp; done)) _ | refine Below.drew ?_ | refine below_drewN ?_ _ | refine Below.trans ?_ (Below.mono (by assumption) (by first | omega | (simp; omega) | (simp; done)))))
  rcases h1 : issueB r issue with _ | _
  · have E : Hid (lookErr r issue number a b = 11 ∧ lookL p r issue number a b = []) := by simp [lookErr, lookL, askB, hv, h1, Hid]
    go_enter Tryz.func78, Tryz.ntmps78
    go_wp2_with (first | (go_at_call 35; refine (isValid_any r _ (by repeat (first | assumption | refine Lim.alloc ?_ _ | refine Lim.setCell ?_ (by first | (simp; done) | (simp; omega) | omega) _ | refine Lim.drew ?_)) (hr.to (by (repeat (first | exact Below.refl _ _ | refine Below.setCell ?_ (by first | omega | (simp; omega) | (simp; done)) _ | refine Below.alloc ?_ (by first | omega | (simp; omega) | (simp; done)) _ | refine Below.drew ?_ | refine below_drewN ?_ _ | refine Below.trans ?_ (Below.mono (by assumption) (by first | omega | (simp; omega) | (simp; done)))))))).mono ?_; rintro e w1 ⟨rfl, hb1⟩; obtain ⟨⟨hc1, hf1, hs1⟩, hz1⟩ := after hb1; (try simp only [World.size_alloc, World.size_setCell, World.size_drew] at hz1); have hl1 : Lim w1 := Lim.next (by repeat (first | assumption | refine Lim.alloc ?_ _ | refine Lim.setCell ?_ (by first | (simp; done) | (simp; omega) | omega) _ | refine Lim.drew ?_)) hb1; have hq1 : w.heap.size < w1.heap.size := (by omega); have hq2 : w.heap.size + 1 < w1.heap.size := (by omega)) | (go_at_call 40; refine (hasIssue_any r _ _).mono ?_; rintro e w1 ⟨rfl, hb1⟩; obtain ⟨⟨hc1, hf1, hs1⟩, hz1⟩ := after hb1; (try simp only [World.size_alloc, World.size_setCell, World.size_drew] at hz1); have hl1 : Lim w1 := Lim.next (by repeat (first | assumption | refine Lim.alloc ?_ _ | refine Lim.setCell ?_ (by first | (simp; done) | (simp; omega) | omega) _ | refine Lim.drew ?_)) hb1; have hq1 : w.heap.size < w1.heap.size := (by omega); have hq2 : w.heap.size + 1 < w1.heap.size := (by omega)) | (go_at_call 28; refine (within_any _ _ _ (by omega) (by omega) (by repeat (first | assumption | refine Lim.alloc ?_ _ | refine Lim.setCell ?_ (by first | (simp; done) | (simp; omega) | omega) _ | refine Lim.drew ?_))).mono ?_; rintro e w1 ⟨rfl, hb1⟩; obtain ⟨⟨hc1, hf1, hs1⟩, hz1⟩ := after hb1; (try simp only [World.size_alloc, World.size_setCell, World.size_drew] at hz1); have hl1 : Lim w1 := Lim.next (by repeat (first | assumption | refine Lim.alloc ?_ _ | refine Lim.setCell ?_ (by first | (simp; done) | (simp; omega) | omega) _ | refine Lim.drew ?_)) hb1; have hq1 : w.heap.size < w1.heap.size := (by omega); have hq2 : w.heap.size + 1 < w1.heap.size := (by omega)) | (go_at_call 27; refine (spanWithin_any _ _ _ _ (by omega) (by omega) (by repeat (first | assumption | refine Lim.alloc ?_ _ | refine Lim.setCell ?_ (by first | (simp; done) | (simp; omega) | omega) _ | refine Lim.drew ?_))).mono ?_; rintro e w1 ⟨rfl, hb1⟩; obtain ⟨⟨hc1, hf1, hs1⟩, hz1⟩ := after hb1; (try simp only [World.size_alloc, World.size_setCell, World.size_drew] at hz1); have hl1 : Lim w1 := Lim.next (by repeat (first | assumption | refine Lim.alloc ?_ _ | refine Lim.setCell ?_ (by first | (simp; done) | (simp; omega) | omega) _ | refine Lim.drew ?_)) hb1; have hq1 : w.heap.size < w1.heap.size := (by omega); have hq2 : w.heap.size + 1 < w1.heap.size := (by omega)))
    go_ret2
    refine ⟨_, by rw [E.out.1]; rfl, ?_⟩
    rw [E.out.2]
    refine IntsOut.nil ?_
    (repeat (first | exact Below.refl _ _ | refine Below.setCell ?_ (by first | omega | (simp; omega) | (simp; done)) _ | refine Below.alloc ?_ (by first | omega | (simp; omega) | (simp; done)) _ | refine Below.drew ?_ | refine below_drewN ?_ _ | refine Below.trans ?_ (Below.mono (by assumption) (by first | omega | (simp; omega) | (simp; done)))))
  rcases h2 : limB 4 number with _ | _
  · have E : Hid (lookErr r issue number a b = 11 ∧ lookL p r issue number a b = []) := by simp [lookErr, lookL, askB, hv, h1, h2, Hid]
    go_enter Tryz.func78, Tryz.ntmps78
    go_wp2_with (first | (go_at_call 35; refine (isValid_any r _ (by repeat (first | assumption | refine Lim.alloc ?_ _ | refine Lim.setCell ?_ (by first | (simp; done) | (simp; omega) | omega) _ | refine Lim.drew ?_)) (hr.to (by (repeat (first | exact Below.refl _ _ | refine Below.setCell ?_ (by first | omega | (simp; omega) | (simp; done)) _ | refine Below.alloc ?_ (by first | omega | (simp; omega) | (simp; done)) _ | refine Below.drew ?_ | refine below_drewN ?_ _ | refine Below.trans ?_ (Below.mono (by assumption) (by first | omega | (simp; omega) | (simp; done)))))))).mono ?_; rintro e w1 ⟨rfl, hb1⟩; obtain ⟨⟨hc1, hf1, hs1⟩, hz1⟩ := after hb1; (try simp only [World.size_alloc, World.size_setCell, World.size_drew] at hz1); have hl1 : Lim w1 := Lim.next (by repeat (first | assumption | refine Lim.alloc ?_ _ | refine Lim.setCell ?_ (by first | (simp; done) | (simp; omega) | omega) _ | refine Lim.drew ?_)) hb1; have hq1 : w.heap.size < w1.heap.size := (by omega); have hq2 : w.heap.size + 1 < w1.heap.size := (by omega)) | (go_at_call 40; refine (hasIssue_any r _ _).mono ?_; rintro e w1 ⟨rfl, hb1⟩; obtain ⟨⟨hc1, hf1, hs1⟩, hz1⟩ := after hb1; (try simp only [World.size_alloc, World.size_setCell, World.size_drew] at hz1); have hl1 : Lim w1 := Lim.next (by repeat (first | assumption | refine Lim.alloc ?_ _ | refine Lim.setCell ?_ (by first | (simp; done) | (simp; omega) | omega) _ | refine Lim.drew ?_)) hb1; have hq1 : w.heap.size < w1.heap.size := (by omega); have hq2 : w.heap.size + 1 < w1.heap.size := (by omega)) | (go_at_call 28; refine (within_any _ _ _ (by omega) (by omega) (by repeat (first | assumption | refine Lim.alloc ?_ _ | refine Lim.setCell ?_ (by first | (simp; done) | (simp; omega) | omega) _ | refine Lim.drew ?_))).mono ?_; rintro e w1 ⟨rfl, hb1⟩; obtain ⟨⟨hc1, hf1, hs1⟩, hz1⟩ := after hb1; (try simp only [World.size_alloc, World.size_setCell, World.size_drew] at hz1); have hl1 : Lim w1 := Lim.next (by repeat (first | assumption | refine Lim.alloc ?_ _ | refine Lim.setCell ?_ (by first | (simp; done) | (simp; omega) | omega) _ | refine Lim.drew ?_)) hb1; have hq1 : w.heap.size < w1.heap.size := (by omega); have hq2 : w.heap.size + 1 < w1.heap.size := (by omega)) | (go_at_call 27; refine (spanWithin_any _ _ _ _ (by omega) (by omega) (by repeat (first | assumption | refine Lim.alloc ?_ _ | refine Lim.setCell ?_ (by first | (simp; done) | (simp; omega) | omega) _ | refine Lim.drew ?_))).mono ?_; rintro e w1 ⟨rfl, hb1⟩; obtain ⟨⟨hc1, hf1, hs1⟩, hz1⟩ := after hb1; (try simp only [World.size_alloc, World.size_setCell, World.size_drew] at hz1); have hl1 : Lim w1 := Lim.next (by repeat (first | assumption | refine Lim.alloc ?_ _ | refine Lim.setCell ?_ (by first | (simp; done) | (simp; omega) | omega) _ | refine Lim.drew ?_)) hb1; have hq1 : w.heap.size < w1.heap.size := (by omega); have hq2 : w.heap.size + 1 < w1.heap.size := (by omega)))
    go_ret2
    refine ⟨_, by rw [E.out.1]; rfl, ?_⟩
    rw [E.out.2]
    refine IntsOut.nil ?_
    (repeat (first | exact Below.refl _ _ | refine Below.setCell ?_ (by first | omega | (simp; omega) | (simp; done)) _ | refine Below.alloc ?_ (by first | omega | (simp; omega) | (simp; done)) _ | refine Below.drew ?_ | refine below_drewN ?_ _ | refine Below.trans ?_ (Below.mono (by assumption) (by first | omega | (simp; omega) | (simp; done)))))
  rcases h3 : limS 7 a b with _ | _
  · have E : Hid (lookErr r issue number a b = 11 ∧ lookL p r issue number a b = []) := by simp [lookErr, lookL, askB, hv, h1, h2, h3, Hid]
    go_enter Tryz.func78, Tryz.ntmps78
    go_wp2_with (first | (go_at_call 35; refine (isValid_any r _ (by repeat (first | assumption | refine Lim.alloc ?_ _ | refine Lim.setCell ?_ (by first | (simp; done) | (simp; omega) | omega) _ | refine Lim.drew ?_)) (hr.to (by (repeat (first | exact Below.refl _ _ | refine Below.setCell ?_ (by first | omega | (simp; omega) | (simp; done)) _ | refine Below.alloc ?_ (by first | omega | (simp; omega) | (simp; done)) _ | refine Below.drew ?_ | refine below_drewN ?_ _ | refine Below.trans ?_ (Below.mono (by assumption) (by first | omega | (simp; omega) | (simp; done)))))))).mono ?_; rintro e w1 ⟨rfl, hb1⟩; obtain ⟨⟨hc1, hf1, hs1⟩, hz1⟩ := after hb1; (try simp only [World.size_alloc, World.size_setCell, World.size_drew] at hz1); have hl1 : Lim w1 := Lim.next (by repeat (first | assumption | refine Lim.alloc ?_ _ | refine Lim.setCell ?_ (by first | (simp; done) | (simp; omega) | omega) _ | refine Lim.drew ?_)) hb1; have hq1 : w.heap.size < w1.heap.size := (by omega); have hq2 : w.heap.size + 1 < w1.heap.size := (by omega)) | (go_at_call 40; refine (hasIssue_any r _ _).mono ?_; rintro e w1 ⟨rfl, hb1⟩; obtain ⟨⟨hc1, hf1, hs1⟩, hz1⟩ := after hb1; (try simp only [World.size_alloc, World.size_setCell, World.size_drew] at hz1); have hl1 : Lim w1 := Lim.next (by repeat (first | assumption | refine Lim.alloc ?_ _ | refine Lim.setCell ?_ (by first | (simp; done) | (simp; omega) | omega) _ | refine Lim.drew ?_)) hb1; have hq1 : w.heap.size < w1.heap.size := (by omega); have hq2 : w.heap.size + 1 < w1.heap.size := (by omega)) | (go_at_call 28; refine (within_any _ _ _ (by omega) (by omega) (by repeat (first | assumption | refine Lim.alloc ?_ _ | refine Lim.setCell ?_ (by first | (simp; done) | (simp; omega) | omega) _ | refine Lim.drew ?_))).mono ?_; rintro e w1 ⟨rfl, hb1⟩; obtain ⟨⟨hc1, hf1, hs1⟩, hz1⟩ := after hb1; (try simp only [World.size_alloc, World.size_setCell, World.size_drew] at hz1); have hl1 : Lim w1 := Lim.next (by repeat (first | assumption | refine Lim.alloc ?_ _ | refine Lim.setCell ?_ (by first | (simp; done) | (simp; omega) | omega) _ | refine Lim.drew ?_)) hb1; have hq1 : w.heap.size < w1.heap.size := (by omega); have hq2 : w.heap.size + 1 < w1.heap.size := (by omega)) | (go_at_call 27; refine (spanWithin_any _ _ _ _ (by omega) (by omega) (by repeat (first | assumption | refine Lim.alloc ?_ _ | refine Lim.setCell ?_ (by first | (simp; done) | (simp; omega) | omega) _ | refine Lim.drew ?_))).mono ?_; rintro e w1 ⟨rfl, hb1⟩; obtain ⟨⟨hc1, hf1, hs1⟩, hz1⟩ := after hb1; (try simp only [World.size_alloc, World.size_setCell, World.size_drew] at hz1); have hl1 : Lim w1 := Lim.next (by repeat (first | assumption | refine Lim.alloc ?_ _ | refine Lim.setCell ?_ (by first | (simp; done) | (simp; omega) | omega) _ | refine Lim.drew ?_)) hb1; have hq1 : w.heap.size < w1.heap.size := (by omega); have hq2 : w.heap.size + 1 < w1.heap.size := (by omega)))
    go_ret2
    refine ⟨_, by rw [E.out.1]; rfl, ?_⟩
    rw [E.out.2]
    refine IntsOut.nil ?_
    (repeat (first | exact Below.refl _ _ | refine Below.setCell ?_ (by first | omega | (simp; omega) | (simp; done)) _ | refine Below.alloc ?_ (by first | omega | (simp; omega) | (simp; done)) _ | refine Below.drew ?_ | refine below_drewN ?_ _ | refine Below.trans ?_ (Below.mono (by assumption) (by first | omega | (simp; omega) | (simp; done)))))
  obtain ⟨hi0, hi1⟩ : 0 ≤ issue ∧ issue < r.issues.length := by simpa [issueB] using h1
  obtain ⟨n, rfl⟩ := Int.eq_ofNat_of_zero_le hi0
  have hn : n < r.issues.length := by omega
  obtain ⟨x, hx⟩ : ∃ x, r.issues[n]? = some x := ⟨_, List.getElem?_eq_getElem hn⟩
  have hA : askB r n number a b = true := by simp [askB, h1, h2, h3]
  have hF : lookF r n number = x.entries.find? fun e => e.number == number := by simp [lookF, hx]
  have EE : Hid (lookErr r n number a b = (if (x.entries.find? fun e => e.number == number).isSome then 0 else 4) ∧ lookL p r n number a b = sizesO p (x.entries.find? fun e => e.number == number)) := by simp [lookErr, lookL, hv, hA, hF, Hid]
  have hxe := IssuesAt.at_ hr hx
  have hcap := IssuesAt.cap hr
  have hfew := IssuesAt.few hr
  have hlen := IssuesAt.len hr
  obtain ⟨g, A, cap, l⟩ := r
  obtain ⟨bb, off, hAd, hb, c0, c1, c2, c3⟩ := row4 (IssuesAt.row hr) hx rfl
  obtain rfl : A = some ⟨bb, off, none⟩ := hAd
  have hi2 : (n : Int) < l.length := hi1
  have hi3 : n < l.length := hn
  have HR : Hid (RackAt w w.heap.size ⟨g, some ⟨bb, off, none⟩, cap, l⟩) := hr
  clear hx hA hF hi1 hn hr
  show Calls Tryz.prog 78 #[.agg #[vi g, .slice (some ⟨bb, off, none⟩) l.length cap], vi n, vi number, .agg #[vi a, vi b, .func (.func 79) #[] #[]]] w _
  go_enter Tryz.func78, Tryz.ntmps78
  go_wp2_with (first | (go_at_call 35; refine (isValid_any ⟨g, some ⟨bb, off, none⟩, cap, l⟩ _ (by repeat (first | assumption | refine Lim.alloc ?_ _ | refine Lim.setCell ?_ (by first | (simp; done) | (simp; omega) | omega) _ | refine Lim.drew ?_)) (RackAt.to HR.out (by (repeat (first | exact Below.refl _ _ | refine Below.setCell ?_ (by first | omega | (simp; omega) | (simp; done)) _ | refine Below.alloc ?_ (by first | omega | (simp; omega) | (simp; done)) _ | refine Below.drew ?_ | refine below_drewN ?_ _ | refine Below.trans ?_ (Below.mono (by assumption) (by first | omega | (simp; omega) | (simp; done)))))))).mono ?_; rintro e w1 ⟨rfl, hb1⟩; obtain ⟨⟨hc1, hf1, hs1⟩, hz1⟩ := after hb1; (try simp only [World.size_alloc, World.size_setCell, World.size_drew] at hz1); have hl1 : Lim w1 := Lim.next (by repeat (first | assumption | refine Lim.alloc ?_ _ | refine Lim.setCell ?_ (by first | (simp; done) | (simp; omega) | omega) _ | refine Lim.drew ?_)) hb1; have hq1 : w.heap.size < w1.heap.size := (by omega); have hq2 : w.heap.size + 1 < w1.heap.size := (by omega)) | (go_at_call 40; refine (hasIssue_any ⟨g, some ⟨bb, off, none⟩, cap, l⟩ _ _).mono ?_; rintro e w1 ⟨rfl, hb1⟩; obtain ⟨⟨hc1, hf1, hs1⟩, hz1⟩ := after hb1; (try simp only [World.size_alloc, World.size_setCell, World.size_drew] at hz1); have hl1 : Lim w1 := Lim.next (by repeat (first | assumption | refine Lim.alloc ?_ _ | refine Lim.setCell ?_ (by first | (simp; done) | (simp; omega) | omega) _ | refine Lim.drew ?_)) hb1; have hq1 : w.heap.size < w1.heap.size := (by omega); have hq2 : w.heap.size + 1 < w1.heap.size := (by omega)) | (go_at_call 28; refine (within_any _ _ _ (by omega) (by omega) (by repeat (first | assumption | refine Lim.alloc ?_ _ | refine Lim.setCell ?_ (by first | (simp; done) | (simp; omega) | omega) _ | refine Lim.drew ?_))).mono ?_; rintro e w1 ⟨rfl, hb1⟩; obtain ⟨⟨hc1, hf1, hs1⟩, hz1⟩ := after hb1; (try simp only [World.size_alloc, World.size_setCell, World.size_drew] at hz1); have hl1 : Lim w1 := Lim.next (by repeat (first | assumption | refine Lim.alloc ?_ _ | refine Lim.setCell ?_ (by first | (simp; done) | (simp; omega) | omega) _ | refine Lim.drew ?_)) hb1; have hq1 : w.heap.size < w1.heap.size := (by omega); have hq2 : w.heap.size + 1 < w1.heap.size := (by omega)) | (go_at_call 27; refine (spanWithin_any _ _ _ _ (by omega) (by omega) (by repeat (first | assumption | refine Lim.alloc ?_ _ | refine Lim.setCell ?_ (by first | (simp; done) | (simp; omega) | omega) _ | refine Lim.drew ?_))).mono ?_; rintro e w1 ⟨rfl, hb1⟩; obtain ⟨⟨hc1, hf1, hs1⟩, hz1⟩ := after hb1; (try simp only [World.size_alloc, World.size_setCell, World.size_drew] at hz1); have hl1 : Lim w1 := Lim.next (by repeat (first | assumption | refine Lim.alloc ?_ _ | refine Lim.setCell ?_ (by first | (simp; done) | (simp; omega) | omega) _ | refine Lim.drew ?_)) hb1; have hq1 : w.heap.size < w1.heap.size := (by omega); have hq2 : w.heap.size + 1 < w1.heap.size := (by omega); have HBw : Below w.heap.size w w1 := (by (repeat (first | exact Below.refl _ _ | refine Below.setCell ?_ (by first | omega | (simp; omega) | (simp; done)) _ | refine Below.alloc ?_ (by first | omega | (simp; omega) | (simp; done)) _ | refine Below.drew ?_ | refine below_drewN ?_ _ | refine Below.trans ?_ (Below.mono (by assumption) (by first | omega | (simp; omega) | (simp; done)))))); have C0 := (HBw.cell (p := ⟨bb, off + n * 4, none⟩) hb).trans c0; have C1 := (HBw.cell (p := ⟨bb, off + n * 4 + 1, none⟩) hb).trans c1; have C2 := (HBw.cell (p := ⟨bb, off + n * 4 + 2, none⟩) hb).trans c2; have C3 := (HBw.cell (p := ⟨bb, off + n * 4 + 3, none⟩) hb).trans c3; have HBw := Lib.hid HBw))
  have hxe1 := IssueAt.to hxe HBw.out
  have K := entryOfNumber_any x number w1 hxe1
  have HHB := HBw.out
  rcases ho : (x.entries.find? fun e => e.number == number) with _ | e0
  · rw [ho] at K
    have EO : Hid (lookErr ⟨g, some ⟨bb, off, none⟩, cap, l⟩ n number a b = 4 ∧ lookL p ⟨g, some ⟨bb, off, none⟩, cap, l⟩ n number a b = []) := by have := EE.out; rw [ho] at this; exact this
    refine (show Calls _ _ _ _ (fun e' w' => e' = .returned (.tuple #[.agg #[vi 0, vi 0, vi 0, .slice none 0 0], .bool false]) ∧ Below w1.heap.size w1 w') from K).mono ?_
    clear K
    rintro e w1 ⟨rfl, hb1⟩
    go_wp2
    go_ret2
    refine ⟨_, by rw [EO.out.1]; rfl, ?_⟩
    rw [EO.out.2]
    refine IntsOut.nil ?_
    have HB5 := HHB.trans (hb1.mono HHB.size)
    exact Below.alloc HB5 HB5.size _
  · rw [ho] at K
    have EO : Hid (lookErr ⟨g, some ⟨bb, off, none⟩, cap, l⟩ n number a b = 0 ∧ lookL p ⟨g, some ⟨bb, off, none⟩, cap, l⟩ n number a b = sizesV p e0.sizes) := by have := EE.out; rw [ho] at this; exact this
    have he0 : e0 ∈ x.entries := List.mem_of_find?_eq_some ho
    have hee := EntriesAt.each hxe1 e0 he0
    refine (show Calls _ _ _ _ (fun e' w' => e' = .returned (.tuple #[e0.val, .bool true]) ∧ Below w1.heap.size w1 w') from K).mono ?_
    clear K ho he0
    rintro e w1 ⟨rfl, hb1⟩
    obtain ⟨⟨hc1, hf1, hs1⟩, hz1⟩ := after hb1
    have hq3 : w.heap.size < w1.heap.size := by omega
    have hq4 : w.heap.size + 1 < w1.heap.size := by omega
    have HB4 : Below w.heap.size w w1 := HHB.trans (hb1.mono HHB.size)
    have hee1 : EntryAt w1 w1.heap.size e0 := EntryAt.to hee hb1
    go_wp2_with fail
    refine (sizes_meet a b e0.ad e0.cap e0.sizes p Hp.out _ (FitsAt.to hee1 (by (repeat (first | exact Below.refl _ _ | refine Below.setCell ?_ (by first | omega | (simp; omega) | (simp; done)) _ | refine Below.alloc ?_ (by first | omega | (simp; omega) | (simp; done)) _ | refine Below.drew ?_ | refine below_drewN ?_ _ | refine Below.trans ?_ (Below.mono (by assumption) (by first | omega | (simp; omega) | (simp; done)))))))).mono ?_
    rintro e w2 ⟨v, rfl, hv2⟩
    go_wp2
    go_ret2
    refine ⟨_, by rw [EO.out.1]; rfl, ?_⟩
    rw [EO.out.2]
    refine hv2.from ?_
    (repeat (first | exact Below.refl _ _ | refine Below.setCell ?_ (by first | omega | (simp; omega) | (simp; done)) _ | refine Below.alloc ?_ (by first | omega | (simp; omega) | (simp; done)) _ | refine Below.drew ?_ | refine below_drewN ?_ _ | refine Below.trans ?_ (Below.mono (by assumption) (by first | omega | (simp; omega) | (simp; done)))))
theorem look_covers (r : Rack) (issue number a b : Int) (p : Fit → Bool) (hp : ∀ f, p f = coverB f.lo f.hi a b) (w : World) (hl : Lim w) (hr : RackAt w w.heap.size r) :
    Calls Tryz.prog 78 #[r.val, vi issue, vi number, .agg #[vi a, vi b, .func (.func 80) #[] #[]]] w fun e w' => ∃ v, e = .returned (.tuple #[v, vi (lookErr r issue number a b)]) ∧ IntsOut (lookL p r issue number a b) w v w' := by
  have Hp := Lib.hid hp
  clear hp
  rcases hv : validB r with _ | _
  · have E : Hid (lookErr r issue number a b = 10 ∧ lookL p r issue number a b = []) := by simp [lookErr, lookL, hv, Hid]
    go_enter Tryz.func78, Tryz.ntmps78
    go_wp2_with (go_at_call 35; refine (isValid_any r _ (by repeat (first | assumption | refine Lim.alloc ?_ _ | refine Lim.setCell ?_ (by first | (simp; done) | (simp; omega) | omega) _ | refine Lim.drew ?_)) (hr.to (by (repeat (first | exact Below.refl _ _ | refine Below.setCell ?_ (by first | omega | (simp; omega) | (simp; done)) _ | refine Below.alloc ?_ (by first | omega | (simp; omega) | (simp; done)) _ | refine Below.drew ?_ | refine below_drewN ?_ _ | refine Below.trans ?_ (Below.mono (by assumption) (by first | omega | (simp; omega) | (simp; done)))))))).mono ?_; rintro e w1 ⟨rfl, hb1⟩; obtain ⟨⟨hc1, hf1, hs1⟩, hz1⟩ := after hb1; (try simp only [World.size_alloc, World.size_setCell, World.size_drew] at hz1))
    go_ret2
    refine ⟨_, by rw [E.out.1]; rfl, ?_⟩
    rw [E.out.2]
    refine IntsOut.nil ?_
    (repeat (first | exact Below.refl _ _ | refine Below.setCell ?_ (by first | omega | (simp; omega) | (simp; done)) _ | refine Below.alloc ?_ (by first | omega | (simp; omega) | (simp; done)) _ | refine Below.drew ?_ | refine below_drewN ?_ _ | refine Below.trans ?_ (Below.mono (by assumption) (by first | omega | (simp; omega) | (simp; done)))))
  rcases h1 : issueB r issue with _ | _
  · have E : Hid (lookErr r issue number a b = 11 ∧ lookL p r issue number a b = []) := by simp [lookErr, lookL, askB, hv, h1, Hid]
    go_enter Tryz.func78, Tryz.ntmps78
    go_wp2_with (first | (go_at_call 35; refine (isValid_any r _ (by repeat (first | assumption | refine Lim.alloc ?_ _ | refine Lim.setCell ?_ (by first | (simp; done) | (simp; omega) | omega) _ | refine Lim.drew ?_)) (hr.to (by (repeat (first | exact Below.refl _ _ | refine Below.setCell ?_ (by first | omega | (simp; omega) | (simp; done)) _ | refine Below.alloc ?_ (by first | omega | (simp; omega) | (simp; done)) _ | refine Below.drew ?_ | refine below_drewN ?_ _ | refine Below.trans ?_ (Below.mono (by assumption) (by first | omega | (simp; omega) | (simp; done)))))))).mono ?_; rintro e w1 ⟨rfl, hb1⟩; obtain ⟨⟨hc1, hf1, hs1⟩, hz1⟩ := after hb1; (try simp only [World.size_alloc, World.size_setCell, World.size_drew] at hz1); have hl1 : Lim w1 := Lim.next (by repeat (first | assumption | refine Lim.alloc ?_ _ | refine Lim.setCell ?_ (by first | (simp; done) | (simp; omega) | omega) _ | refine Lim.drew ?_)) hb1; have hq1 : w.heap.size < w1.heap.size := (by omega); have hq2 : w.heap.size + 1 < w1.heap.size := (by omega)) | (go_at_call 40; refine (hasIssue_any r _ _).mono ?_; rintro e w1 ⟨rfl, hb1⟩; obtain ⟨⟨hc1, hf1, hs1⟩, hz1⟩ := after hb1; (try simp only [World.size_alloc, World.size_setCell, World.size_drew] at hz1); have hl1 : Lim w1 := Lim.next (by repeat (first | assumption | refine Lim.alloc ?_ _ | refine Lim.setCell ?_ (by first | (simp; done) | (simp; omega) | omega) _ | refine Lim.drew ?_)) hb1; have hq1 : w.heap.size < w1.heap.size := (by omega); have hq2 : w.heap.size + 1 < w1.heap.size := (by omega)) | (go_at_call 28; refine (within_any _ _ _ (by omega) (by omega) (by repeat (first | assumption | refine Lim.alloc ?_ _ | refine Lim.setCell ?_ (by first | (simp; done) | (simp; omega) | omega) _ | refine Lim.drew ?_))).mono ?_; rintro e w1 ⟨rfl, hb1⟩; obtain ⟨⟨hc1, hf1, hs1⟩, hz1⟩ := after hb1; (try simp only [World.size_alloc, World.size_setCell, World.size_drew] at hz1); have hl1 : Lim w1 := Lim.next (by repeat (first | assumption | refine Lim.alloc ?_ _ | refine Lim.setCell ?_ (by first | (simp; done) | (simp; omega) | omega) _ | refine Lim.drew ?_)) hb1; have hq1 : w.heap.size < w1.heap.size := (by omega); have hq2 : w.heap.size + 1 < w1.heap.size := (by omega)) | (go_at_call 27; refine (spanWithin_any _ _ _ _ (by omega) (by omega) (by repeat (first | assumption | refine Lim.alloc ?_ _ | refine Lim.setCell ?_ (by first | (simp; done) | (simp; omega) | omega) _ | refine Lim.drew ?_))).mono ?_; rintro e w1 ⟨rfl, hb1⟩; obtain ⟨⟨hc1, hf1, hs1⟩, hz1⟩ := after hb1; (try simp only [World.size_alloc, World.size_setCell, World.size_drew] at hz1); have hl1 : Lim w1 := Lim.next (by repeat (first | assumption | refine Lim.alloc ?_ _ | refine Lim.setCell ?_ (by first | (simp; done) | (simp; omega) | omega) _ | refine Lim.drew ?_)) hb1; have hq1 : w.heap.size < w1.heap.size := (by omega); have hq2 : w.heap.size + 1 < w1.heap.size := (by omega)))
    go_ret2
    refine ⟨_, by rw [E.out.1]; rfl, ?_⟩
    rw [E.out.2]
    refine IntsOut.nil ?_
    (repeat (first | exact Below.refl _ _ | refine Below.setCell ?_ (by first | omega | (simp; omega) | (simp; done)) _ | refine Below.alloc ?_ (by first | omega | (simp; omega) | (simp; done)) _ | refine Below.drew ?_ | refine below_drewN ?_ _ | refine Below.trans ?_ (Below.mono (by assumption) (by first | omega | (simp; omega) | (simp; done)))))
  rcases h2 : limB 4 number with _ | _
  · have E : Hid (lookErr r issue number a b = 11 ∧ lookL p r issue number a b = []) := by simp [lookErr, lookL, askB, hv, h1, h2, Hid]
    go_enter Tryz.func78, Tryz.ntmps78
    go_wp2_with (first | (go_at_call 35; refine (isValid_any r _ (by repeat (first | assumption | refine Lim.alloc ?_ _ | refine Lim.setCell ?_ (by first | (simp; done) | (simp; omega) | omega) _ | refine Lim.drew ?_)) (hr.to (by (repeat (first | exact Below.refl _ _ | refine Below.setCell ?_ (by first | omega | (simp; omega) | (simp; done)) _ | refine Below.alloc ?_ (by first | omega | (simp; omega) | (simp; done)) _ | refine Below.drew ?_ | refine below_drewN ?_ _ | refine Below.trans ?_ (Below.mono (by assumption) (by first | omega | (simp; omega) | (simp; done)))))))).mono ?_; rintro e w1 ⟨rfl, hb1⟩; obtain ⟨⟨hc1, hf1, hs1⟩, hz1⟩ := after hb1; (try simp only [World.size_alloc, World.size_setCell, World.size_drew] at hz1); have hl1 : Lim w1 := Lim.next (by repeat (first | assumption | refine Lim.alloc ?_ _ | refine Lim.setCell ?_ (by first | (simp; done) | (simp; omega) | omega) _ | refine Lim.drew ?_)) hb1; have hq1 : w.heap.size < w1.heap.size := (by omega); have hq2 : w.heap.size + 1 < w1.heap.size := (by omega)) | (go_at_call 40; refine (hasIssue_any r _ _).mono ?_; rintro e w1 ⟨rfl, hb1⟩; obtain ⟨⟨hc1, hf1, hs1⟩, hz1⟩ := after hb1; (try simp only [World.size_alloc, World.size_setCell, World.size_drew] at hz1); have hl1 : Lim w1 := Lim.next (by repeat (first | assumption | refine Lim.alloc ?_ _ | refine Lim.setCell ?_ (by first | (simp; done) | (simp; omega) | omega) _ | refine Lim.drew ?_)) hb1; have hq1 : w.heap.size < w1.heap.size := (by omega); have hq2 : w.heap.size + 1 < w1.heap.size := (by omega)) | (go_at_call 28; refine (within_any _ _ _ (by omega) (by omega) (by repeat (first | assumption | refine Lim.alloc ?_ _ | refine Lim.setCell ?_ (by first | (simp; done) | (simp; omega) | omega) _ | refine Lim.drew ?_))).mono ?_; rintro e w1 ⟨rfl, hb1⟩; obtain ⟨⟨hc1, hf1, hs1⟩, hz1⟩ := after hb1; (try simp only [World.size_alloc, World.size_setCell, World.size_drew] at hz1); have hl1 : Lim w1 := Lim.next (by repeat (first | assumption | refine Lim.alloc ?_ _ | refine Lim.setCell ?_ (by first | (simp; done) | (simp; omega) | omega) _ | refine Lim.drew ?_)) hb1; have hq1 : w.heap.size < w1.heap.size := (by omega); have hq2 : w.heap.size + 1 < w1.heap.size := (by omega)) | (go_at_call 27; refine (spanWithin_any _ _ _ _ (by omega) (by omega) (by repeat (first | assumption | refine Lim.alloc ?_ _ | refine Lim.setCell ?_ (by first | (simp; done) | (simp; omega) | omega) _ | refine Lim.drew ?_))).mono ?_; rintro e w1 ⟨rfl, hb1⟩; obtain ⟨⟨hc1, hf1, hs1⟩, hz1⟩ := after hb1; (try simp only [World.size_alloc, World.size_setCell, World.size_drew] at hz1); have hl1 : Lim w1 := Lim.next (by repeat (first | assumption | refine Lim.alloc ?_ _ | refine Lim.setCell ?_ (by first | (simp; done) | (simp; omega) | omega) _ | refine Lim.drew ?_)) hb1; have hq1 : w.heap.size < w1.heap.size := (by omega); have hq2 : w.heap.size + 1 < w1.heap.size := (by omega)))
    go_ret2
    refine ⟨_, by rw [E.out.1]; rfl, ?_⟩
    rw [E.out.2]
    refine IntsOut.nil ?_
    (repeat (first | exact Below.refl _ _ | refine Below.setCell ?_ (by first | omega | (simp; omega) | (simp; done)) _ | refine Below.alloc ?_ (by first | omega | (simp; omega) | (simp; done)) _ | refine Below.drew ?_ | refine below_drewN ?_ _ | refine Below.trans ?_ (Below.mono (by assumption) (by first | omega | (simp; omega) | (simp; done)))))
  rcases h3 : limS 7 a b with _ | _
  · have E : Hid (lookErr r issue number a b = 11 ∧ lookL p r issue number a b = []) := by simp [lookErr, lookL, askB, hv, h1, h2, h3, Hid]
    go_enter Tryz.func78, Tryz.ntmps78
    go_wp2_with (first | (go_at_call 35; refine (isValid_any r _ (by repeat (first | assumption | refine Lim.alloc ?_ _ | refine Lim.setCell ?_ (by first | (simp; done) | (simp; omega) | omega) _ | refine Lim.drew ?_)) (hr.to (by (repeat (first | exact Below.refl _ _ | refine Below.setCell ?_ (by first | omega | (simp; omega) | (simp; done)) _ | refine Below.alloc ?_ (by first | omega | (simp; omega) | (simp; done)) _ | refine Below.drew ?_ | refine below_drewN ?_ _ | refine Below.trans ?_ (Below.mono (by assumption) (by first | omega | (simp; omega) | (simp; done)))))))).mono ?_; rintro e w1 ⟨rfl, hb1⟩; obtain ⟨⟨hc1, hf1, hs1⟩, hz1⟩ := after hb1; (try simp only [World.size_alloc, World.size_setCell, World.size_drew] at hz1); have hl1 : Lim w1 := Lim.next (by repeat (first | assumption | refine Lim.alloc ?_ _ | refine Lim.setCell ?_ (by first | (simp; done) | (simp; omega) | omega) _ | refine Lim.drew ?_)) hb1; have hq1 : w.heap.size < w1.heap.size := (by omega); have hq2 : w.heap.size + 1 < w1.heap.size := (by omega)) | (go_at_call 40; refine (hasIssue_any r _ _).mono ?_; rintro e w1 ⟨rfl, hb1⟩; obtain ⟨⟨hc1, hf1, hs1⟩, hz1⟩ := after hb1; (try simp only [World.size_alloc, World.size_setCell, World.size_drew] at hz1); have hl1 : Lim w1 := Lim.next (by repeat (first | assumption | refine Lim.alloc ?_ _ | refine Lim.setCell ?_ (by first | (simp; done) | (simp; omega) | omega) _ | refine Lim.drew ?_)) hb1; have hq1 : w.heap.size < w1.heap.size := (by omega); have hq2 : w.heap.size + 1 < w1.heap.size := (by omega)) | (go_at_call 28; refine (within_any _ _ _ (by omega) (by omega) (by repeat (first | assumption | refine Lim.alloc ?_ _ | refine Lim.setCell ?_ (by first | (simp; done) | (simp; omega) | omega) _ | refine Lim.drew ?_))).mono ?_; rintro e w1 ⟨rfl, hb1⟩; obtain ⟨⟨hc1, hf1, hs1⟩, hz1⟩ := after hb1; (try simp only [World.size_alloc, World.size_setCell, World.size_drew] at hz1); have hl1 : Lim w1 := Lim.next (by repeat (first | assumption | refine Lim.alloc ?_ _ | refine Lim.setCell ?_ (by first | (simp; done) | (simp; omega) | omega) _ | refine Lim.drew ?_)) hb1; have hq1 : w.heap.size < w1.heap.size := (by omega); have hq2 : w.heap.size + 1 < w1.heap.size := (by omega)) | (go_at_call 27; refine (spanWithin_any _ _ _ _ (by omega) (by omega) (by repeat (first | assumption | refine Lim.alloc ?_ _ | refine Lim.setCell ?_ (by first | (simp; done) | (simp; omega) | omega) _ | refine Lim.drew ?_))).mono ?_; rintro e w1 ⟨rfl, hb1⟩; obtain ⟨⟨hc1, hf1, hs1⟩, hz1⟩ := after hb1; (try simp only [World.size_alloc, World.size_setCell, World.size_drew] at hz1); have hl1 : Lim w1 := Lim.next (by repeat (first | assumption | refine Lim.alloc ?_ _ | refine Lim.setCell ?_ (by first | (simp; done) | (simp; omega) | omega) _ | refine Lim.drew ?_)) hb1; have hq1 : w.heap.size < w1.heap.size := (by omega); have hq2 : w.heap.size + 1 < w1.heap.size := (by omega)))
    go_ret2
    refine ⟨_, by rw [E.out.1]; rfl, ?_⟩
    rw [E.out.2]
    refine IntsOut.nil ?_
    (repeat (first | exact Below.refl _ _ | refine Below.setCell ?_ (by first | omega | (simp; omega) | (simp; done)) _ | refine Below.alloc ?_ (by first | omega | (simp; omega) | (simp; done)) _ | refine Below.drew ?_ | refine below_drewN ?_ _ | refine Below.trans ?_ (Below.mono (by assumption) (by first | omega | (simp; omega) | (simp; done)))))
  obtain ⟨hi0, hi1⟩ : 0 ≤ issue ∧ issue < r.issues.length := by simpa [issueB] using h1
  obtain ⟨n, rfl⟩ := Int.eq_ofNat_of_zero_le hi0
  have hn : n < r.issues.length := by omega
  obtain ⟨x, hx⟩ : ∃ x, r.issues[n]? = some x := ⟨_, List.getElem?_eq_getElem hn⟩
  have hA : askB r n number a b = true := by simp [askB, h1, h2, h3]
  have hF : lookF r n number = x.entries.find? fun e => e.number == number := by simp [lookF, hx]
  have EE : Hid (lookErr r n number a b = (if (x.entries.find? fun e => e.number == number).isSome then 0 else 4) ∧ lookL p r n number a b = sizesO p (x.entries.find? fun e => e.number == number)) := by simp [lookErr, lookL, hv, hA, hF, Hid]
  have hxe := IssuesAt.at_ hr hx
  have hcap := IssuesAt.cap hr
  have hfew := IssuesAt.few hr
  have hlen := IssuesAt.len hr
  obtain ⟨g, A, cap, l⟩ := r
  obtain ⟨bb, off, hAd, hb, c0, c1, c2, c3⟩ := row4 (IssuesAt.row hr) hx rfl
  obtain rfl : A = some ⟨bb, off, none⟩ := hAd
  have hi2 : (n : Int) < l.length := hi1
  have hi3 : n < l.length := hn
  have HR : Hid (RackAt w w.heap.size ⟨g, some ⟨bb, off, none⟩, cap, l⟩) := hr
  clear hx hA hF hi1 hn hr
  show Calls Tryz.prog 78 #[.agg #[vi g, .slice (some ⟨bb, off, none⟩) l.length cap], vi n, vi number, .agg #[vi a, vi b, .func (.func 80) #[] #[]]] w _
  go_enter Tryz.func78, Tryz.ntmps78
  go_wp2_with (first | (go_at_call 35; refine (isValid_any ⟨g, some ⟨bb, off, none⟩, cap, l⟩ _ (by repeat (first | assumption | refine Lim.alloc ?_ _ | refine Lim.setCell ?_ (by first | (simp; done) | (simp; omega) | omega) _ | refine Lim.drew ?_)) (RackAt.to HR.out (by (repeat (first | exact Below.refl _ _ | refine Below.setCell ?_ (by first | omega | (simp; omega) | (simp; done)) _ | refine Below.alloc ?_ (by first | omega | (simp; omega) | (simp; done)) _ | refine Below.drew ?_ | refine below_drewN ?_ _ | refine Below.trans ?_ (Below.mono (by assumption) (by first | omega | (simp; omega) | (simp; done)))))))).mono ?_; rintro e w1 ⟨rfl, hb1⟩; obtain ⟨⟨hc1, hf1, hs1⟩, hz1⟩ := after hb1; (try simp only [World.size_alloc, World.size_setCell, World.size_drew] at hz1); have hl1 : Lim w1 := Lim.next (by repeat (first | assumption | refine Lim.alloc ?_ _ | refine Lim.setCell ?_ (by first | (simp; done) | (simp; omega) | omega) _ | refine Lim.drew ?_)) hb1; have hq1 : w.heap.size < w1.heap.size := (by omega); have hq2 : w.heap.size + 1 < w1.heap.size := (by omega)) | (go_at_call 40; refine (hasIssue_any ⟨g, some ⟨bb, off, none⟩, cap, l⟩ _ _).mono ?_; rintro e w1 ⟨rfl, hb1⟩; obtain ⟨⟨hc1, hf1, hs1⟩, hz1⟩ := after hb1; (try simp only [World.size_alloc, World.size_setCell, World.size_drew] at hz1); have hl1 : Lim w1 := Lim.next (by repeat (first | assumption | refine Lim.alloc ?_ _ | refine Lim.setCell ?_ (by first | (simp; done) | (simp; omega) | omega) _ | refine Lim.drew ?_)) hb1; have hq1 : w.heap.size < w1.heap.size := (by omega); have hq2 : w.heap.size + 1 < w1.heap.size := (by omega)) | (go_at_call 28; refine (within_any _ _ _ (by omega) (by omega) (by repeat (first | assumption | refine Lim.alloc ?_ _ | refine Lim.setCell ?_ (by first | (simp; done) | (simp; omega) | omega) _ | refine Lim.drew ?_))).mono ?_; rintro e w1 ⟨rfl, hb1⟩; obtain ⟨⟨hc1, hf1, hs1⟩, hz1⟩ := after hb1; (try simp only [World.size_alloc, World.size_setCell, World.size_drew] at hz1); have hl1 : Lim w1 := Lim.next (by repeat (first | assumption | refine Lim.alloc ?_ _ | refine Lim.setCell ?_ (by first | (simp; done) | (simp; omega) | omega) _ | refine Lim.drew ?_)) hb1; have hq1 : w.heap.size < w1.heap.size := (by omega); have hq2 : w.heap.size + 1 < w1.heap.size := (by omega)) | (go_at_call 27; refine (spanWithin_any _ _ _ _ (by omega) (by omega) (by repeat (first | assumption | refine Lim.alloc ?_ _ | refine Lim.setCell ?_ (by first | (simp; done) | (simp; omega) | omega) _ | refine Lim.drew ?_))).mono ?_; rintro e w1 ⟨rfl, hb1⟩; obtain ⟨⟨hc1, hf1, hs1⟩, hz1⟩ := after hb1; (try simp only [World.size_alloc, World.size_setCell, World.size_drew] at hz1); have hl1 : Lim w1 := Lim.next (by repeat (first | assumption | refine Lim.alloc ?_ _ | refine Lim.setCell ?_ (by first | (simp; done) | (simp; omega) | omega) _ | refine Lim.drew ?_)) hb1; have hq1 : w.heap.size < w1.heap.size := (by omega); have hq2 : w.heap.size + 1 < w1.heap.size := (by omega); have HBw : Below w.heap.size w w1 := (by (repeat (first | exact Below.refl _ _ | refine Below.setCell ?_ (by first | omega | (simp; omega) | (simp; done)) _ | refine Below.alloc ?_ (by first | omega | (simp; omega) | (simp; done)) _ | refine Below.drew ?_ | refine below_drewN ?_ _ | refine Below.trans ?_ (Below.mono (by assumption) (by first | omega | (simp; omega) | (simp; done)))))); have C0 := (HBw.cell (p := ⟨bb, off + n * 4, none⟩) hb).trans c0; have C1 := (HBw.cell (p := ⟨bb, off + n * 4 + 1, none⟩) hb).trans c1; have C2 := (HBw.cell (p := ⟨bb, off + n * 4 + 2, none⟩) hb).trans c2; have C3 := (HBw.cell (p := ⟨bb, off + n * 4 + 3, none⟩) hb).trans c3; have HBw := Lib.hid HBw))
  have hxe1 := IssueAt.to hxe HBw.out
  have K := entryOfNumber_any x number w1 hxe1
  have HHB := HBw.out
  rcases ho : (x.entries.find? fun e => e.number == number) with _ | e0
  · rw [ho] at K
    have EO : Hid (lookErr ⟨g, some ⟨bb, off, none⟩, cap, l⟩ n number a b = 4 ∧ lookL p ⟨g, some ⟨bb, off, none⟩, cap, l⟩ n number a b = []) := by have := EE.out; rw [ho] at this; exact this
    refine (show Calls _ _ _ _ (fun e' w' => e' = .returned (.tuple #[.agg #[vi 0, vi 0, vi 0, .slice none 0 0], .bool false]) ∧ Below w1.heap.size w1 w') from K).mono ?_
    clear K
    rintro e w1 ⟨rfl, hb1⟩
    go_wp2
    go_ret2
    refine ⟨_, by rw [EO.out.1]; rfl, ?_⟩
    rw [EO.out.2]
    refine IntsOut.nil ?_
    have HB5 := HHB.trans (hb1.mono HHB.size)
    exact Below.alloc HB5 HB5.size _
  · rw [ho] at K
    have EO : Hid (lookErr ⟨g, some ⟨bb, off, none⟩, cap, l⟩ n number a b = 0 ∧ lookL p ⟨g, some ⟨bb, off, none⟩, cap, l⟩ n number a b = sizesV p e0.sizes) := by have := EE.out; rw [ho] at this; exact this
    have he0 : e0 ∈ x.entries := List.mem_of_find?_eq_some ho
    have hee := EntriesAt.each hxe1 e0 he0
    refine (show Calls _ _ _ _ (fun e' w' => e' = .returned (.tuple #[e0.val, .bool true]) ∧ Below w1.heap.size w1 w') from K).mono ?_
    clear K ho he0
    rintro e w1 ⟨rfl, hb1⟩
    obtain ⟨⟨hc1, hf1, hs1⟩, hz1⟩ := after hb1
    have hq3 : w.heap.size < w1.heap.size := by omega
    have hq4 : w.heap.size + 1 < w1.heap.size := by omega
    have HB4 : Below w.heap.size w w1 := HHB.trans (hb1.mono HHB.size)
    have hee1 : EntryAt w1 w1.heap.size e0 := EntryAt.to hee hb1
    go_wp2_with fail
    refine (sizes_covers a b e0.ad e0.cap e0.sizes p Hp.out _ (FitsAt.to hee1 (by (repeat (first | exact Below.refl _ _ | refine Below.setCell ?_ (by first | omega | (simp; omega) | (simp; done)) _ | refine Below.alloc ?_ (by first | omega | (simp; omega) | (simp; done)) _ | refine Below.drew ?_ | refine below_drewN ?_ _ | refine Below.trans ?_ (Below.mono (by assumption) (by first | omega | (simp; omega) | (simp; done)))))))).mono ?_
    rintro e w2 ⟨v, rfl, hv2⟩
    go_wp2
    go_ret2
    refine ⟨_, by rw [EO.out.1]; rfl, ?_⟩
    rw [EO.out.2]
    refine hv2.from ?_
    (repeat (first | exact Below.refl _ _ | refine Below.setCell ?_ (by first | omega | (simp; omega) | (simp; done)) _ | refine Below.alloc ?_ (by first | omega | (simp; omega) | (simp; done)) _ | refine Below.drew ?_ | refine below_drewN ?_ _ | refine Below.trans ?_ (Below.mono (by assumption) (by first | omega | (simp; omega) | (simp; done)))))
abbrev fitsP (a b : Int) (f : Fit) : Bool := meetB f.lo f.hi a b
abbrev sureP (a b : Int) (f : Fit) : Bool := coverB f.lo f.hi a b
theorem fits_any (r : Rack) (issue number a b : Int) (w : World) (hl : Lim w) (hr : RackAt w w.heap.size r) :
    Calls Tryz.prog 53 #[r.val, vi issue, vi number, .agg #[vi a, vi b]] w fun e w' => ∃ v, e = .returned (.tuple #[v, vi (lookErr r issue number a b)]) ∧ IntsOut (lookL (fitsP a b) r issue number a b) w v w' := by
  go_enter Tryz.func53, Tryz.ntmps53
  go_wp2_with (go_at_call 78; refine (look_meet r issue number a b (fitsP a b) (fun _ => rfl) _ (by repeat (first | assumption | refine Lim.alloc ?_ _ | refine Lim.setCell ?_ (by first | (simp; done) | (simp; omega) | omega) _ | refine Lim.drew ?_)) (hr.to (by (repeat (first | exact Below.refl _ _ | refine Below.setCell ?_ (by first | omega | (simp; omega) | (simp; done)) _ | refine Below.alloc ?_ (by first | omega | (simp; omega) | (simp; done)) _ | refine Below.drew ?_ | refine below_drewN ?_ _ | refine Below.trans ?_ (Below.mono (by assumption) (by first | omega | (simp; omega) | (simp; done)))))))).mono ?_; rintro e w1 ⟨v, rfl, hv⟩)
  go_ret2
  refine ⟨_, rfl, hv.from ?_⟩
  (repeat (first | exact Below.refl _ _ | refine Below.setCell ?_ (by first | omega | (simp; omega) | (simp; done)) _ | refine Below.alloc ?_ (by first | omega | (simp; omega) | (simp; done)) _ | refine Below.drew ?_ | refine below_drewN ?_ _ | refine Below.trans ?_ (Below.mono (by assumption) (by first | omega | (simp; omega) | (simp; done)))))
def sureErr (r : Rack) (issue number a b : Int) : Int := if lookErr r issue number a b = 0 then if (lookL (sureP a b) r issue number a b).isEmpty then 4 else 0 else lookErr r issue number a b
def sureV (r : Rack) (issue number a b : Int) : Int := if lookErr r issue number a b = 0 then (lookL (sureP a b) r issue number a b).headD 0 else 0
theorem sure_any (r : Rack) (issue number a b : Int) (w : World) (hl : Lim w) (hr : RackAt w w.heap.size r) :
    Calls Tryz.prog 54 #[r.val, vi issue, vi number, .agg #[vi a, vi b]] w fun e w' => e = .returned (.tuple #[vi (sureV r issue number a b), vi (sureErr r issue number a b)]) ∧ Below w.heap.size w w' := by
  rcases he : decide (lookErr r issue number a b = 0) with _ | _
  · have he' : ¬ lookErr r issue number a b = 0 := by simpa using he
    have E : Hid (sureErr r issue number a b = lookErr r issue number a b ∧ sureV r issue number a b = 0) := by simp [sureErr, sureV, he', Hid]
    have he2 : (lookErr r issue number a b == 0) = false := by simpa using he'
    clear he
    go_enter Tryz.func54, Tryz.ntmps54
    go_wp2_with (go_at_call 78; refine (look_covers r issue number a b (sureP a b) (fun _ => rfl) _ (by repeat (first | assumption | refine Lim.alloc ?_ _ | refine Lim.setCell ?_ (by first | (simp; done) | (simp; omega) | omega) _ | refine Lim.drew ?_)) (hr.to (by (repeat (first | exact Below.refl _ _ | refine Below.setCell ?_ (by first | omega | (simp; omega) | (simp; done)) _ | refine Below.alloc ?_ (by first | omega | (simp; omega) | (simp; done)) _ | refine Below.drew ?_ | refine below_drewN ?_ _ | refine Below.trans ?_ (Below.mono (by assumption) (by first | omega | (simp; omega) | (simp; done)))))))).mono ?_; rintro e w1 ⟨v, rfl, hv⟩)
    go_ret2
    refine ⟨by rw [E.out.1, E.out.2]; rfl, ?_⟩
    have hb1 := hv.2
    (repeat (first | exact Below.refl _ _ | refine Below.setCell ?_ (by first | omega | (simp; omega) | (simp; done)) _ | refine Below.alloc ?_ (by first | omega | (simp; omega) | (simp; done)) _ | refine Below.drew ?_ | refine below_drewN ?_ _ | refine Below.trans ?_ (Below.mono (by assumption) (by first | omega | (simp; omega) | (simp; done)))))
  · have he' : lookErr r issue number a b = 0 := by simpa using he
    have K := fun w hl hr => look_covers r issue number a b (sureP a b) (fun _ => rfl) w hl hr
    rw [he'] at K
    rcases hm : lookL (sureP a b) r issue number a b with _ | ⟨m, ms⟩
    · have E : Hid (sureErr r issue number a b = 4 ∧ sureV r issue number a b = 0) := by simp [sureErr, sureV, he', hm, Hid]
      rw [hm] at K
      have HK := Lib.hid K
      clear he hm K he'
      go_enter Tryz.func54, Tryz.ntmps54
      go_wp2_with (go_at_call 78; refine (HK.out _ (by repeat (first | assumption | refine Lim.alloc ?_ _ | refine Lim.setCell ?_ (by first | (simp; done) | (simp; omega) | omega) _ | refine Lim.drew ?_)) (hr.to (by (repeat (first | exact Below.refl _ _ | refine Below.setCell ?_ (by first | omega | (simp; omega) | (simp; done)) _ | refine Below.alloc ?_ (by first | omega | (simp; omega) | (simp; done)) _ | refine Below.drew ?_ | refine below_drewN ?_ _ | refine Below.trans ?_ (Below.mono (by assumption) (by first | omega | (simp; omega) | (simp; done)))))))).mono ?_; rintro e w1 ⟨v, rfl, ⟨A, c, rfl, hA⟩, hb1⟩)
      go_ret2
      refine ⟨by rw [E.out.1, E.out.2]; rfl, ?_⟩
      (repeat (first | exact Below.refl _ _ | refine Below.setCell ?_ (by first | omega | (simp; omega) | (simp; done)) _ | refine Below.alloc ?_ (by first | omega | (simp; omega) | (simp; done)) _ | refine Below.drew ?_ | refine below_drewN ?_ _ | refine Below.trans ?_ (Below.mono (by assumption) (by first | omega | (simp; omega) | (simp; done)))))
    · have E : Hid (sureErr r issue number a b = 0 ∧ sureV r issue number a b = m) := by simp [sureErr, sureV, he', hm, Hid]
      rw [hm] at K
      have HK := Lib.hid K
      have hne : (((m :: ms).length : Int) == 0) = false := by rw [beq_eq_false_iff_ne]; simp; omega
      have hlt0 : (0 : Int) < (ms.length : Int) + 1 := by omega
      have hne' : ((ms.length : Int) + 1 == 0) = false := by rw [beq_eq_false_iff_ne]; omega
      clear he hm K he'
      go_enter Tryz.func54, Tryz.ntmps54
      go_wp2_with (go_at_call 78; refine (HK.out _ (by repeat (first | assumption | refine Lim.alloc ?_ _ | refine Lim.setCell ?_ (by first | (simp; done) | (simp; omega) | omega) _ | refine Lim.drew ?_)) (hr.to (by (repeat (first | exact Below.refl _ _ | refine Below.setCell ?_ (by first | omega | (simp; omega) | (simp; done)) _ | refine Below.alloc ?_ (by first | omega | (simp; omega) | (simp; done)) _ | refine Below.drew ?_ | refine below_drewN ?_ _ | refine Below.trans ?_ (Below.mono (by assumption) (by first | omega | (simp; omega) | (simp; done)))))))).mono ?_; rintro e w1 ⟨v, rfl, ⟨A, c, rfl, hA⟩, hb1⟩; obtain ⟨bb, off, rfl, hbb, hcc⟩ := hA.at_ (k := 0) rfl; simp only [Nat.add_zero] at hcc)
      go_ret2
      refine ⟨by rw [E.out.1, E.out.2]; rfl, ?_⟩
      (repeat (first | exact Below.refl _ _ | refine Below.setCell ?_ (by first | omega | (simp; omega) | (simp; done)) _ | refine Below.alloc ?_ (by first | omega | (simp; omega) | (simp; done)) _ | refine Below.drew ?_ | refine below_drewN ?_ _ | refine Below.trans ?_ (Below.mono (by assumption) (by first | omega | (simp; omega) | (simp; done)))))
end Go.Proofs.YtpcajmkmmkmekaaGreatDoor

