/- Contracts of floor.all and isInTime. -/
import Derived.Test.YtomgnpfpaodpiaaDoorH05
import Derived.Test.YtomgnpfpaodpiaaDoorH01
import Derived.OwnWalk
import Derived.RangeFuncRecord
import Derived.Maps.AppendAt
import Derived.Laws.AppendOwn
import Derived.Deep.AppendLies
set_option linter.unusedVariables false
set_option linter.unusedSimpArgs false
namespace Go.Proofs.YtomgnpfpaodpiaaDoor
open Go Go.RowKit
set_option maxHeartbeats 2000000
theorem all_fact : ∀ n : Fin 10, wrap64 (wrap64 (2 ^ n.val) - 1) = ((2 ^ n.val - 1 : Nat) : Int) := by decide +kernel
theorem all_any (f : Floor) (hs : f.slips.length ≤ 9) (w : World) :
    Calls Tryd.prog 71 #[f.val] w fun e w' => e = .returned (vi (2 ^ f.slips.length - 1 : Nat)) ∧ Below w.heap.size w w' := by
  obtain ⟨fA, fC, ff, slo, shi, pA, pC, fp, fc, sA, sC, fs⟩ := f
  simp only at hs
  show Calls Tryd.prog 71 #[.agg #[.slice fA ff.length fC, vi slo, vi shi, .slice pA fp.length pC, vi fc, .slice sA fs.length sC]] w _
  have h1 : (0 : Int) ≤ fs.length := by omega
  have h2 : (fs.length : Int) ≤ 9 := by omega
  go_enter Tryd.func71, Tryd.ntmps71
  go_wp2_with fail
  go_ret
  refine ⟨retI (all_fact ⟨fs.length, by omega⟩), ?_⟩
  (repeat (first | exact Below.refl _ _ | refine Below.setCell ?_ (by first | omega | (simp; omega) | (simp; done)) _ | refine Below.alloc ?_ (by first | omega | (simp; omega) | (simp; done)) _ | refine Below.drew ?_ | refine below_drewN ?_ _ | refine Below.trans ?_ (Below.mono (by assumption) (by first | omega | (simp; omega) | (simp; done)))))
theorem isInTime_any (f : Floor) (n : Nat) (x : Int) (s : SSlip) (hs : f.slips[n]? = some s) (w : World) (h : FloorAt w w.heap.size f) :
    Calls Tryd.prog 109 #[f.val, vi n, vi x] w fun e w' => e = .returned (.bool (decide (x ≤ s.till))) ∧ Below w.heap.size w w' := by
  have hsl := h.slips.lens
  obtain ⟨bs, os, hsA, hbs, s0, s1⟩ := row2 h.slips.row hs rfl
  have hnl : (n : Int) < f.slips.length := by have := (List.getElem?_eq_some_iff.1 hs).1; omega
  have h0n : (0 : Int) ≤ n := by omega
  have zbs : bs < w.heap.size := cell_lt s0
  clear hs h
  obtain ⟨sa, sc, sl, till⟩ := s
  replace s1 : w.cell? ⟨bs, os + n * 2 + 1, none⟩ = some (vi till) := s1
  obtain ⟨fA, fC, ff, slo, shi, pA, pC, fp, fc, sA, sC, fs⟩ := f
  simp only at hsl hnl hsA
  subst hsA
  show Calls Tryd.prog 109 #[.agg #[.slice fA ff.length fC, vi slo, vi shi, .slice pA fp.length pC, vi fc, .slice (some ⟨bs, os, none⟩) fs.length sC], vi n, vi x] w _
  obtain ⟨ans, hans⟩ : ∃ ans, ans = decide (x ≤ till) := ⟨_, rfl⟩
  go_enter Tryd.func109, Tryd.ntmps109
  go_wp2_with fail
  go_ret
  refine ⟨rfl, ?_⟩
  (repeat (first | exact Below.refl _ _ | refine Below.setCell ?_ (by first | omega | (simp; omega) | (simp; done)) _ | refine Below.alloc ?_ (by first | omega | (simp; omega) | (simp; done)) _ | refine Below.drew ?_ | refine below_drewN ?_ _ | refine Below.trans ?_ (Below.mono (by assumption) (by first | omega | (simp; omega) | (simp; done)))))
end Go.Proofs.YtomgnpfpaodpiaaDoor

/- Contract of setOf. -/
namespace Go.Proofs.YtomgnpfpaodpiaaDoor
open Go Go.RowKit
set_option maxHeartbeats 2000000
def setF (l : List Nat) : Nat := l.foldl (fun m s => m ||| 2 ^ s) 0
theorem setF_snoc (l : List Nat) (s : Nat) : setF (l ++ [s]) = setF l ||| 2 ^ s := by simp [setF]
theorem setF_lt : ∀ (l : List Nat), (∀ s ∈ l, s < 9) → setF l < 512 := by
  have key : ∀ (l : List Nat) (m : Nat), m < 512 → (∀ s ∈ l, s < 9) → l.foldl (fun m s => m ||| 2 ^ s) m < 512 := by
    intro l
    induction l with
    | nil => intro m hm _; exact hm
    | cons s l ih =>
      intro m hm h
      refine ih _ ?_ (fun x hx => h x (by simp [hx]))
      have hs := h s (by simp)
      have : (2 : Nat) ^ s < 2 ^ 9 := Nat.pow_lt_pow_right (by omega) hs
      exact Nat.or_lt_two_pow (n := 9) (by omega) this
  exact fun l h => key l 0 (by omega) h
theorem setOf_any (A : Option Addr) (cap : Nat) (l : List Nat) (hl : ∀ s ∈ l, s < 9) (w : World) (h : IntsAt w w.heap.size A l.length (l.map (fun s : Nat => (s : Int)))) :
    Calls Tryd.prog 77 #[.slice A l.length cap] w fun e w' => e = .returned (vi (setF l)) ∧ Below w.heap.size w w' := by
  have hll := h.few
  simp only [List.length_map] at hll
  have HX : Hid (∀ (k : Nat) (s : Nat), l[k]? = some s → s < 9 ∧ setF (l.take k) < 512 ∧ setF (l.take (k + 1)) = (setF (l.take k) ||| 2 ^ s)) := fun k s hs => by
    obtain ⟨hk, e⟩ := List.getElem?_eq_some_iff.1 hs
    refine ⟨hl s (List.mem_of_getElem? hs), setF_lt _ (fun x hx => hl x (List.mem_of_mem_take hx)), ?_⟩
    rw [List.take_succ_eq_append_getElem hk, setF_snoc, e]
  have HA : Hid (setF (l.take l.length) = setF l) := by unfold Hid; rw [List.take_length]
  have H0 : Hid (setF (l.take 0) = 0) := rfl
  have HH := Lib.hid h
  obtain ⟨R, hR⟩ : ∃ R, R = setF l := ⟨_, rfl⟩
  obtain ⟨S, hS⟩ : ∃ S, S = fun k => setF (l.take k) := ⟨_, rfl⟩
  have eS : ∀ k, setF (l.take k) = S k := fun k => by rw [hS]
  simp only [eS] at HX HA H0
  rw [← hR] at HA ⊢
  clear eS hS hR h hl
  go_enter Tryd.func77, Tryd.ntmps77
  go_wp2_with fail
  go_loopw [3, 5, 8] (fun x y i wr => ∃ k : Nat, k ≤ l.length ∧ i = .int .i64 k ∧ Below w.heap.size w wr ∧ x = vi (S k)) (fun _ _ i _ => l.length - (intOf i).toNat)
  case atStart => exact ⟨0, Nat.zero_le _, rfl, Below.refl _ _, by rw [H0.out]; rfl⟩
  obtain ⟨k, hk, rfl, hB, rfl⟩ := hrel
  have hz := hB.size
  by_cases hlt : k < l.length
  · obtain ⟨s, hs⟩ : ∃ s, l[k]? = some s := ⟨_, List.getElem?_eq_getElem hlt⟩
    obtain ⟨s9, sm, S1⟩ := HX.out k s hs
    obtain ⟨bb, off, rfl, hbb, x0⟩ := ints_at (HH.out.to hB) (k := k) (x := (s : Int)) (by rw [List.getElem?_map, hs]; rfl)
    have S1 := Lib.hid S1
    have hkI : (k : Int) < l.length := by omega
    have h0k : (0 : Int) ≤ k := by omega
    have WI := Lib.hid (setWith_any (S k) s sm s9)
    obtain ⟨sk, hsk⟩ : ∃ sk, sk = S k := ⟨_, rfl⟩
    rw [← hsk] at WI S1 sm ⊢
    clear hs hsk
    go_wp2_with fail
    refine (WI.out _).mono ?_
    rintro e W2 ⟨rfl, hb2⟩
    go_wp2_with fail
    go_roundw
    case rel => exact ⟨k + 1, by omega, by go_num, hB.trans (hb2.mono hz), by rw [S1.out]⟩
    case measure => simp [intOf]; omega
  · obtain rfl : k = l.length := by omega
    rw [HA.out]
    go_wp2_with fail
    go_ret
    exact ⟨rfl, hB⟩
end Go.Proofs.YtomgnpfpaodpiaaDoor

/- Contract of pieces.last. -/
namespace Go.Proofs.YtomgnpfpaodpiaaDoor
open Go Go.RowKit
set_option maxHeartbeats 2000000
theorem spread {p : List Int} (h : p.length = 12) : ∃ n0 n1 n2 n3 n4 n5 n6 n7 n8 n9 n10 n11, p = [n0, n1, n2, n3, n4, n5, n6, n7, n8, n9, n10, n11] := by
  match p, h with
  | [n0, n1, n2, n3, n4, n5, n6, n7, n8, n9, n10, n11], _ => exact ⟨n0, n1, n2, n3, n4, n5, n6, n7, n8, n9, n10, n11, rfl⟩
set_option maxRecDepth 100000 in
theorem idx12 {q : List Int} (h : q.length = 12) (k : Nat) (hk : k < 12) (w : World) : (Instr.index 102 (.agg (q.map vi).toArray) (.int .i64 k)).run Tryd.prog w = .ok (vi (q[k]?.getD 0)) w := by
  obtain ⟨n0, n1, n2, n3, n4, n5, n6, n7, n8, n9, n10, n11, rfl⟩ := spread h
  have hk : k = 0 ∨ k = 1 ∨ k = 2 ∨ k = 3 ∨ k = 4 ∨ k = 5 ∨ k = 6 ∨ k = 7 ∨ k = 8 ∨ k = 9 ∨ k = 10 ∨ k = 11 := by omega
  rcases hk with rfl | rfl | rfl | rfl | rfl | rfl | rfl | rfl | rfl | rfl | rfl | rfl <;> (show (_ : Result _) = _; kernel_rfl)
def lastI (o : Option Nat) : Int := match o with | some k => k | none => 0
theorem last_any (p : List Int) (hp : p.length = 12) (w : World) :
    Calls Tryd.prog 113 #[piecesV p] w fun e w' => e = .returned (.tuple #[vi (lastI (lastF p)), .bool (lastF p).isSome]) ∧ Below w.heap.size w w' := by
  have HS := Lib.hid (fun k => lastK_succ p k)
  have HA := Lib.hid (lastK_all hp)
  have HX : Hid (∀ k : Nat, k < 12 → ∃ n : Int, p[k]?.getD 0 = n ∧ ∀ w, (Instr.index 102 (.agg (p.map vi).toArray) (.int .i64 k)).run Tryd.prog w = .ok (vi n) w) := fun k hk => ⟨_, rfl, idx12 hp k hk⟩
  have E0 : Hid (lastK p 0 = none) := rfl
  obtain ⟨q, hq⟩ : ∃ q, q = p := ⟨_, rfl⟩
  obtain ⟨V, hV⟩ : ∃ V, V = (p.map vi).toArray := ⟨_, rfl⟩
  have HV := Lib.hid hV
  rw [← hV] at HX
  obtain ⟨n0, n1, n2, n3, n4, n5, n6, n7, n8, n9, n10, n11, rfl⟩ := spread hp
  rw [← hq] at HX HS HA E0 ⊢
  have HQ := Lib.hid hq
  clear hq hV
  show Calls Tryd.prog 113 #[piecesV q] w _
  rw [HQ.out]
  show Calls Tryd.prog 113 #[.agg #[vi n0, vi n1, vi n2, vi n3, vi n4, vi n5, vi n6, vi n7, vi n8, vi n9, vi n10, vi n11]] w _
  go_enter Tryd.func113, Tryd.ntmps113
  go_wp2_with fail
  have hfold : #[vi n0, vi n1, vi n2, vi n3, vi n4, vi n5, vi n6, vi n7, vi n8, vi n9, vi n10, vi n11] = V := by rw [HV.out]; rfl
  rw [hfold]
  clear hfold HV hp
  go_loopw [4, 5, 6, 7, 9] (fun a b x y i wr => ∃ k : Nat, k ≤ 12 ∧ i = .int .i64 k ∧ Below w.heap.size w wr ∧ (∃ o, a = vi (lastI o) ∧ b = .bool o.isSome ∧ Hid (lastK q k = o))) (fun _ _ _ _ i _ => 12 - (intOf i).toNat)
  case atStart => exact ⟨0, Nat.zero_le _, rfl, by (repeat (first | exact Below.refl _ _ | refine Below.setCell ?_ (by first | omega | (simp; omega) | (simp; done)) _ | refine Below.alloc ?_ (by first | omega | (simp; omega) | (simp; done)) _ | refine Below.drew ?_ | refine below_drewN ?_ _ | refine Below.trans ?_ (Below.mono (by assumption) (by first | omega | (simp; omega) | (simp; done))))), none, rfl, rfl, E0⟩
  obtain ⟨k, hk, rfl, hB, o, rfl, rfl, HO⟩ := hrel
  by_cases hlt : k < 12
  · obtain ⟨n, hn, hx⟩ := HX.out k hlt
    have hkI : (k : Int) < 12 := by omega
    have h0k : (0 : Int) ≤ k := by omega
    have S1 := HS.out k
    rw [hn, HO.out] at S1
    have S1 := Lib.hid S1
    clear hn
    go_wp2_with fail
    all_goals go_roundw
    case rel => exact ⟨k + 1, by omega, by go_num, hB, some k, rfl, rfl, by unfold Hid; rw [S1.out, if_pos (by omega)]⟩
    case measure => simp [intOf]; omega
    case rel => exact ⟨k + 1, by omega, by go_num, hB, o, rfl, rfl, by unfold Hid; rw [S1.out, if_neg (by omega)]⟩
    case measure => simp [intOf]; omega
  · obtain rfl : k = 12 := by omega
    have E : Hid (lastF q = o) := by unfold Hid; rw [← HA.out, HO.out]
    go_wp2_with fail
    go_ret2
    refine ⟨by rw [← HQ.out, E.out]; rfl, ?_⟩
    (repeat (first | exact Below.refl _ _ | refine Below.setCell ?_ (by first | omega | (simp; omega) | (simp; done)) _ | refine Below.alloc ?_ (by first | omega | (simp; omega) | (simp; done)) _ | refine Below.drew ?_ | refine below_drewN ?_ _ | refine Below.trans ?_ (Below.mono (by assumption) (by first | omega | (simp; omega) | (simp; done)))))
end Go.Proofs.YtomgnpfpaodpiaaDoor

/- Lists that a call makes. -/
namespace Go.Proofs.YtomgnpfpaodpiaaDoor
open Go Go.RowKit
theorem own_keep {w w' : World} {base : Nat} {e : TypeId} {sz n : Nat} {v : Value} {xs : List Value} (h : w.ownsRow base e sz v n xs) (hb : Below w.heap.size w w') : w'.ownsRow base e sz v n xs := by
  refine h.kept (row := none) ⟨hb.os, hb.tape, hb.output, hb.size, fun k hk _ => hb.block k hk⟩ ?_
  cases hv : v.ownBlock with
  | none => exact .inl rfl
  | some g => exact .inr (by simp)
theorem flat_at {sz : Nat} (rows : List (List Value)) : (∀ r ∈ rows, r.length = sz) → ∀ (i : Nat) (r : List Value), rows[i]? = some r → ∀ (j : Nat) (u : Value), j < sz → r[j]? = some u → rows.flatten[i * sz + j]? = some u := by
  induction rows with
  | nil => intro _ i r hr; simp at hr
  | cons a rows ih =>
    intro h i r hr j u hj hu
    have ha := h a (by simp)
    cases i with
    | zero =>
      simp only [List.getElem?_cons_zero, Option.some.injEq] at hr
      subst hr
      rw [List.flatten_cons, List.getElem?_append_left (by omega)]
      simpa using hu
    | succ i =>
      simp only [List.getElem?_cons_succ] at hr
      rw [List.flatten_cons, List.getElem?_append_right (by rw [ha, Nat.add_mul]; omega), ha]
      have := ih (fun r hr => h r (List.mem_cons_of_mem _ hr)) i r hr j u hj hu
      rwa [show (i + 1) * sz + j - sz = i * sz + j by rw [Nat.add_mul]; omega]
theorem row_of_own {w : World} {base : Nat} {e : TypeId} {sz : Nat} {m : List (List Value)} {g cap n : Nat} (hsz : ∀ r ∈ m, r.length = sz) (h : w.ownsRow base e sz (.slice (some ⟨g, 0, none⟩) n cap) n m.flatten) : RowAt w w.heap.size sz (some ⟨g, 0, none⟩) m := by
  refine fun _ => ⟨g, 0, rfl, (h.lt g rfl).2, fun i r hr j u hj hu => ?_⟩
  have hf := flat_at m hsz i r hr j u hj hu
  have hi := (List.getElem?_eq_some_iff.1 hf).1
  have h1 := h.1
  have := h.cellAt (i * sz + j) (by omega)
  rw [hf] at this
  simpa using this
theorem own_base {w : World} {base base' : Nat} {e : TypeId} {sz n : Nat} {v : Value} {xs : List Value} (h : w.ownsRow base e sz v n xs) (hb : base' ≤ base) : w.ownsRow base' e sz v n xs := by
  obtain ⟨h1, h2⟩ := h
  refine ⟨h1, h2.imp id ?_⟩
  rintro ⟨g, c, cur, e1, e2, e3⟩
  exact ⟨g, c, cur, e1, by omega, e3⟩
theorem own_form {w : World} {base : Nat} {e : TypeId} {sz n : Nat} {v : Value} {xs : List Value} (h : w.ownsRow base e sz v n xs) : ∃ A cap, v = .slice A n cap ∧ n ≤ cap ∧ cap ≤ maxLen := by
  rcases h.2 with ⟨rfl, rfl⟩ | ⟨g, cap, cur, rfl, _, _, h1, h2, _⟩
  · exact ⟨none, 0, rfl, by omega, by simp [maxLen]⟩
  · exact ⟨_, cap, rfl, h1, h2⟩
theorem cells_new (w : World) (xs : List Value) (t : TypeId) : ∀ j u, xs[j]? = some u → (w.alloc (.cells xs.toArray t)).cell? ((⟨w.heap.size, 0, none⟩ : Addr).add j) = some u := by
  intro j u hj
  have := World.alloc_heap_new w (.cells xs.toArray t)
  have e : (⟨w.heap.size, 0, none⟩ : Addr).add j = ⟨w.heap.size, j, none⟩ := by
    simp only [Addr.add]
    split <;> simp_all
  rw [e]
  unfold World.cell?
  dsimp only
  rw [this]
  simp [hj]
theorem flat_len {sz : Nat} : ∀ (m : List (List Value)), (∀ r ∈ m, r.length = sz) → m.flatten.length = m.length * sz
  | [], _ => by simp
  | r :: m, h => by
    rw [List.flatten_cons, List.length_append, h r (by simp), flat_len m (fun x hx => h x (List.mem_cons_of_mem _ hx)), List.length_cons, Nat.add_mul]
    omega
/-- a list that the call made itself, as it comes back: how it lies, and where -/
theorem own_rows {w : World} {base sz n : Nat} {e : TypeId} {v : Value} {m : List (List Value)} (hsz : ∀ r ∈ m, r.length = sz) (h : w.ownsRow base e sz v n m.flatten) (hn : m.length = n) (hf : n ≤ 35184372088832) :
    ∃ A c, v = .slice A n c ∧ n ≤ c ∧ c ≤ maxLen ∧ RowsAt w w.heap.size sz A n m := by
  obtain ⟨A, c, rfl, h1, h2⟩ := own_form h
  refine ⟨A, c, rfl, h1, h2, by omega, by omega, by omega, fun hl => ?_⟩
  rcases h.2 with ⟨e1, h0⟩ | ⟨g, cap, cur, e1, _⟩
  · omega
  · cases e1
    exact row_of_own hsz h hl
theorem info_line : (Tryd.prog.info? 64).map (fun i => (i.zero, i.size, i.bytes)) = some (some (.agg #[vi 0, vi 0]), 2, 16) := by kernel_rfl
theorem info_int : (Tryd.prog.info? 3).map (fun i => (i.zero, i.size, i.bytes)) = some (some (.int .i64 0), 1, 8) := by kernel_rfl
end Go.Proofs.YtomgnpfpaodpiaaDoor

/- Contract of set.members. -/
namespace Go.Proofs.YtomgnpfpaodpiaaDoor
open Go Go.RowKit
set_option maxHeartbeats 2000000
def membersK (m k : Nat) : List Nat := (List.range k).filter (fun s => m.testBit s)
def membersF (m : Nat) : List Nat := membersK m 9
abbrev natsC (l : List Nat) : List Int := l.map (fun s : Nat => (s : Int))
theorem membersK_succ (m k : Nat) : membersK m (k + 1) = membersK m k ++ (if m.testBit k then [k] else []) := by
  unfold membersK
  rw [List.range_succ, List.filter_append]
  by_cases h : m.testBit k <;> simp [h]
theorem membersK_le (m k : Nat) : (membersK m k).length ≤ k := by
  have := List.length_filter_le (fun s => m.testBit s) (List.range k)
  rw [List.length_range] at this
  exact this
theorem intC_one (l : List Int) : ∀ r ∈ l.map intC, r.length = 1 := fun r hr => by
  obtain ⟨p, _, rfl⟩ := List.mem_map.1 hr
  rfl
theorem intC_flat (l : List Int) : (l.map intC).flatten = l.map vi := by
  induction l with
  | nil => rfl
  | cons a l ih => simp [ih]
theorem setHas_is {m s : Nat} {b : Bool} (hb : m.testBit s = b) (hm : m < 512) (hs : s < 9) (w : World) :
    Calls Tryd.prog 96 #[vi m, vi s] w fun e w' => e = .returned (.bool b) ∧ Below w.heap.size w w' := by
  subst hb
  exact setHas_any m s hm hs w
theorem members_any (m : Nat) (hm : m < 512) (w : World) :
    Calls Tryd.prog 74 #[vi m] w fun e w' => ∃ A, e = .returned (.slice A (membersF m).length (membersF m).length) ∧ IntsAt w' w'.heap.size A (membersF m).length (natsC (membersF m)) ∧ (∀ b, A = some b → w.heap.size ≤ b.block ∧ b = ⟨b.block, 0, none⟩ ∧ ∃ cur, w'.heap[b.block]? = some (.cells cur 3 (0, 0)) ∧ cur.toList.take (membersF m).length = (natsC (membersF m)).map vi) ∧ Below w.heap.size w w' := by
  obtain ⟨i0, hi, hy0, hy1, hy2⟩ := info_parts info_int
  have HX : Hid (∀ k : Nat, k < 9 → ∃ b : Bool, m.testBit k = b ∧ membersK m (k + 1) = membersK m k ++ (if b then [k] else [])) := fun k hk => ⟨_, rfl, membersK_succ m k⟩
  have HL : Hid (∀ k, (membersK m k).length ≤ k) := membersK_le m
  have HA : Hid (membersK m 9 = membersF m) := rfl
  have E0 : Hid (membersK m 0 = []) := rfl
  obtain ⟨R, hR⟩ : ∃ R, R = membersF m := ⟨_, rfl⟩
  obtain ⟨S, hS⟩ : ∃ S, S = membersK m := ⟨_, rfl⟩
  rw [← hS] at HX HL HA E0
  rw [← hR] at HA ⊢
  clear hR hS
  go_enter Tryd.func74, Tryd.ntmps74
  go_wp2_with fail
  go_loopw [3, 4, 5] (fun v x i wr => ∃ k : Nat, k ≤ 9 ∧ i = .int .i64 k ∧ Below w.heap.size w wr ∧ wr.ownsRow w.heap.size 3 1 v (S k).length ((natsC (S k)).map vi)) (fun _ _ i _ => 9 - (intOf i).toNat)
  case atStart => exact ⟨0, Nat.zero_le _, rfl, Below.refl _ _, by rw [E0.out]; exact World.ownsRow_nil _ _ _ _⟩
  obtain ⟨k, hk, rfl, hB, hown⟩ := hrel
  have hlen := HL.out k
  have hz := hB.size
  by_cases hlt : k < 9
  · obtain ⟨b, hb, S1⟩ := HX.out k hlt
    have hkI : (k : Int) < 9 := by omega
    have h0k : (0 : Int) ≤ k := by omega
    have HI := Lib.hid (setHas_is hb hm hlt)
    have S1 := Lib.hid S1
    obtain ⟨L, hL⟩ : ∃ L, L = S k := ⟨_, rfl⟩
    rw [← hL] at hown hlen S1
    clear hL hb
    obtain ⟨A', c', rfl, h1, h2⟩ := own_form hown
    go_wp2_with fail
    refine (HI.out _).mono ?_
    rintro e W2 ⟨rfl, hb2⟩
    have HB2 : Below w.heap.size w W2 := hB.trans (hb2.mono hz)
    have hown2 := own_keep hown hb2
    have hz2 := HB2.size
    clear hb2 hown
    rcases b with _ | _
    · go_wp2_with fail
      go_roundw
      case rel =>
        refine ⟨k + 1, by omega, by go_num, HB2, ?_⟩
        rw [S1.out]
        simpa using hown2
      case measure => simp [intOf]; omega
    · go_wp2_with (at_builtin; go_loud (refine wpList_append_own _ rfl _ _ 22 rfl w.heap.size 3 i0 (.int .i64 0) 1 8 Tryd.underlying22 hi hy0 hy1 hy2 rfl (by decide) _ _ _ rfl (hown2.alloc _) ⟨W2.heap.size, 0, none⟩ 1 1 [vi k] rfl rfl (cell_one_new _ _ _) (by simp [Value.oneCell']) (by unfold maxLen; omega) (by omega) (by simp; omega) ?_; intro v5 w5 hown5 hgrow5 _))
      have HB5 : Below w.heap.size w w5 := Below.grown (HB2.alloc (by omega) _) hgrow5 (by simp; omega) (fun j e => (hown2.lt j e).1)
      obtain ⟨A5, c5, rfl, -, -⟩ := own_form hown5
      go_roundw
      case rel =>
        refine ⟨k + 1, by omega, by go_num, HB5, ?_⟩
        rw [S1.out]
        simpa using hown5
      case measure => simp [intOf]; omega
  · obtain rfl : k = 9 := by omega
    rw [HA.out] at hown hlen
    rw [← intC_flat] at hown
    obtain ⟨A', c', rfl, h1, h2, h3⟩ := own_rows (m := (natsC R).map intC) (intC_one _) hown (by simp) (by omega)
    go_wp2_with fail
    go_ret
    refine ⟨A', rfl, h3, fun b hb => ⟨(hown.lt b.block (by rw [hb]; rfl)).1, ?_⟩, hB⟩
    subst hb
    rcases hown.2 with ⟨e1, _⟩ | ⟨g, cap, cur, e1, _, e2, _, _, _, e3⟩
    · cases e1
    · cases e1
      refine ⟨rfl, cur, e2, ?_⟩
      rw [Nat.mul_one, intC_flat] at e3
      exact e3
end Go.Proofs.YtomgnpfpaodpiaaDoor

/- Contract of pieces.lines. -/
namespace Go.Proofs.YtomgnpfpaodpiaaDoor
open Go Go.RowKit
set_option maxHeartbeats 2000000
theorem linesFrom_snoc (n : Int) : ∀ (a : List Int) (j : Nat), linesFrom j (a ++ [n]) = linesFrom j a ++ (if 0 < n then [⟨((j + a.length : Nat) : Int), n⟩] else [])
  | [], j => by simp [linesFrom]
  | x :: a, j => by
    have ih := linesFrom_snoc n a (j + 1)
    simp only [List.cons_append, linesFrom]
    rw [ih, show j + 1 + a.length = j + (x :: a).length from by simp; omega]
    by_cases hx : 0 < x
    · simp [hx]
    · simp [hx]
def linesK (p : List Int) (k : Nat) : List SLine := linesOf (p.take k)
theorem linesK_succ {p : List Int} {k : Nat} (hk : k < p.length) : linesK p (k + 1) = linesK p k ++ (if 0 < p[k]?.getD 0 then [⟨(k : Int), p[k]?.getD 0⟩] else []) := by
  unfold linesK linesOf
  rw [List.take_succ_eq_append_getElem hk, linesFrom_snoc]
  simp [hk, Nat.min_eq_left (Nat.le_of_lt hk)]
theorem linesFrom_len : ∀ (a : List Int) (j : Nat), (linesFrom j a).length ≤ a.length
  | [], _ => by simp [linesFrom]
  | x :: a, j => by
    have := linesFrom_len a (j + 1)
    simp only [linesFrom]
    split <;> simp <;> omega
theorem linesK_le (p : List Int) (k : Nat) : (linesK p k).length ≤ k := by
  have := linesFrom_len (p.take k) 0
  rw [List.length_take] at this
  unfold linesK linesOf
  omega
theorem linesK_all {p : List Int} (h : p.length = 12) : linesK p 12 = linesOf p := by unfold linesK; rw [← h, List.take_length]
theorem cells_two (l : List SLine) : ∀ r ∈ l.map SLine.cells, r.length = 2 := fun r hr => by
  obtain ⟨p, _, rfl⟩ := List.mem_map.1 hr
  rfl
theorem pLines_any (p : List Int) (hp : p.length = 12) (w : World) :
    Calls Tryd.prog 64 #[piecesV p] w fun e w' => ∃ A, e = .returned (.slice A (linesOf p).length (linesOf p).length) ∧ RowsAt w' w'.heap.size 2 A (linesOf p).length ((linesOf p).map SLine.cells) ∧ (∀ b, A = some b → w.heap.size ≤ b.block ∧ ∃ cs, w'.heap[b.block]? = some (.cells cs 64 (0, 0))) ∧ Below w.heap.size w w' := by
  have HX : Hid (∀ k : Nat, k < 12 → ∃ n : Int, linesK p (k + 1) = linesK p k ++ (if 0 < n then [⟨(k : Int), n⟩] else []) ∧ ∀ w, (Instr.index 102 (.agg (p.map vi).toArray) (.int .i64 k)).run Tryd.prog w = .ok (vi n) w) := fun k hk => ⟨_, linesK_succ (by omega), idx12 hp k hk⟩
  have HA := Lib.hid (linesK_all hp)
  have E0 : Hid (linesK p 0 = []) := rfl
  have HL : Hid (∀ k, (linesK p k).length ≤ k) := linesK_le p
  obtain ⟨i0, hi, hy0, hy1, hy2⟩ := info_parts info_line
  obtain ⟨q, hq⟩ : ∃ q, q = p := ⟨_, rfl⟩
  obtain ⟨V, hV⟩ : ∃ V, V = (p.map vi).toArray := ⟨_, rfl⟩
  have HV := Lib.hid hV
  rw [← hV] at HX
  obtain ⟨n0, n1, n2, n3, n4, n5, n6, n7, n8, n9, n10, n11, rfl⟩ := spread hp
  rw [← hq] at HX HA E0 HL ⊢
  have HQ := Lib.hid hq
  obtain ⟨R, hR⟩ : ∃ R, R = linesOf q := ⟨_, rfl⟩
  rw [← hR] at HA ⊢
  clear hq hV hR
  show Calls Tryd.prog 64 #[piecesV q] w _
  rw [HQ.out]
  show Calls Tryd.prog 64 #[.agg #[vi n0, vi n1, vi n2, vi n3, vi n4, vi n5, vi n6, vi n7, vi n8, vi n9, vi n10, vi n11]] w _
  go_enter Tryd.func64, Tryd.ntmps64
  go_wp2_with fail
  have hfold : #[vi n0, vi n1, vi n2, vi n3, vi n4, vi n5, vi n6, vi n7, vi n8, vi n9, vi n10, vi n11] = V := by rw [HV.out]; rfl
  rw [hfold]
  clear hfold HV hp HQ
  go_loopw [3, 4, 5, 7] (fun v x y i wr => ∃ k : Nat, k ≤ 12 ∧ i = .int .i64 k ∧ Below w.heap.size w wr ∧ wr.ownsRow w.heap.size 64 2 v (linesK q k).length ((linesK q k).map SLine.cells).flatten) (fun _ _ _ i _ => 12 - (intOf i).toNat)
  case atStart => exact ⟨0, Nat.zero_le _, rfl, by (repeat (first | exact Below.refl _ _ | refine Below.setCell ?_ (by first | omega | (simp; omega) | (simp; done)) _ | refine Below.alloc ?_ (by first | omega | (simp; omega) | (simp; done)) _ | refine Below.drew ?_ | refine below_drewN ?_ _ | refine Below.trans ?_ (Below.mono (by assumption) (by first | omega | (simp; omega) | (simp; done))))), by rw [E0.out]; exact World.ownsRow_nil _ _ _ _⟩
  obtain ⟨k, hk, rfl, hB, hown⟩ := hrel
  have hlen := HL.out k
  by_cases hlt : k < 12
  · obtain ⟨n, S1, hx⟩ := HX.out k hlt
    have S1 := Lib.hid S1
    have hkI : (k : Int) < 12 := by omega
    have h0k : (0 : Int) ≤ k := by omega
    obtain ⟨L, hL⟩ : ∃ L, L = linesK q k := ⟨_, rfl⟩
    rw [← hL] at hown hlen S1
    have HLL := Lib.hid hL
    clear hL
    obtain ⟨A', c', rfl, h1, h2⟩ := own_form hown
    have hz := hB.size
    by_cases hn : 0 < n
    · go_wp2_with (at_builtin; go_loud (refine wpList_append_own _ rfl _ _ 50 rfl w.heap.size 64 i0 (.agg #[vi 0, vi 0]) 2 16 Tryd.underlying50 hi hy0 hy1 hy2 rfl (by decide) _ _ _ rfl (hown.alloc _) ⟨wr.heap.size, 0, none⟩ 1 1 [vi k, vi n] rfl rfl (cells_new _ _ _) (by simp [Value.oneCell']) (by unfold maxLen; omega) (by omega) (by simp; omega) ?_; intro v5 w5 hown5 hgrow5 _))
      have HB5 : Below w.heap.size w w5 := Below.grown (hB.alloc (by omega) _) hgrow5 (by simp; omega) (fun j e => (hown.lt j e).1)
      obtain ⟨A5, c5, rfl, -, -⟩ := own_form hown5
      go_roundw
      case rel =>
        refine ⟨k + 1, by omega, by go_num, HB5, ?_⟩
        rw [S1.out, if_pos hn]
        simpa [SLine.cells] using hown5
      case measure => simp [intOf]; omega
    · go_wp2_with fail
      go_roundw
      case rel =>
        refine ⟨k + 1, by omega, by go_num, hB, ?_⟩
        rw [S1.out, if_neg hn, List.append_nil]
        exact hown
      case measure => simp [intOf]; omega
  · obtain rfl : k = 12 := by omega
    rw [HA.out] at hown hlen
    obtain ⟨A', c', rfl, h1, h2, h3⟩ := own_rows (m := R.map SLine.cells) (cells_two _) hown (by simp) (by omega)
    go_wp2_with fail
    go_ret
    refine ⟨A', rfl, h3, fun b hb => ⟨(hown.lt b.block (by rw [hb]; rfl)).1, ?_⟩, hB⟩
    subst hb
    rcases hown.2 with ⟨e1, _⟩ | ⟨g, cap, cur, e1, _, e2, _⟩
    · cases e1
    · cases e1
      exact ⟨_, e2⟩
end Go.Proofs.YtomgnpfpaodpiaaDoor

