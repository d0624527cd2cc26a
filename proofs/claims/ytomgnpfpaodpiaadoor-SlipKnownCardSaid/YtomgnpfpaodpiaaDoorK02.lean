/- Lists that a call makes. -/
import Derived.Test.YtomgnpfpaodpiaaDoorK01
import Derived.OwnWalk
import Derived.RangeFuncRecord
import Derived.Maps.AppendAt
import Derived.Laws.AppendOwn
import Derived.Deep.AppendLies
import Derived.OpenShut
import Derived.Test.YtomgnpfpaodpiaaDoorCards
import Derived.Test.YtomgnpfpaodpiaaDoorTie
import Derived.WalkKit
import Derived.ProofKit
import Derived.ReadAgain
import Derived.Deep.DeepHandedRow
import Derived.Lib.LaidTab
import Derived.RangeFuncNested
import Derived.RangeFuncBound
import Derived.RangeFuncCalls
import Derived.RangeFuncLeaves
import Derived.Sort.BigQuietIn
set_option linter.unusedVariables false
set_option linter.unusedSimpArgs false
namespace Go.Proofs.YtomgnpfpaodpiaaDoor
open Go Go.RowKit
theorem own_keep {w w' : World} {base : Nat} {e : TypeId} {sz n : Nat} {v : Value} {xs : List Value} (h : w.ownsRow base e sz v n xs) (hb : Below w.heap.size w w') : w'.ownsRow base e sz v n xs := by
  refine h.kept (row := none) ⟨hb.os, hb.tape, hb.output, hb.size, fun k hk _ => hb.block k hk⟩ ?_
  cases hv : v.ownBlock with
  | none => exact .inl rfl
  | some g => exact .inr (by simp)
theorem flat_at {sz : Nat} (rows : List (List Value)) : (∀ r ∈ rows, r.length = sz) → ∀ (i : Nat) (r : List Value), rows[i]? = some r → ∀ (j : Nat) (u : Value), j < sz → r[j]? = some u → rows.flatten[i * sz + j]? = some u := by
  induction rows with
  | nil => intro _ i r hr; simp at hr
  | cons a rows ih =>
    intro h i r hr j u hj hu
    have ha := h a (by simp)
    cases i with
    | zero =>
      simp only [List.getElem?_cons_zero, Option.some.injEq] at hr
      subst hr
      rw [List.flatten_cons, List.getElem?_append_left (by omega)]
      simpa using hu
    | succ i =>
      simp only [List.getElem?_cons_succ] at hr
      rw [List.flatten_cons, List.getElem?_append_right (by rw [ha, Nat.add_mul]; omega), ha]
      have := ih (fun r hr => h r (List.mem_cons_of_mem _ hr)) i r hr j u hj hu
      rwa [show (i + 1) * sz + j - sz = i * sz + j by rw [Nat.add_mul]; omega]
theorem row_of_own {w : World} {base : Nat} {e : TypeId} {sz : Nat} {m : List (List Value)} {g cap n : Nat} (hsz : ∀ r ∈ m, r.length = sz) (h : w.ownsRow base e sz (.slice (some ⟨g, 0, none⟩) n cap) n m.flatten) : RowAt w w.heap.size sz (some ⟨g, 0, none⟩) m := by
  refine fun _ => ⟨g, 0, rfl, (h.lt g rfl).2, fun i r hr j u hj hu => ?_⟩
  have hf := flat_at m hsz i r hr j u hj hu
  have hi := (List.getElem?_eq_some_iff.1 hf).1
  have h1 := h.1
  have := h.cellAt (i * sz + j) (by omega)
  rw [hf] at this
  simpa using this
theorem own_form {w : World} {base : Nat} {e : TypeId} {sz n : Nat} {v : Value} {xs : List Value} (h : w.ownsRow base e sz v n xs) : ∃ A cap, v = .slice A n cap ∧ n ≤ cap ∧ cap ≤ maxLen := by
  rcases h.2 with ⟨rfl, rfl⟩ | ⟨g, cap, cur, rfl, _, _, h1, h2, _⟩
  · exact ⟨none, 0, rfl, by omega, by simp [maxLen]⟩
  · exact ⟨_, cap, rfl, h1, h2⟩
theorem cells_new (w : World) (xs : List Value) (t : TypeId) : ∀ j u, xs[j]? = some u → (w.alloc (.cells xs.toArray t)).cell? ((⟨w.heap.size, 0, none⟩ : Addr).add j) = some u := by
  intro j u hj
  have := World.alloc_heap_new w (.cells xs.toArray t)
  have e : (⟨w.heap.size, 0, none⟩ : Addr).add j = ⟨w.heap.size, j, none⟩ := by
    simp only [Addr.add]
    split <;> simp_all
  rw [e]
  unfold World.cell?
  dsimp only
  rw [this]
  simp [hj]
theorem flat_len {sz : Nat} : ∀ (m : List (List Value)), (∀ r ∈ m, r.length = sz) → m.flatten.length = m.length * sz
  | [], _ => by simp
  | r :: m, h => by
    rw [List.flatten_cons, List.length_append, h r (by simp), flat_len m (fun x hx => h x (List.mem_cons_of_mem _ hx)), List.length_cons, Nat.add_mul]
    omega
/-- a list that the call made itself, as it comes back: how it lies, and where -/
theorem own_rows {w : World} {base sz n : Nat} {e : TypeId} {v : Value} {m : List (List Value)} (hsz : ∀ r ∈ m, r.length = sz) (h : w.ownsRow base e sz v n m.flatten) (hn : m.length = n) (hf : n ≤ 35184372088832) :
    ∃ A c, v = .slice A n c ∧ n ≤ c ∧ c ≤ maxLen ∧ RowsAt w w.heap.size sz A n m := by
  obtain ⟨A, c, rfl, h1, h2⟩ := own_form h
  refine ⟨A, c, rfl, h1, h2, by omega, by omega, by omega, fun hl => ?_⟩
  rcases h.2 with ⟨e1, h0⟩ | ⟨g, cap, cur, e1, _⟩
  · omega
  · cases e1
    exact row_of_own hsz h hl
theorem info_line : (Tryd.prog.info? 64).map (fun i => (i.zero, i.size, i.bytes)) = some (some (.agg #[vi 0, vi 0]), 2, 16) := by kernel_rfl
theorem info_int : (Tryd.prog.info? 3).map (fun i => (i.zero, i.size, i.bytes)) = some (some (.int .i64 0), 1, 8) := by kernel_rfl
end Go.Proofs.YtomgnpfpaodpiaaDoor
/- Contract of set.members. -/
namespace Go.Proofs.YtomgnpfpaodpiaaDoor
open Go Go.RowKit
set_option maxHeartbeats 2000000
def membersK (m k : Nat) : List Nat := (List.range k).filter (fun s => m.testBit s)
def membersF (m : Nat) : List Nat := membersK m 9
abbrev natsC (l : List Nat) : List Int := l.map (fun s : Nat => (s : Int))
theorem membersK_succ (m k : Nat) : membersK m (k + 1) = membersK m k ++ (if m.testBit k then [k] else []) := by
  unfold membersK
  rw [List.range_succ, List.filter_append]
  by_cases h : m.testBit k <;> simp [h]
theorem membersK_le (m k : Nat) : (membersK m k).length ≤ k := by
  have := List.length_filter_le (fun s => m.testBit s) (List.range k)
  rw [List.length_range] at this
  exact this
theorem intC_one (l : List Int) : ∀ r ∈ l.map intC, r.length = 1 := fun r hr => by
  obtain ⟨p, _, rfl⟩ := List.mem_map.1 hr
  rfl
theorem intC_flat (l : List Int) : (l.map intC).flatten = l.map vi := by
  induction l with
  | nil => rfl
  | cons a l ih => simp [ih]
theorem setHas_is {m s : Nat} {b : Bool} (hb : m.testBit s = b) (hm : m < 512) (hs : s < 9) (w : World) :
    Calls Tryd.prog 96 #[vi m, vi s] w fun e w' => e = .returned (.bool b) ∧ Below w.heap.size w w' := by
  subst hb
  exact setHas_any m s hm hs w
theorem members_any (m : Nat) (hm : m < 512) (w : World) :
    Calls Tryd.prog 74 #[vi m] w fun e w' => ∃ A, e = .returned (.slice A (membersF m).length (membersF m).length) ∧ IntsAt w' w'.heap.size A (membersF m).length (natsC (membersF m)) ∧ (∀ b, A = some b → w.heap.size ≤ b.block ∧ b = ⟨b.block, 0, none⟩ ∧ ∃ cur, w'.heap[b.block]? = some (.cells cur 3 (0, 0)) ∧ cur.toList.take (membersF m).length = (natsC (membersF m)).map vi) ∧ Below w.heap.size w w' := by
  obtain ⟨i0, hi, hy0, hy1, hy2⟩ := info_parts info_int
  have HX : Hid (∀ k : Nat, k < 9 → ∃ b : Bool, m.testBit k = b ∧ membersK m (k + 1) = membersK m k ++ (if b then [k] else [])) := fun k hk => ⟨_, rfl, membersK_succ m k⟩
  have HL : Hid (∀ k, (membersK m k).length ≤ k) := membersK_le m
  have HA : Hid (membersK m 9 = membersF m) := rfl
  have E0 : Hid (membersK m 0 = []) := rfl
  obtain ⟨R, hR⟩ : ∃ R, R = membersF m := ⟨_, rfl⟩
  obtain ⟨S, hS⟩ : ∃ S, S = membersK m := ⟨_, rfl⟩
  rw [← hS] at HX HL HA E0
  rw [← hR] at HA ⊢
  clear hR hS
  go_enter Tryd.func74, Tryd.ntmps74
  go_wp2_with fail
  go_loopw [3, 4, 5] (fun v x i wr => ∃ k : Nat, k ≤ 9 ∧ i = .int .i64 k ∧ Below w.heap.size w wr ∧ wr.ownsRow w.heap.size 3 1 v (S k).length ((natsC (S k)).map vi)) (fun _ _ i _ => 9 - (intOf i).toNat)
  case atStart => exact ⟨0, Nat.zero_le _, rfl, Below.refl _ _, by rw [E0.out]; exact World.ownsRow_nil _ _ _ _⟩
  obtain ⟨k, hk, rfl, hB, hown⟩ := hrel
  have hlen := HL.out k
  have hz := hB.size
  by_cases hlt : k < 9
  · obtain ⟨b, hb, S1⟩ := HX.out k hlt
    have hkI : (k : Int) < 9 := by omega
    have h0k : (0 : Int) ≤ k := by omega
    have HI := Lib.hid (setHas_is hb hm hlt)
    have S1 := Lib.hid S1
    obtain ⟨L, hL⟩ : ∃ L, L = S k := ⟨_, rfl⟩
    rw [← hL] at hown hlen S1
    clear hL hb
    obtain ⟨A', c', rfl, h1, h2⟩ := own_form hown
    go_wp2_with fail
    refine (HI.out _).mono ?_
    rintro e W2 ⟨rfl, hb2⟩
    have HB2 : Below w.heap.size w W2 := hB.trans (hb2.mono hz)
    have hown2 := own_keep hown hb2
    have hz2 := HB2.size
    clear hb2 hown
    rcases b with _ | _
    · go_wp2_with fail
      go_roundw
      case rel =>
        refine ⟨k + 1, by omega, by go_num, HB2, ?_⟩
        rw [S1.out]
        simpa using hown2
      case measure => simp [intOf]; omega
    · go_wp2_with (at_builtin; go_loud (refine wpList_append_own _ rfl _ _ 22 rfl w.heap.size 3 i0 (.int .i64 0) 1 8 Tryd.underlying22 hi hy0 hy1 hy2 rfl (by decide) _ _ _ rfl (hown2.alloc _) ⟨W2.heap.size, 0, none⟩ 1 1 [vi k] rfl rfl (cell_one_new _ _ _) (by simp [Value.oneCell']) (by unfold maxLen; omega) (by omega) (by simp; omega) ?_; intro v5 w5 hown5 hgrow5 _))
      have HB5 : Below w.heap.size w w5 := Below.grown (HB2.alloc (by omega) _) hgrow5 (by simp; omega) (fun j e => (hown2.lt j e).1)
      obtain ⟨A5, c5, rfl, -, -⟩ := own_form hown5
      go_roundw
      case rel =>
        refine ⟨k + 1, by omega, by go_num, HB5, ?_⟩
        rw [S1.out]
        simpa using hown5
      case measure => simp [intOf]; omega
  · obtain rfl : k = 9 := by omega
    rw [HA.out] at hown hlen
    rw [← intC_flat] at hown
    obtain ⟨A', c', rfl, h1, h2, h3⟩ := own_rows (m := (natsC R).map intC) (intC_one _) hown (by simp) (by omega)
    go_wp2_with fail
    go_ret
    refine ⟨A', rfl, h3, fun b hb => ⟨(hown.lt b.block (by rw [hb]; rfl)).1, ?_⟩, hB⟩
    subst hb
    rcases hown.2 with ⟨e1, _⟩ | ⟨g, cap, cur, e1, _, e2, _, _, _, e3⟩
    · cases e1
    · cases e1
      refine ⟨rfl, cur, e2, ?_⟩
      rw [Nat.mul_one, intC_flat] at e3
      exact e3
end Go.Proofs.YtomgnpfpaodpiaaDoor
/- Contract of pieces.lines. -/
namespace Go.Proofs.YtomgnpfpaodpiaaDoor
open Go Go.RowKit
set_option maxHeartbeats 2000000
theorem linesFrom_snoc (n : Int) : ∀ (a : List Int) (j : Nat), linesFrom j (a ++ [n]) = linesFrom j a ++ (if 0 < n then [⟨((j + a.length : Nat) : Int), n⟩] else [])
  | [], j => by simp [linesFrom]
  | x :: a, j => by
    have ih := linesFrom_snoc n a (j + 1)
    simp only [List.cons_append, linesFrom]
    rw [ih, show j + 1 + a.length = j + (x :: a).length from by simp; omega]
    by_cases hx : 0 < x
    · simp [hx]
    · simp [hx]
def linesK (p : List Int) (k : Nat) : List SLine := linesOf (p.take k)
theorem linesK_succ {p : List Int} {k : Nat} (hk : k < p.length) : linesK p (k + 1) = linesK p k ++ (if 0 < p[k]?.getD 0 then [⟨(k : Int), p[k]?.getD 0⟩] else []) := by
  unfold linesK linesOf
  rw [List.take_succ_eq_append_getElem hk, linesFrom_snoc]
  simp [hk, Nat.min_eq_left (Nat.le_of_lt hk)]
theorem linesFrom_len : ∀ (a : List Int) (j : Nat), (linesFrom j a).length ≤ a.length
  | [], _ => by simp [linesFrom]
  | x :: a, j => by
    have := linesFrom_len a (j + 1)
    simp only [linesFrom]
    split <;> simp <;> omega
theorem linesK_le (p : List Int) (k : Nat) : (linesK p k).length ≤ k := by
  have := linesFrom_len (p.take k) 0
  rw [List.length_take] at this
  unfold linesK linesOf
  omega
theorem linesK_all {p : List Int} (h : p.length = 12) : linesK p 12 = linesOf p := by unfold linesK; rw [← h, List.take_length]
theorem cells_two (l : List SLine) : ∀ r ∈ l.map SLine.cells, r.length = 2 := fun r hr => by
  obtain ⟨p, _, rfl⟩ := List.mem_map.1 hr
  rfl
theorem pLines_any (p : List Int) (hp : p.length = 12) (w : World) :
    Calls Tryd.prog 64 #[piecesV p] w fun e w' => ∃ A, e = .returned (.slice A (linesOf p).length (linesOf p).length) ∧ RowsAt w' w'.heap.size 2 A (linesOf p).length ((linesOf p).map SLine.cells) ∧ (∀ b, A = some b → w.heap.size ≤ b.block ∧ ∃ cs, w'.heap[b.block]? = some (.cells cs 64 (0, 0))) ∧ Below w.heap.size w w' := by
  have HX : Hid (∀ k : Nat, k < 12 → ∃ n : Int, linesK p (k + 1) = linesK p k ++ (if 0 < n then [⟨(k : Int), n⟩] else []) ∧ ∀ w, (Instr.index 102 (.agg (p.map vi).toArray) (.int .i64 k)).run Tryd.prog w = .ok (vi n) w) := fun k hk => ⟨_, linesK_succ (by omega), idx12 hp k hk⟩
  have HA := Lib.hid (linesK_all hp)
  have E0 : Hid (linesK p 0 = []) := rfl
  have HL : Hid (∀ k, (linesK p k).length ≤ k) := linesK_le p
  obtain ⟨i0, hi, hy0, hy1, hy2⟩ := info_parts info_line
  obtain ⟨q, hq⟩ : ∃ q, q = p := ⟨_, rfl⟩
  obtain ⟨V, hV⟩ : ∃ V, V = (p.map vi).toArray := ⟨_, rfl⟩
  have HV := Lib.hid hV
  rw [← hV] at HX
  obtain ⟨n0, n1, n2, n3, n4, n5, n6, n7, n8, n9, n10, n11, rfl⟩ := spread hp
  rw [← hq] at HX HA E0 HL ⊢
  have HQ := Lib.hid hq
  obtain ⟨R, hR⟩ : ∃ R, R = linesOf q := ⟨_, rfl⟩
  rw [← hR] at HA ⊢
  clear hq hV hR
  show Calls Tryd.prog 64 #[piecesV q] w _
  rw [HQ.out]
  show Calls Tryd.prog 64 #[.agg #[vi n0, vi n1, vi n2, vi n3, vi n4, vi n5, vi n6, vi n7, vi n8, vi n9, vi n10, vi n11]] w _
  go_enter Tryd.func64, Tryd.ntmps64
  go_wp2_with fail
  have hfold : #[vi n0, vi n1, vi n2, vi n3, vi n4, vi n5, vi n6, vi n7, vi n8, vi n9, vi n10, vi n11] = V := by rw [HV.out]; rfl
  rw [hfold]
  clear hfold HV hp HQ
  go_loopw [3, 4, 5, 7] (fun v x y i wr => ∃ k : Nat, k ≤ 12 ∧ i = .int .i64 k ∧ Below w.heap.size w wr ∧ wr.ownsRow w.heap.size 64 2 v (linesK q k).length ((linesK q k).map SLine.cells).flatten) (fun _ _ _ i _ => 12 - (intOf i).toNat)
  case atStart => exact ⟨0, Nat.zero_le _, rfl, by (repeat (first | exact Below.refl _ _ | refine Below.setCell ?_ (by first | omega | (simp; omega) | (simp; done)) _ | refine Below.alloc ?_ (by first | omega | (simp; omega) | (simp; done)) _ | refine Below.drew ?_ | refine below_drewN ?_ _ | refine Below.trans ?_ (Below.mono (by assumption) (by first | omega | (simp; omega) | (simp; done))))), by rw [E0.out]; exact World.ownsRow_nil _ _ _ _⟩
  obtain ⟨k, hk, rfl, hB, hown⟩ := hrel
  have hlen := HL.out k
  by_cases hlt : k < 12
  · obtain ⟨n, S1, hx⟩ := HX.out k hlt
    have S1 := Lib.hid S1
    have hkI : (k : Int) < 12 := by omega
    have h0k : (0 : Int) ≤ k := by omega
    obtain ⟨L, hL⟩ : ∃ L, L = linesK q k := ⟨_, rfl⟩
    rw [← hL] at hown hlen S1
    have HLL := Lib.hid hL
    clear hL
    obtain ⟨A', c', rfl, h1, h2⟩ := own_form hown
    have hz := hB.size
    by_cases hn : 0 < n
    · go_wp2_with (at_builtin; go_loud (refine wpList_append_own _ rfl _ _ 50 rfl w.heap.size 64 i0 (.agg #[vi 0, vi 0]) 2 16 Tryd.underlying50 hi hy0 hy1 hy2 rfl (by decide) _ _ _ rfl (hown.alloc _) ⟨wr.heap.size, 0, none⟩ 1 1 [vi k, vi n] rfl rfl (cells_new _ _ _) (by simp [Value.oneCell']) (by unfold maxLen; omega) (by omega) (by simp; omega) ?_; intro v5 w5 hown5 hgrow5 _))
      have HB5 : Below w.heap.size w w5 := Below.grown (hB.alloc (by omega) _) hgrow5 (by simp; omega) (fun j e => (hown.lt j e).1)
      obtain ⟨A5, c5, rfl, -, -⟩ := own_form hown5
      go_roundw
      case rel =>
        refine ⟨k + 1, by omega, by go_num, HB5, ?_⟩
        rw [S1.out, if_pos hn]
        simpa [SLine.cells] using hown5
      case measure => simp [intOf]; omega
    · go_wp2_with fail
      go_roundw
      case rel =>
        refine ⟨k + 1, by omega, by go_num, hB, ?_⟩
        rw [S1.out, if_neg hn, List.append_nil]
        exact hown
      case measure => simp [intOf]; omega
  · obtain rfl : k = 12 := by omega
    rw [HA.out] at hown hlen
    obtain ⟨A', c', rfl, h1, h2, h3⟩ := own_rows (m := R.map SLine.cells) (cells_two _) hown (by simp) (by omega)
    go_wp2_with fail
    go_ret
    refine ⟨A', rfl, h3, fun b hb => ⟨(hown.lt b.block (by rw [hb]; rfl)).1, ?_⟩, hB⟩
    subst hb
    rcases hown.2 with ⟨e1, _⟩ | ⟨g, cap, cur, e1, _, e2, _⟩
    · cases e1
    · cases e1
      exact ⟨_, e2⟩
end Go.Proofs.YtomgnpfpaodpiaaDoor
/- Arrays of twelve numbers in memory; contract of pieces.without. -/
namespace Go.Proofs.YtomgnpfpaodpiaaDoor
open Go Go.RowKit
set_option maxHeartbeats 2000000
/-- an array of twelve numbers lies in a block, and can be written -/
structure ArrAt (w : World) (b : Nat) (p : List Int) : Prop where
  len : p.length = 12
  cell : ∀ j : Nat, j < 12 → w.cell? ⟨b, j, none⟩ = some (vi (p[j]?.getD 0))
  soft : ∀ j : Nat, j < 12 → w.frozen? ⟨b, j, none⟩ = false
theorem ArrAt.lt {w : World} {b : Nat} {p : List Int} (h : ArrAt w b p) : b < w.heap.size := cell_lt (h.cell 0 (by omega))
theorem ArrAt.keep {w w' : World} {b : Nat} {p : List Int} (h : ArrAt w b p) (hb : Below w.heap.size w w') : ArrAt w' b p :=
  ⟨h.len, fun j hj => cell_keep hb (h.cell j hj), fun j hj => soft_keep hb h.lt (h.soft j hj)⟩
theorem ArrAt.set {w : World} {b : Nat} {p : List Int} (h : ArrAt w b p) (k : Nat) (hk : k < 12) (n : Int) : ArrAt (w.setCell ⟨b, k, none⟩ (vi n)) b (p.set k n) := by
  refine ⟨by rw [List.length_set]; exact h.len, fun j hj => ?_, fun j hj => ?_⟩
  · have hl := h.len
    by_cases e : k = j
    · subst e
      have hc := h.cell k hk
      have hs := h.soft k hk
      simp [go_sem, hc, hs, hl, hk]
    · have hc := h.cell j hj
      simp [go_sem, hc, e, Ne.symm e]
  · have := h.soft j hj
    simp [go_sem, this]
theorem ArrAt.apart {w : World} {b b' k : Nat} {p : List Int} (h : ArrAt w b p) (hb : b' ≠ b) (v : Value) : ArrAt (w.setCell ⟨b', k, none⟩ v) b p := by
  refine ⟨h.len, fun j hj => ?_, fun j hj => ?_⟩
  · have hc := h.cell j hj
    simp [go_sem, hc, hb, Ne.symm hb]
  · have := h.soft j hj
    simp [go_sem, this]
theorem ArrAt.setAll {w : World} {b : Nat} {z : List Int} (h : ArrAt w b z) (r0 r1 r2 r3 r4 r5 r6 r7 r8 r9 r10 r11 : Int) : ArrAt ((((((((((((w.setCell ⟨b, 0, none⟩ (vi r0)).setCell ⟨b, 1, none⟩ (vi r1)).setCell ⟨b, 2, none⟩ (vi r2)).setCell ⟨b, 3, none⟩ (vi r3)).setCell ⟨b, 4, none⟩ (vi r4)).setCell ⟨b, 5, none⟩ (vi r5)).setCell ⟨b, 6, none⟩ (vi r6)).setCell ⟨b, 7, none⟩ (vi r7)).setCell ⟨b, 8, none⟩ (vi r8)).setCell ⟨b, 9, none⟩ (vi r9)).setCell ⟨b, 10, none⟩ (vi r10)).setCell ⟨b, 11, none⟩ (vi r11)) b [r0, r1, r2, r3, r4, r5, r6, r7, r8, r9, r10, r11] := by
  obtain ⟨z0, z1, z2, z3, z4, z5, z6, z7, z8, z9, z10, z11, rfl⟩ := spread h.len
  exact ((((((((((((h.set 0 (by omega) r0).set 1 (by omega) r1).set 2 (by omega) r2).set 3 (by omega) r3).set 4 (by omega) r4).set 5 (by omega) r5).set 6 (by omega) r6).set 7 (by omega) r7).set 8 (by omega) r8).set 9 (by omega) r9).set 10 (by omega) r10).set 11 (by omega) r11)
theorem ArrAt.setBoth {w a : World} {b B : Nat} {z : List Int} (h : ArrAt w b z) (hB : Below B a w) (hb : B ≤ b) (r0 r1 r2 r3 r4 r5 r6 r7 r8 r9 r10 r11 : Int) : ArrAt ((((((((((((w.setCell ⟨b, 0, none⟩ (vi r0)).setCell ⟨b, 1, none⟩ (vi r1)).setCell ⟨b, 2, none⟩ (vi r2)).setCell ⟨b, 3, none⟩ (vi r3)).setCell ⟨b, 4, none⟩ (vi r4)).setCell ⟨b, 5, none⟩ (vi r5)).setCell ⟨b, 6, none⟩ (vi r6)).setCell ⟨b, 7, none⟩ (vi r7)).setCell ⟨b, 8, none⟩ (vi r8)).setCell ⟨b, 9, none⟩ (vi r9)).setCell ⟨b, 10, none⟩ (vi r10)).setCell ⟨b, 11, none⟩ (vi r11)) b [r0, r1, r2, r3, r4, r5, r6, r7, r8, r9, r10, r11] ∧ Below B a ((((((((((((w.setCell ⟨b, 0, none⟩ (vi r0)).setCell ⟨b, 1, none⟩ (vi r1)).setCell ⟨b, 2, none⟩ (vi r2)).setCell ⟨b, 3, none⟩ (vi r3)).setCell ⟨b, 4, none⟩ (vi r4)).setCell ⟨b, 5, none⟩ (vi r5)).setCell ⟨b, 6, none⟩ (vi r6)).setCell ⟨b, 7, none⟩ (vi r7)).setCell ⟨b, 8, none⟩ (vi r8)).setCell ⟨b, 9, none⟩ (vi r9)).setCell ⟨b, 10, none⟩ (vi r10)).setCell ⟨b, 11, none⟩ (vi r11)) := ⟨h.setAll r0 r1 r2 r3 r4 r5 r6 r7 r8 r9 r10 r11, ((((((((((((hB.setCell hb _).setCell hb _).setCell hb _).setCell hb _).setCell hb _).setCell hb _).setCell hb _).setCell hb _).setCell hb _).setCell hb _).setCell hb _).setCell hb _)⟩
theorem ArrAt.cells {w : World} {b : Nat} {r0 r1 r2 r3 r4 r5 r6 r7 r8 r9 r10 r11 : Int} (h : ArrAt w b [r0, r1, r2, r3, r4, r5, r6, r7, r8, r9, r10, r11]) : w.cell? ⟨b, 0, none⟩ = some (vi r0) ∧ w.cell? ⟨b, 1, none⟩ = some (vi r1) ∧ w.cell? ⟨b, 2, none⟩ = some (vi r2) ∧ w.cell? ⟨b, 3, none⟩ = some (vi r3) ∧ w.cell? ⟨b, 4, none⟩ = some (vi r4) ∧ w.cell? ⟨b, 5, none⟩ = some (vi r5) ∧ w.cell? ⟨b, 6, none⟩ = some (vi r6) ∧ w.cell? ⟨b, 7, none⟩ = some (vi r7) ∧ w.cell? ⟨b, 8, none⟩ = some (vi r8) ∧ w.cell? ⟨b, 9, none⟩ = some (vi r9) ∧ w.cell? ⟨b, 10, none⟩ = some (vi r10) ∧ w.cell? ⟨b, 11, none⟩ = some (vi r11) := ⟨h.cell 0 (by omega), h.cell 1 (by omega), h.cell 2 (by omega), h.cell 3 (by omega), h.cell 4 (by omega), h.cell 5 (by omega), h.cell 6 (by omega), h.cell 7 (by omega), h.cell 8 (by omega), h.cell 9 (by omega), h.cell 10 (by omega), h.cell 11 (by omega)⟩
theorem ArrAt.softs {w : World} {b : Nat} {z : List Int} (h : ArrAt w b z) : w.frozen? ⟨b, 0, none⟩ = false ∧ w.frozen? ⟨b, 1, none⟩ = false ∧ w.frozen? ⟨b, 2, none⟩ = false ∧ w.frozen? ⟨b, 3, none⟩ = false ∧ w.frozen? ⟨b, 4, none⟩ = false ∧ w.frozen? ⟨b, 5, none⟩ = false ∧ w.frozen? ⟨b, 6, none⟩ = false ∧ w.frozen? ⟨b, 7, none⟩ = false ∧ w.frozen? ⟨b, 8, none⟩ = false ∧ w.frozen? ⟨b, 9, none⟩ = false ∧ w.frozen? ⟨b, 10, none⟩ = false ∧ w.frozen? ⟨b, 11, none⟩ = false := ⟨h.soft 0 (by omega), h.soft 1 (by omega), h.soft 2 (by omega), h.soft 3 (by omega), h.soft 4 (by omega), h.soft 5 (by omega), h.soft 6 (by omega), h.soft 7 (by omega), h.soft 8 (by omega), h.soft 9 (by omega), h.soft 10 (by omega), h.soft 11 (by omega)⟩
theorem arr_new {w : World} {b : Nat} {r0 r1 r2 r3 r4 r5 r6 r7 r8 r9 r10 r11 : Int} (h : w.cell? ⟨b, 0, none⟩ = some (vi r0) ∧ w.cell? ⟨b, 1, none⟩ = some (vi r1) ∧ w.cell? ⟨b, 2, none⟩ = some (vi r2) ∧ w.cell? ⟨b, 3, none⟩ = some (vi r3) ∧ w.cell? ⟨b, 4, none⟩ = some (vi r4) ∧ w.cell? ⟨b, 5, none⟩ = some (vi r5) ∧ w.cell? ⟨b, 6, none⟩ = some (vi r6) ∧ w.cell? ⟨b, 7, none⟩ = some (vi r7) ∧ w.cell? ⟨b, 8, none⟩ = some (vi r8) ∧ w.cell? ⟨b, 9, none⟩ = some (vi r9) ∧ w.cell? ⟨b, 10, none⟩ = some (vi r10) ∧ w.cell? ⟨b, 11, none⟩ = some (vi r11)) (s : w.frozen? ⟨b, 0, none⟩ = false ∧ w.frozen? ⟨b, 1, none⟩ = false ∧ w.frozen? ⟨b, 2, none⟩ = false ∧ w.frozen? ⟨b, 3, none⟩ = false ∧ w.frozen? ⟨b, 4, none⟩ = false ∧ w.frozen? ⟨b, 5, none⟩ = false ∧ w.frozen? ⟨b, 6, none⟩ = false ∧ w.frozen? ⟨b, 7, none⟩ = false ∧ w.frozen? ⟨b, 8, none⟩ = false ∧ w.frozen? ⟨b, 9, none⟩ = false ∧ w.frozen? ⟨b, 10, none⟩ = false ∧ w.frozen? ⟨b, 11, none⟩ = false) : ArrAt w b [r0, r1, r2, r3, r4, r5, r6, r7, r8, r9, r10, r11] := by
  refine ⟨rfl, fun j hj => ?_, fun j hj => ?_⟩
  all_goals
    have hk : j = 0 ∨ j = 1 ∨ j = 2 ∨ j = 3 ∨ j = 4 ∨ j = 5 ∨ j = 6 ∨ j = 7 ∨ j = 8 ∨ j = 9 ∨ j = 10 ∨ j = 11 := by omega
    rcases hk with rfl | rfl | rfl | rfl | rfl | rfl | rfl | rfl | rfl | rfl | rfl | rfl <;> simp [h, s]
end Go.Proofs.YtomgnpfpaodpiaaDoor
/- Contract of pieces.without. -/
namespace Go.Proofs.YtomgnpfpaodpiaaDoor
open Go Go.RowKit
set_option maxHeartbeats 2000000
def withoutK (p q : List Int) : Nat → List Int
  | 0 => p
  | k + 1 => (withoutK p q k).set k (p[k]?.getD 0 - q[k]?.getD 0)
theorem withoutK_at (p q : List Int) : ∀ (k j : Nat), k ≤ j → (withoutK p q k)[j]? = p[j]?
  | 0, _, _ => rfl
  | k + 1, j, h => by rw [withoutK, List.getElem?_set_ne (by omega), withoutK_at p q k j (by omega)]
theorem withoutK_all {p q : List Int} (hp : p.length = 12) (hq : q.length = 12) : withoutK p q 12 = withoutF p q := by
  obtain ⟨n0, n1, n2, n3, n4, n5, n6, n7, n8, n9, n10, n11, rfl⟩ := spread hp
  obtain ⟨m0, m1, m2, m3, m4, m5, m6, m7, m8, m9, m10, m11, rfl⟩ := spread hq
  simp [withoutK, withoutF]
theorem without_any (p q : List Int) (hp : p.length = 12) (hq : q.length = 12) (hpb : ∀ n ∈ p, -1152921504606846976 ≤ n ∧ n ≤ 1152921504606846976) (hqb : ∀ n ∈ q, -1000000 ≤ n ∧ n ≤ 1000000) (w : World) :
    Calls Tryd.prog 88 #[piecesV p, piecesV q] w fun e w' => e = .returned (piecesV (withoutF p q)) ∧ Below w.heap.size w w' := by
  have HX : Hid (∀ k : Nat, k < 12 → ∃ m n : Int, (-1152921504606846976 ≤ m ∧ m ≤ 1152921504606846976) ∧ (-1000000 ≤ n ∧ n ≤ 1000000) ∧ withoutK p q (k + 1) = (withoutK p q k).set k (m - n) ∧ (withoutK p q k)[k]?.getD 0 = m ∧ ∀ w, (Instr.index 102 (.agg (q.map vi).toArray) (.int .i64 k)).run Tryd.prog w = .ok (vi n) w) := fun k hk => by
    have h1 : p[k]? = some p[k] := List.getElem?_eq_getElem (by omega)
    have h2 : q[k]? = some q[k] := List.getElem?_eq_getElem (by omega)
    refine ⟨p[k], q[k], hpb _ (List.getElem_mem _), hqb _ (List.getElem_mem _), by rw [withoutK, h1, h2]; rfl, by rw [withoutK_at p q k k (Nat.le_refl _), h1]; rfl, fun w => ?_⟩
    have := idx12 hq k hk w
    rwa [h2] at this
  have HA := Lib.hid (withoutK_all hp hq)
  have HP0 : Hid (withoutK p q 0 = p) := rfl
  obtain ⟨R, hR⟩ : ∃ R, R = withoutF p q := ⟨_, rfl⟩
  obtain ⟨S, hS⟩ : ∃ S, S = withoutK p q := ⟨_, rfl⟩
  obtain ⟨V, hV⟩ : ∃ V, V = (q.map vi).toArray := ⟨_, rfl⟩
  have HV := Lib.hid hV
  have HPL := Lib.hid hp
  rw [← hR] at HA ⊢
  rw [← hS] at HX HA HP0
  rw [← hV] at HX
  clear hR hS hV hpb hqb
  obtain ⟨m0, m1, m2, m3, m4, m5, m6, m7, m8, m9, m10, m11, rfl⟩ := spread hq
  obtain ⟨n0, n1, n2, n3, n4, n5, n6, n7, n8, n9, n10, n11, hpp⟩ := spread hp
  rw [hpp] at HPL HP0 ⊢
  clear hp hq hpp
  show Calls Tryd.prog 88 #[.agg #[vi n0, vi n1, vi n2, vi n3, vi n4, vi n5, vi n6, vi n7, vi n8, vi n9, vi n10, vi n11], .agg #[vi m0, vi m1, vi m2, vi m3, vi m4, vi m5, vi m6, vi m7, vi m8, vi m9, vi m10, vi m11]] w _
  go_enter Tryd.func88, Tryd.ntmps88
  go_wp2_with fail
  have hfold : #[vi m0, vi m1, vi m2, vi m3, vi m4, vi m5, vi m6, vi m7, vi m8, vi m9, vi m10, vi m11] = V := by rw [HV.out]; rfl
  rw [hfold]
  clear hfold HV
  go_loopw [5, 6, 8] (fun x y i wr => ∃ k : Nat, k ≤ 12 ∧ i = .int .i64 k ∧ Below w.heap.size w wr ∧ ArrAt wr w.heap.size (S k) ∧ ArrAt wr (w.heap.size + 2) [0, 0, 0, 0, 0, 0, 0, 0, 0, 0, 0, 0]) (fun _ _ i _ => 12 - (intOf i).toNat)
  case atStart =>
    refine ⟨0, Nat.zero_le _, rfl, by (repeat (first | exact Below.refl _ _ | refine Below.setCell ?_ (by first | omega | (simp; omega) | (simp; done)) _ | refine Below.alloc ?_ (by first | omega | (simp; omega) | (simp; done)) _ | refine Below.drew ?_ | refine below_drewN ?_ _ | refine Below.trans ?_ (Below.mono (by assumption) (by first | omega | (simp; omega) | (simp; done))))), ?_, ?_⟩
    · rw [HP0.out]
      refine ⟨rfl, fun j hj => ?_, fun j hj => ?_⟩
      all_goals
        have hk : j = 0 ∨ j = 1 ∨ j = 2 ∨ j = 3 ∨ j = 4 ∨ j = 5 ∨ j = 6 ∨ j = 7 ∨ j = 8 ∨ j = 9 ∨ j = 10 ∨ j = 11 := by omega
        rcases hk with rfl | rfl | rfl | rfl | rfl | rfl | rfl | rfl | rfl | rfl | rfl | rfl <;> simp [go_sem]
    · refine ⟨rfl, fun j hj => ?_, fun j hj => ?_⟩
      all_goals
        have hk : j = 0 ∨ j = 1 ∨ j = 2 ∨ j = 3 ∨ j = 4 ∨ j = 5 ∨ j = 6 ∨ j = 7 ∨ j = 8 ∨ j = 9 ∨ j = 10 ∨ j = 11 := by omega
        rcases hk with rfl | rfl | rfl | rfl | rfl | rfl | rfl | rfl | rfl | rfl | rfl | rfl <;> simp [go_sem]
  obtain ⟨k, hk, rfl, hB, hX, hY⟩ := hrel
  by_cases hlt : k < 12
  · obtain ⟨m, n, ⟨m1, m2⟩, ⟨n1, n2⟩, S1, S2, hx⟩ := HX.out k hlt
    have hkI : (k : Int) < 12 := by omega
    have h0k : (0 : Int) ≤ k := by omega
    have c0 := hX.cell k hlt
    rw [S2] at c0
    have f0 := hX.soft k hlt
    have S1 := Lib.hid S1
    have HXX := Lib.hid hX
    have HYY := Lib.hid hY
    have hz := hX.lt
    clear hX hY S2
    go_wp2_with fail
    go_roundw
    case rel =>
      refine ⟨k + 1, by omega, by go_num, by (repeat (first | exact Below.refl _ _ | refine Below.setCell ?_ (by first | omega | (simp; omega) | (simp; done)) _ | refine Below.alloc ?_ (by first | omega | (simp; omega) | (simp; done)) _ | refine Below.drew ?_ | refine below_drewN ?_ _ | refine Below.trans ?_ (Below.mono (by assumption) (by first | omega | (simp; omega) | (simp; done))))), ?_, HYY.out.apart (by omega) _⟩
      rw [S1.out]
      exact HXX.out.set k hlt _
    case measure => simp [intOf]; omega
  · obtain rfl : k = 12 := by omega
    rw [HA.out] at hX
    clear HX HA HP0 HPL
    obtain ⟨r0, r1, r2, r3, r4, r5, r6, r7, r8, r9, r10, r11, rfl⟩ := spread hX.len
    obtain ⟨c0, c1, c2, c3, c4, c5, c6, c7, c8, c9, c10, c11⟩ := hX.cells
    obtain ⟨d0, d1, d2, d3, d4, d5, d6, d7, d8, d9, d10, d11⟩ := hY.cells
    obtain ⟨e0, e1, e2, e3, e4, e5, e6, e7, e8, e9, e10, e11⟩ := hY.softs
    have HYY : Hid (ArrAt wr (w.heap.size + 1 + 1) [0, 0, 0, 0, 0, 0, 0, 0, 0, 0, 0, 0]) := hY
    clear hX hY
    go_wp2_with fail
    clear c0 c1 c2 c3 c4 c5 c6 c7 c8 c9 c10 c11 d0 d1 d2 d3 d4 d5 d6 d7 d8 d9 d10 d11 e0 e1 e2 e3 e4 e5 e6 e7 e8 e9 e10 e11
    refine (?key : ∀ W9 : World, ArrAt W9 (w.heap.size + 1 + 1) [r0, r1, r2, r3, r4, r5, r6, r7, r8, r9, r10, r11] ∧ Below w.heap.size w W9 → bodyPost _ _ _ _ _ W9) _ (HYY.out.setBoth hB (by omega) r0 r1 r2 r3 r4 r5 r6 r7 r8 r9 r10 r11)
    case key =>
      intro W9 ⟨Z, B9⟩
      obtain ⟨c0, c1, c2, c3, c4, c5, c6, c7, c8, c9, c10, c11⟩ := Z.cells
      refine bodyPost_ret (v := .agg #[vi r0, vi r1, vi r2, vi r3, vi r4, vi r5, vi r6, vi r7, vi r8, vi r9, vi r10, vi r11]) (by simp [results, Tryd.results88, go_sem, c0, c1, c2, c3, c4, c5, c6, c7, c8, c9, c10, c11]) rfl ⟨rfl, B9⟩
end Go.Proofs.YtomgnpfpaodpiaaDoor
/- Contract of piecesOf. -/
namespace Go.Proofs.YtomgnpfpaodpiaaDoor
open Go Go.RowKit
set_option maxHeartbeats 2000000
theorem ArrAt.drew {w : World} {b : Nat} {p : List Int} (h : ArrAt w b p) : ArrAt w.drew b p := ⟨h.len, fun j hj => by simpa [go_sem] using h.cell j hj, fun j hj => by simpa [go_sem] using h.soft j hj⟩
theorem ArrAt.alloc {w : World} {b : Nat} {p : List Int} (h : ArrAt w b p) (o : Obj) : ArrAt (w.alloc o) b p := h.keep ((Below.refl _ w).alloc (Nat.le_refl _) o)
/-- lines whose pieces can be counted -/
structure LinesOk (l : List SLine) : Prop where
  few : l.length ≤ 1000
  each : ∀ x ∈ l, 0 ≤ x.shelf ∧ x.shelf < 12 ∧ 0 ≤ x.many ∧ x.many ≤ 1000
def piecesK (l : List SLine) (k : Nat) : List Int := piecesF (l.take k)
theorem piecesK_succ {l : List SLine} {k : Nat} {x : SLine} (h : l[k]? = some x) : piecesK l (k + 1) = (piecesK l k).set x.shelf.toNat ((piecesK l k)[x.shelf.toNat]?.getD 0 + x.many) := by
  obtain ⟨hk, rfl⟩ := List.getElem?_eq_some_iff.1 h
  unfold piecesK piecesF
  rw [List.take_succ_eq_append_getElem hk, List.foldl_append]
  rfl
theorem piecesK_all (l : List SLine) : piecesK l l.length = piecesF l := by unfold piecesK; rw [List.take_length]
theorem piecesK_ok {l : List SLine} (h : LinesOk l) : ∀ k : Nat, k ≤ l.length → Twelve (1000 * (k : Int)) (piecesK l k)
  | 0, _ => by simpa [piecesK, piecesF] using twelve_zero
  | k + 1, hk => by
    have ih := piecesK_ok h k (by omega)
    have hx : l[k]? = some l[k] := List.getElem?_eq_getElem (by omega)
    obtain ⟨h1, h2, h3, h4⟩ := h.each _ (List.getElem_mem (by omega : k < l.length))
    obtain ⟨n, e, g1, g2⟩ := ih.at_ (k := l[k].shelf.toNat) (by omega)
    rw [piecesK_succ hx, e]
    refine (ih.wide (by omega)).set ?_ ?_ _
    · simp only [Option.getD_some]; omega
    · simp only [Option.getD_some]; omega
theorem piecesOf_any (A : Option Addr) (cap : Nat) (l : List SLine) (hok : LinesOk l) (w : World) (h : SLinesAt w w.heap.size A l.length l) :
    Calls Tryd.prog 86 #[.slice A l.length cap] w fun e w' => e = .returned (piecesV (piecesF l)) ∧ Below w.heap.size w w' := by
  have hll := h.lens
  have HH := Lib.hid h
  have HA := Lib.hid (piecesK_all l)
  have HP0 : Hid (piecesK l 0 = [0, 0, 0, 0, 0, 0, 0, 0, 0, 0, 0, 0]) := rfl
  have HX : Hid (∀ (k : Nat) (x : SLine), l[k]? = some x → ∃ (s : Nat) (n : Int), x.shelf = s ∧ s < 12 ∧ (piecesK l k)[s]?.getD 0 = n ∧ (0 ≤ n ∧ n ≤ 1000000) ∧ (0 ≤ x.many ∧ x.many ≤ 1000) ∧ piecesK l (k + 1) = (piecesK l k).set s (n + x.many)) := fun k x hx => by
    have hk := (List.getElem?_eq_some_iff.1 hx).1
    obtain ⟨h1, h2, h3, h4⟩ := hok.each x (List.mem_of_getElem? hx)
    have hf := hok.few
    have ih := piecesK_ok hok k (by omega)
    obtain ⟨n, e, g1, g2⟩ := ih.at_ (k := x.shelf.toNat) (by omega)
    have S := piecesK_succ hx
    rw [e] at S
    exact ⟨x.shelf.toNat, n, by omega, by omega, by rw [e]; rfl, ⟨g1, by omega⟩, ⟨h3, h4⟩, S⟩
  obtain ⟨R, hR⟩ : ∃ R, R = piecesF l := ⟨_, rfl⟩
  obtain ⟨S, hS⟩ : ∃ S, S = piecesK l := ⟨_, rfl⟩
  rw [← hR] at HA ⊢
  rw [← hS] at HX HA HP0
  clear hR hS h hok
  go_enter Tryd.func86, Tryd.ntmps86
  go_wp2_with fail
  go_loopw [5, 8] (fun x i wr => ∃ k : Nat, k ≤ l.length ∧ i = .int .i64 k ∧ Below w.heap.size w wr ∧ ArrAt wr (w.heap.size + 1) (S k) ∧ ArrAt wr w.heap.size [0, 0, 0, 0, 0, 0, 0, 0, 0, 0, 0, 0]) (fun _ i _ => l.length - (intOf i).toNat)
  case atStart =>
    refine ⟨0, Nat.zero_le _, rfl, by (repeat (first | exact Below.refl _ _ | refine Below.setCell ?_ (by first | omega | (simp; omega) | (simp; done)) _ | refine Below.alloc ?_ (by first | omega | (simp; omega) | (simp; done)) _ | refine Below.drew ?_ | refine below_drewN ?_ _ | refine Below.trans ?_ (Below.mono (by assumption) (by first | omega | (simp; omega) | (simp; done))))), ?_, ?_⟩
    · rw [HP0.out]
      exact arr_new (by simp [go_sem]) (by simp [go_sem])
    · exact arr_new (by simp [go_sem]) (by simp [go_sem])
  obtain ⟨k, hk, rfl, hB, hX, hY⟩ := hrel
  by_cases hlt : k < l.length
  · obtain ⟨x, hx⟩ : ∃ x, l[k]? = some x := ⟨_, List.getElem?_eq_getElem hlt⟩
    obtain ⟨s, n, hs, s12, hn, ⟨n1, n2⟩, ⟨m1, m2⟩, S1⟩ := HX.out k x hx
    obtain ⟨bb, off, rfl, hbb, x0, x1⟩ := row2 (HH.out.to hB).row hx rfl
    obtain ⟨xs, xm⟩ := x
    simp only at hs m1 m2 S1 x0 x1
    subst hs
    have hkI : (k : Int) < l.length := by omega
    have h0k : (0 : Int) ≤ k := by omega
    have hsI : (s : Int) < 12 := by omega
    have h0s : (0 : Int) ≤ s := by omega
    have c0 := hX.cell s s12
    rw [hn] at c0
    have f0 := hX.soft s s12
    have S1 := Lib.hid S1
    have HXX := Lib.hid hX
    have HYY := Lib.hid hY
    have hz := hX.lt
    have zbb : bb < wr.heap.size := cell_lt x0
    clear hX hY hn hx
    go_wp2_with fail
    have d1 : ¬ (wr.heap.size = w.heap.size + 1) := by omega
    have d2 : ¬ (w.heap.size + 1 = wr.heap.size) := by omega
    go_region_with fail
    all_goals go_wp2_with fail
    all_goals go_roundw
    all_goals first
      | (simp [intOf]; omega)
      | (refine ⟨k + 1, by omega, by go_num, by (repeat (first | exact Below.refl _ _ | refine Below.setCell ?_ (by first | omega | (simp; omega) | (simp; done)) _ | refine Below.alloc ?_ (by first | omega | (simp; omega) | (simp; done)) _ | refine Below.drew ?_ | refine below_drewN ?_ _ | refine Below.trans ?_ (Below.mono (by assumption) (by first | omega | (simp; omega) | (simp; done))))), ?_, ?_⟩
         · rw [S1.out]
           repeat (first | exact HXX.out.set s s12 _ | refine ArrAt.drew ?_ | refine ArrAt.alloc ?_ _)
         · repeat (first | exact HYY.out.apart (by omega) _ | refine ArrAt.drew ?_ | refine ArrAt.alloc ?_ _))
  · obtain rfl : k = l.length := by omega
    rw [HA.out] at hX
    clear HX HA HP0
    obtain ⟨r0, r1, r2, r3, r4, r5, r6, r7, r8, r9, r10, r11, rfl⟩ := spread hX.len
    obtain ⟨c0, c1, c2, c3, c4, c5, c6, c7, c8, c9, c10, c11⟩ := hX.cells
    obtain ⟨d0, d1, d2, d3, d4, d5, d6, d7, d8, d9, d10, d11⟩ := hY.cells
    obtain ⟨e0, e1, e2, e3, e4, e5, e6, e7, e8, e9, e10, e11⟩ := hY.softs
    have HYY := Lib.hid hY
    clear hX hY
    go_wp2_with fail
    clear c0 c1 c2 c3 c4 c5 c6 c7 c8 c9 c10 c11 d0 d1 d2 d3 d4 d5 d6 d7 d8 d9 d10 d11 e0 e1 e2 e3 e4 e5 e6 e7 e8 e9 e10 e11
    refine (?key : ∀ W9 : World, ArrAt W9 w.heap.size [r0, r1, r2, r3, r4, r5, r6, r7, r8, r9, r10, r11] ∧ Below w.heap.size w W9 → bodyPost _ _ _ _ _ W9) _ (HYY.out.setBoth hB (by omega) r0 r1 r2 r3 r4 r5 r6 r7 r8 r9 r10 r11)
    case key =>
      intro W9 ⟨Z, B9⟩
      obtain ⟨c0, c1, c2, c3, c4, c5, c6, c7, c8, c9, c10, c11⟩ := Z.cells
      refine bodyPost_ret (v := .agg #[vi r0, vi r1, vi r2, vi r3, vi r4, vi r5, vi r6, vi r7, vi r8, vi r9, vi r10, vi r11]) (by simp [results, Tryd.results86, go_sem, c0, c1, c2, c3, c4, c5, c6, c7, c8, c9, c10, c11]) rfl ⟨rfl, B9⟩
end Go.Proofs.YtomgnpfpaodpiaaDoor
/- Contract of floor.farthest. -/
namespace Go.Proofs.YtomgnpfpaodpiaaDoor
open Go Go.RowKit
set_option maxHeartbeats 2000000
theorem last_is {p : List Int} {o : Option Nat} (ho : lastF p = o) (hp : p.length = 12) (w : World) :
    Calls Tryd.prog 113 #[piecesV p] w fun e w' => e = .returned (.tuple #[vi (lastI o), .bool o.isSome]) ∧ Below w.heap.size w w' := by
  subst ho
  exact last_any p hp w
theorem move_cases {p : List Int} {m : Int} (hp : Twelve m p) (k : Nat) : lastF (movesF k p).1 = none ∨ ∃ (s : Nat) (n r : Int), lastF (movesF k p).1 = some s ∧ s < 12 ∧ (movesF k p).1[s]?.getD 0 = n ∧ (1 ≤ n ∧ n ≤ m) ∧ (movesF k p).2[s]?.getD 0 = r ∧ (0 ≤ r ∧ r ≤ k) ∧ (movesF (k + 1) p).1 = (movesF k p).1.set s (n - 1) ∧ (movesF (k + 1) p).2 = (movesF k p).2.set s (r + 1) := by
  obtain ⟨h1, h2, -⟩ := moves_ok hp k
  have h3 := lastF_is (movesF k p).1
  cases hl : lastF (movesF k p).1 with
  | none => exact .inl rfl
  | some s =>
    rw [hl] at h3
    obtain ⟨⟨n, e, hn⟩, -⟩ := h3
    have hs : s < 12 := by have := (List.getElem?_eq_some_iff.1 e).1; rw [h1.len] at this; exact this
    obtain ⟨n', e', g1, g2⟩ := h1.at_ hs
    obtain ⟨r, e2, g3, g4⟩ := h2.at_ hs
    rw [e] at e'
    cases e'
    refine .inr ⟨s, n, r, rfl, hs, by rw [e]; rfl, ⟨by omega, g2⟩, by rw [e2]; rfl, ⟨g3, g4⟩, ?_, ?_⟩
    · rw [movesF_succ]; unfold moveF; rw [hl]; simp [e]
    · rw [movesF_succ]; unfold moveF; rw [hl]; simp [e2]
theorem farthest_any (f : Floor) (c : Nat) (hc : f.carry = c) (hc1 : c ≤ 1000) (p : List Int) (hp : Twelve 1000000 p) (w : World) :
    Calls Tryd.prog 95 #[f.val, piecesV p] w fun e w' => e = .returned (piecesV (farthestF c p)) ∧ Below w.heap.size w w' := by
  have HX : Hid (∀ k, _) := fun k => move_cases hp k
  have HL : Hid (∀ k, ((movesF k p).1.length = 12)) := fun k => (moves_ok hp k).1.len
  have HEND : Hid (∀ k, k ≤ c → lastF (movesF k p).1 = none → (movesF k p).2 = farthestF c p) := fun k hk h => by
    have := moves_stop h (c - k)
    rw [show k + (c - k) = c by omega] at this
    rw [farthest_is, this]
  have HA : Hid ((movesF c p).2 = farthestF c p) := rfl
  have HP0 : Hid ((movesF 0 p).1 = p) := rfl
  have HQ0 : Hid ((movesF 0 p).2 = [0, 0, 0, 0, 0, 0, 0, 0, 0, 0, 0, 0]) := rfl
  have LAST := Lib.hid (fun (q : List Int) (o : Option Nat) (ho : lastF q = o) (hq : q.length = 12) (W : World) => last_is ho hq W)
  obtain ⟨R, hR⟩ : ∃ R, R = farthestF c p := ⟨_, rfl⟩
  obtain ⟨S, hS⟩ : ∃ S, S = fun k => (movesF k p).1 := ⟨_, rfl⟩
  obtain ⟨T, hT⟩ : ∃ T, T = fun k => (movesF k p).2 := ⟨_, rfl⟩
  have eS : ∀ k, (movesF k p).1 = S k := fun k => by rw [hS]
  have eT : ∀ k, (movesF k p).2 = T k := fun k => by rw [hT]
  simp only [eS, eT] at HX HL HEND HA HP0 HQ0
  rw [← hR] at HEND HA ⊢
  clear eS eT hS hT hR
  obtain ⟨n0, n1, n2, n3, n4, n5, n6, n7, n8, n9, n10, n11, hpp⟩ := spread hp.len
  rw [hpp] at HP0 ⊢
  clear hpp hp
  obtain ⟨fA, fC, ff, slo, shi, pA, pC, fp, fc, sA, sC, fs⟩ := f
  simp only at hc
  subst hc
  show Calls Tryd.prog 95 #[.agg #[.slice fA ff.length fC, vi slo, vi shi, .slice pA fp.length pC, vi c, .slice sA fs.length sC], .agg #[vi n0, vi n1, vi n2, vi n3, vi n4, vi n5, vi n6, vi n7, vi n8, vi n9, vi n10, vi n11]] w _
  go_enter Tryd.func95, Tryd.ntmps95
  go_wp2_with fail
  go_loopw [6, 7, 11] (fun x y i wr => ∃ k : Nat, k ≤ c ∧ i = .int .i64 k ∧ Below w.heap.size w wr ∧ ArrAt wr (w.heap.size + 1) (S k) ∧ ArrAt wr (w.heap.size + 3) (T k) ∧ ArrAt wr (w.heap.size + 2) [0, 0, 0, 0, 0, 0, 0, 0, 0, 0, 0, 0]) (fun _ _ i _ => c - (intOf i).toNat)
  case atStart =>
    refine ⟨0, Nat.zero_le _, rfl, by (repeat (first | exact Below.refl _ _ | refine Below.setCell ?_ (by first | omega | (simp; omega) | (simp; done)) _ | refine Below.alloc ?_ (by first | omega | (simp; omega) | (simp; done)) _ | refine Below.drew ?_ | refine below_drewN ?_ _ | refine Below.trans ?_ (Below.mono (by assumption) (by first | omega | (simp; omega) | (simp; done))))), ?_, ?_, ?_⟩
    · rw [HP0.out]
      exact arr_new (by simp [go_sem]) (by simp [go_sem])
    · rw [HQ0.out]
      exact arr_new (by simp [go_sem]) (by simp [go_sem])
    · exact arr_new (by simp [go_sem]) (by simp [go_sem])
  obtain ⟨k, hk, rfl, hB, hX, hY, hZ⟩ := hrel
  by_cases hlt : k < c
  · obtain ⟨m0, m1, m2, m3, m4, m5, m6, m7, m8, m9, m10, m11, hM⟩ := spread (HL.out k)
    have hX2 := hX
    rw [hM] at hX2
    obtain ⟨c0, c1, c2, c3, c4, c5, c6, c7, c8, c9, c10, c11⟩ := hX2.cells
    have hkI : (k : Int) < c := by omega
    have hz := hX.lt
    have HXX := Lib.hid hX
    have HYY := Lib.hid hY
    have HZZ := Lib.hid hZ
    rcases HX.out k with ho | ⟨s, n, r, ho, s12, hn, ⟨n1, n2⟩, hr, ⟨r1, r2⟩, S1, T1⟩
    · have hR := HEND.out k hk ho
      rw [hM] at ho
      have HO := Lib.hid ho
      have HRR := Lib.hid hR
      clear hX hY hZ hX2 hM ho hR
      go_wp2_with fail
      refine (LAST.out [m0, m1, m2, m3, m4, m5, m6, m7, m8, m9, m10, m11] _ HO.out rfl _).mono ?_
      rintro e W2 ⟨rfl, hb2⟩
      have HB2 : Below w.heap.size w W2 := hB.trans (hb2.mono hB.size)
      have hX := HXX.out.keep hb2
      have hY := HYY.out.keep hb2
      have hZ := HZZ.out.keep hb2
      rw [HRR.out] at hY
      clear hb2 c0 c1 c2 c3 c4 c5 c6 c7 c8 c9 c10 c11 HXX HYY HZZ HX HL HEND HA HP0 HQ0 HRR HO LAST
      obtain ⟨r0, r1, r2, r3, r4, r5, r6, r7, r8, r9, r10, r11, rfl⟩ := spread hY.len
      obtain ⟨c0, c1, c2, c3, c4, c5, c6, c7, c8, c9, c10, c11⟩ := hY.cells
      obtain ⟨d0, d1, d2, d3, d4, d5, d6, d7, d8, d9, d10, d11⟩ := hZ.cells
      obtain ⟨e0, e1, e2, e3, e4, e5, e6, e7, e8, e9, e10, e11⟩ := hZ.softs
      have HZZ : Hid (ArrAt W2 (w.heap.size + 1 + 1) [0, 0, 0, 0, 0, 0, 0, 0, 0, 0, 0, 0]) := hZ
      clear hX hY hZ
      go_wp2_with fail
      clear c0 c1 c2 c3 c4 c5 c6 c7 c8 c9 c10 c11 d0 d1 d2 d3 d4 d5 d6 d7 d8 d9 d10 d11 e0 e1 e2 e3 e4 e5 e6 e7 e8 e9 e10 e11
      refine (?key : ∀ W9 : World, ArrAt W9 (w.heap.size + 1 + 1) [r0, r1, r2, r3, r4, r5, r6, r7, r8, r9, r10, r11] ∧ Below w.heap.size w W9 → bodyPost _ _ _ _ _ W9) _ (HZZ.out.setBoth HB2 (by omega) r0 r1 r2 r3 r4 r5 r6 r7 r8 r9 r10 r11)
      case key =>
        intro W9 ⟨Z, B9⟩
        obtain ⟨c0, c1, c2, c3, c4, c5, c6, c7, c8, c9, c10, c11⟩ := Z.cells
        refine bodyPost_ret (v := .agg #[vi r0, vi r1, vi r2, vi r3, vi r4, vi r5, vi r6, vi r7, vi r8, vi r9, vi r10, vi r11]) (by simp [results, Tryd.results95, go_sem, c0, c1, c2, c3, c4, c5, c6, c7, c8, c9, c10, c11]) rfl ⟨rfl, B9⟩
    · rw [hM] at ho
      have HO := Lib.hid ho
      have S1 := Lib.hid S1
      have T1 := Lib.hid T1
      have hcS := hX.cell s s12
      have hcT := hY.cell s s12
      have hfS := hX.soft s s12
      have hfT := hY.soft s s12
      rw [hn] at hcS
      rw [hr] at hcT
      have hsI : (s : Int) < 12 := by omega
      have h0s : (0 : Int) ≤ s := by omega
      clear hX hY hZ hX2 hM ho hn hr HX HL HEND HA HP0 HQ0
      go_wp2_with fail
      refine (LAST.out [m0, m1, m2, m3, m4, m5, m6, m7, m8, m9, m10, m11] _ HO.out rfl _).mono ?_
      rintro e W2 ⟨rfl, hb2⟩
      have HB2 : Below w.heap.size w W2 := hB.trans (hb2.mono hB.size)
      have HXX2 := Lib.hid (HXX.out.keep hb2)
      have HYY2 := Lib.hid (HYY.out.keep hb2)
      have HZZ2 := Lib.hid (HZZ.out.keep hb2)
      have k1 := cell_keep hb2 hcS
      have k2 := cell_keep hb2 hcT
      have f1 := soft_keep hb2 (by omega) hfS
      have f2 := soft_keep hb2 (by have := HYY.out.lt; simpa using this) hfT
      have hz2 := HXX2.out.lt
      have hz3 := HYY2.out.lt
      clear hb2 c0 c1 c2 c3 c4 c5 c6 c7 c8 c9 c10 c11 hcS hcT hfS hfT HXX HYY HZZ LAST HO
      rw [show lastI (some s) = (s : Int) from rfl, show (some s).isSome = true from rfl]
      go_wp2_with fail
      go_roundw
      case rel =>
        refine ⟨k + 1, by omega, by go_num, by (repeat (first | exact Below.refl _ _ | refine Below.setCell ?_ (by first | omega | (simp; omega) | (simp; done)) _ | refine Below.alloc ?_ (by first | omega | (simp; omega) | (simp; done)) _ | refine Below.drew ?_ | refine below_drewN ?_ _ | refine Below.trans ?_ (Below.mono (by assumption) (by first | omega | (simp; omega) | (simp; done))))), ?_, ?_, (HZZ2.out.apart (by omega) _).apart (by omega) _⟩
        · rw [S1.out]
          exact (HXX2.out.set s s12 _).apart (by omega) _
        · rw [T1.out]
          exact (HYY2.out.apart (by omega) _).set s s12 _
      case measure => simp [intOf]; omega
  · obtain rfl : k = c := by omega
    rw [HA.out] at hY
    clear HX HL HEND HA HP0 HQ0 LAST
    obtain ⟨r0, r1, r2, r3, r4, r5, r6, r7, r8, r9, r10, r11, rfl⟩ := spread hY.len
    obtain ⟨c0, c1, c2, c3, c4, c5, c6, c7, c8, c9, c10, c11⟩ := hY.cells
    obtain ⟨d0, d1, d2, d3, d4, d5, d6, d7, d8, d9, d10, d11⟩ := hZ.cells
    obtain ⟨e0, e1, e2, e3, e4, e5, e6, e7, e8, e9, e10, e11⟩ := hZ.softs
    have HZZ : Hid (ArrAt wr (w.heap.size + 1 + 1) [0, 0, 0, 0, 0, 0, 0, 0, 0, 0, 0, 0]) := hZ
    clear hX hY hZ
    go_wp2_with fail
    clear c0 c1 c2 c3 c4 c5 c6 c7 c8 c9 c10 c11 d0 d1 d2 d3 d4 d5 d6 d7 d8 d9 d10 d11 e0 e1 e2 e3 e4 e5 e6 e7 e8 e9 e10 e11
    refine (?key : ∀ W9 : World, ArrAt W9 (w.heap.size + 1 + 1) [r0, r1, r2, r3, r4, r5, r6, r7, r8, r9, r10, r11] ∧ Below w.heap.size w W9 → bodyPost _ _ _ _ _ W9) _ (HZZ.out.setBoth hB (by omega) r0 r1 r2 r3 r4 r5 r6 r7 r8 r9 r10 r11)
    case key =>
      intro W9 ⟨Z, B9⟩
      obtain ⟨c0, c1, c2, c3, c4, c5, c6, c7, c8, c9, c10, c11⟩ := Z.cells
      refine bodyPost_ret (v := .agg #[vi r0, vi r1, vi r2, vi r3, vi r4, vi r5, vi r6, vi r7, vi r8, vi r9, vi r10, vi r11]) (by simp [results, Tryd.results95, go_sem, c0, c1, c2, c3, c4, c5, c6, c7, c8, c9, c10, c11]) rfl ⟨rfl, B9⟩
end Go.Proofs.YtomgnpfpaodpiaaDoor
/- Contract of floor.isTour. -/
namespace Go.Proofs.YtomgnpfpaodpiaaDoor
open Go Go.RowKit
set_option maxHeartbeats 2000000
theorem linesB_ok {n : Int} {l : List SLine} (h : linesB n l = true) : 1 ≤ l.length ∧ l.length ≤ 12 ∧ ∀ (k : Nat) (x : SLine), l[k]? = some x → 0 ≤ x.shelf ∧ x.shelf < n ∧ 1 ≤ x.many ∧ x.many ≤ 20 := by
  unfold linesB at h
  rw [Bool.and_eq_true, List.all_eq_true] at h
  obtain ⟨h1, h2⟩ := h
  simp only [hasB, Bool.and_eq_true, decide_eq_true_eq] at h1
  have good : ∀ (k : Nat) (x : SLine), l[k]? = some x → nextF l k ≤ x.shelf ∧ x.shelf < n ∧ 1 ≤ x.many ∧ x.many ≤ 20 := fun k x hx => by
    have hk := (List.getElem?_eq_some_iff.1 hx).1
    have := h2 k (List.mem_range.2 hk)
    rw [goodLine_of hx] at this
    simp only [hasB, Bool.and_eq_true, decide_eq_true_eq] at this
    omega
  have next : ∀ (k : Nat), k ≤ l.length → 0 ≤ nextF l k := by
    intro k
    induction k with
    | zero => intro _; simp [nextF]
    | succ k ih =>
      intro hk
      have hx : l[k]? = some l[k] := List.getElem?_eq_getElem (by omega)
      have := ih (by omega)
      have := (good k _ hx).1
      rw [nextF_succ hx]
      omega
  refine ⟨by omega, by omega, fun k x hx => ?_⟩
  have hk := (List.getElem?_eq_some_iff.1 hx).1
  have g := good k x hx
  have := next k (by omega)
  omega
def sumK (l : List SLine) (k : Nat) : Int := ((l.take k).map SLine.many).sum
theorem sumK_succ {l : List SLine} {k : Nat} {x : SLine} (h : l[k]? = some x) : sumK l (k + 1) = sumK l k + x.many := by
  obtain ⟨hk, rfl⟩ := List.getElem?_eq_some_iff.1 h
  unfold sumK
  rw [List.take_succ_eq_append_getElem hk, List.map_append, List.sum_append]
  simp
theorem sumK_range {l : List SLine} (h : ∀ (k : Nat) (x : SLine), l[k]? = some x → 1 ≤ x.many ∧ x.many ≤ 20) : ∀ k : Nat, k ≤ l.length → 0 ≤ sumK l k ∧ sumK l k ≤ 20 * k
  | 0, _ => by simp [sumK]
  | k + 1, hk => by
    have hx : l[k]? = some l[k] := List.getElem?_eq_getElem (by omega)
    have := sumK_range h k (by omega)
    have := h k _ hx
    rw [sumK_succ hx]
    omega
def togetherF (l : List SLine) : Int := (l.map SLine.many).sum
theorem sumK_all (l : List SLine) : sumK l l.length = togetherF l := by unfold sumK togetherF; rw [List.take_length]
def tourB (f : Floor) (l : List SLine) : Bool := linesB f.far.length l && decide (togetherF l ≤ f.carry)
theorem isTour_any (f : Floor) (A : Option Addr) (cap : Nat) (l : List SLine) (hf : f.far.length ≤ 35184372088832) (w : World) (hl : Lim w) (h : SLinesAt w w.heap.size A l.length l) :
    Calls Tryd.prog 87 #[f.val, .slice A l.length cap] w fun e w' => e = .returned (.bool (tourB f l)) ∧ Below w.heap.size w w' := by
  have hll := h.lens
  have HL := Lib.hid hl
  have HH := Lib.hid h
  obtain ⟨an, han⟩ : ∃ an, an = tourB f l := ⟨_, rfl⟩
  rcases hv : linesB f.far.length l with _ | _
  · have E : Hid (an = false) := by unfold Hid; rw [han]; simp [tourB, hv]
    have LI := Lib.hid (fun (W : World) hL hW => lines_is hv A cap hf W hL hW)
    rw [← han]
    clear han hv hl h
    obtain ⟨fA, fC, ff, slo, shi, pA, pC, fp, fc, sA, sC, fs⟩ := f
    show Calls Tryd.prog 87 #[.agg #[.slice fA ff.length fC, vi slo, vi shi, .slice pA fp.length pC, vi fc, .slice sA fs.length sC], .slice A l.length cap] w _
    go_enter Tryd.func87, Tryd.ntmps87
    go_wp2_with fail
    refine (LI.out _ (HL.out.next (by (repeat (first | exact Below.refl _ _ | refine Below.setCell ?_ (by first | omega | (simp; omega) | (simp; done)) _ | refine Below.alloc ?_ (by first | omega | (simp; omega) | (simp; done)) _ | refine Below.drew ?_ | refine below_drewN ?_ _ | refine Below.trans ?_ (Below.mono (by assumption) (by first | omega | (simp; omega) | (simp; done))))))) (HH.out.to (by (repeat (first | exact Below.refl _ _ | refine Below.setCell ?_ (by first | omega | (simp; omega) | (simp; done)) _ | refine Below.alloc ?_ (by first | omega | (simp; omega) | (simp; done)) _ | refine Below.drew ?_ | refine below_drewN ?_ _ | refine Below.trans ?_ (Below.mono (by assumption) (by first | omega | (simp; omega) | (simp; done)))))))).mono ?_
    rintro e W ⟨rfl, hb⟩
    have HB0 : Below w.heap.size w W := by (repeat (first | exact Below.refl _ _ | refine Below.setCell ?_ (by first | omega | (simp; omega) | (simp; done)) _ | refine Below.alloc ?_ (by first | omega | (simp; omega) | (simp; done)) _ | refine Below.drew ?_ | refine below_drewN ?_ _ | refine Below.trans ?_ (Below.mono (by assumption) (by first | omega | (simp; omega) | (simp; done)))))
    clear hb
    go_wp2_with fail
    go_ret
    exact ⟨retB E.out.symm, HB0⟩
  · have E : Hid (an = decide (togetherF l ≤ f.carry)) := by unfold Hid; rw [han]; simp [tourB, hv]
    have LI := Lib.hid (fun (W : World) hL hW => lines_is hv A cap hf W hL hW)
    obtain ⟨l1, l2, each⟩ := linesB_ok hv
    have HX : Hid (∀ (k : Nat) (x : SLine), l[k]? = some x → (1 ≤ x.many ∧ x.many ≤ 20) ∧ (0 ≤ sumK l k ∧ sumK l k ≤ 240) ∧ sumK l (k + 1) = sumK l k + x.many) := fun k x hx => by
      have hk := (List.getElem?_eq_some_iff.1 hx).1
      have := sumK_range (fun k x hx => (each k x hx).2.2) k (by omega)
      exact ⟨(each k x hx).2.2, by omega, sumK_succ hx⟩
    have HA := Lib.hid (sumK_all l)
    have H0 : Hid (sumK l 0 = 0) := by simp [sumK, Hid]
    obtain ⟨S, hS⟩ : ∃ S, S = sumK l := ⟨_, rfl⟩
    rw [← hS] at HX HA H0
    rw [← han]
    clear han hv hl h each hS
    obtain ⟨fA, fC, ff, slo, shi, pA, pC, fp, fc, sA, sC, fs⟩ := f
    simp only at E
    show Calls Tryd.prog 87 #[.agg #[.slice fA ff.length fC, vi slo, vi shi, .slice pA fp.length pC, vi fc, .slice sA fs.length sC], .slice A l.length cap] w _
    go_enter Tryd.func87, Tryd.ntmps87
    go_wp2_with fail
    refine (LI.out _ (HL.out.next (by (repeat (first | exact Below.refl _ _ | refine Below.setCell ?_ (by first | omega | (simp; omega) | (simp; done)) _ | refine Below.alloc ?_ (by first | omega | (simp; omega) | (simp; done)) _ | refine Below.drew ?_ | refine below_drewN ?_ _ | refine Below.trans ?_ (Below.mono (by assumption) (by first | omega | (simp; omega) | (simp; done))))))) (HH.out.to (by (repeat (first | exact Below.refl _ _ | refine Below.setCell ?_ (by first | omega | (simp; omega) | (simp; done)) _ | refine Below.alloc ?_ (by first | omega | (simp; omega) | (simp; done)) _ | refine Below.drew ?_ | refine below_drewN ?_ _ | refine Below.trans ?_ (Below.mono (by assumption) (by first | omega | (simp; omega) | (simp; done)))))))).mono ?_
    rintro e W ⟨rfl, hb⟩
    have HB0 : Below w.heap.size w W := by (repeat (first | exact Below.refl _ _ | refine Below.setCell ?_ (by first | omega | (simp; omega) | (simp; done)) _ | refine Below.alloc ?_ (by first | omega | (simp; omega) | (simp; done)) _ | refine Below.drew ?_ | refine below_drewN ?_ _ | refine Below.trans ?_ (Below.mono (by assumption) (by first | omega | (simp; omega) | (simp; done)))))
    have a4 : W.cell? ⟨w.heap.size, 4, none⟩ = some (vi fc) := cell_keep hb (by simp [go_sem])
    clear hb
    go_wp2_with fail
    go_loopw [5, 14] (fun x i wr => ∃ k : Nat, k ≤ l.length ∧ i = .int .i64 k ∧ Below W.heap.size W wr ∧ x = vi (S k)) (fun _ i _ => l.length - (intOf i).toNat)
    case atStart => exact ⟨0, Nat.zero_le _, rfl, Below.refl _ _, by rw [H0.out]⟩
    obtain ⟨k, hk, rfl, hB, rfl⟩ := hrel
    have HBr : Below w.heap.size w wr := HB0.trans (hB.mono HB0.size)
    have a4r := cell_keep hB a4
    have hz := hB.size
    by_cases hlt : k < l.length
    · obtain ⟨x, hx⟩ : ∃ x, l[k]? = some x := ⟨_, List.getElem?_eq_getElem hlt⟩
      obtain ⟨⟨m1, m2⟩, ⟨s1, s2⟩, S1⟩ := HX.out k x hx
      obtain ⟨bb, off, rfl, hbb, x0, x1⟩ := row2 (HH.out.to HBr).row hx rfl
      obtain ⟨xs, xm⟩ := x
      simp only at m1 m2 S1 x0 x1
      have S1 := Lib.hid S1
      have hkI : (k : Int) < l.length := by omega
      have h0k : (0 : Int) ≤ k := by omega
      obtain ⟨sk, hsk⟩ : ∃ sk, sk = S k := ⟨_, rfl⟩
      rw [← hsk] at s1 s2 S1 ⊢
      clear hx hsk
      go_wp2_with fail
      go_roundw
      case rel => exact ⟨k + 1, by omega, by go_num, hB.alloc hz _, by rw [S1.out]⟩
      case measure => simp [intOf]; omega
    · obtain rfl : k = l.length := by omega
      rw [HA.out] at *
      go_wp2_with fail
      go_ret
      exact ⟨retB E.out.symm, HBr⟩
end Go.Proofs.YtomgnpfpaodpiaaDoor
/- Contract of floor.areTours. -/
namespace Go.Proofs.YtomgnpfpaodpiaaDoor
open Go Go.RowKit
set_option maxHeartbeats 2000000
structure STour where
  ad : Option Addr
  cap : Nat
  lines : List SLine
abbrev STour.slice (t : STour) : Value := .slice t.ad t.lines.length t.cap
def STour.cells (t : STour) : List Value := [t.slice]
structure ToursAt (w : World) (B : Nat) (A : Option Addr) (cap : Nat) (ts : List STour) : Prop where
  rows : RowsAt w B 1 A cap (ts.map STour.cells)
  each : ∀ t ∈ ts, SLinesAt w B t.ad t.cap t.lines
theorem ToursAt.to {w w' : World} {A : Option Addr} {cap : Nat} {ts : List STour} (h : ToursAt w w.heap.size A cap ts) (hb : Below w.heap.size w w') : ToursAt w' w'.heap.size A cap ts := ⟨h.rows.to hb, fun t ht => (h.each t ht).to hb⟩
/-- the cell of the k-th element of a row of one -/
theorem row1 {w : World} {B : Nat} {A : Option Addr} {α : Type} {enc : α → List Value} {l : List α} (h : RowAt w B 1 A (l.map enc)) {k : Nat} {x : α} {c0 : Value} (hx : l[k]? = some x) (he : enc x = [c0]) :
    ∃ b off, A = some ⟨b, off, none⟩ ∧ b < B ∧ w.cell? ⟨b, off + k, none⟩ = some c0 := by
  have hk : k < l.length := (List.getElem?_eq_some_iff.1 hx).1
  obtain ⟨b, off, hA, hb, hc⟩ := h (by rw [List.length_map]; omega)
  have hr : (l.map enc)[k]? = some [c0] := by rw [List.getElem?_map, hx]; simp [he]
  exact ⟨b, off, hA, hb, by simpa using hc k _ hr 0 c0 (by omega) rfl⟩
def leftK (p : List Int) (ts : List STour) (k : Nat) : List Int := (ts.take k).foldl (fun p t => withoutF p (piecesF t.lines)) p
def toursB (f : Floor) (p : List Int) (ts : List STour) : Bool := ts.all (fun t => tourB f t.lines) && decide (leftK p ts ts.length = [0, 0, 0, 0, 0, 0, 0, 0, 0, 0, 0, 0])
theorem leftK_succ {p : List Int} {ts : List STour} {k : Nat} {t : STour} (h : ts[k]? = some t) : leftK p ts (k + 1) = withoutF (leftK p ts k) (piecesF t.lines) := by
  obtain ⟨hk, rfl⟩ := List.getElem?_eq_some_iff.1 h
  unfold leftK
  rw [List.take_succ_eq_append_getElem hk, List.foldl_append]
  rfl
theorem lines_good {n : Int} {l : List SLine} (hn : n ≤ 12) (h : linesB n l = true) : LinesOk l ∧ Twelve 12000 (piecesF l) := by
  obtain ⟨h1, h2, h3⟩ := linesB_ok h
  have ok : LinesOk l := ⟨by omega, fun x hx => by
    obtain ⟨k, hk, e⟩ := List.mem_iff_getElem.1 hx
    have := h3 k x (by rw [List.getElem?_eq_getElem hk, e])
    omega⟩
  have := piecesK_ok ok l.length (Nat.le_refl _)
  rw [piecesK_all] at this
  exact ⟨ok, this.wide (by omega)⟩
theorem withoutF_len {p q : List Int} (hp : p.length = 12) (hq : q.length = 12) : (withoutF p q).length = 12 := by
  unfold withoutF
  simp [hp, hq]
theorem withoutF_mem {p q : List Int} {n : Int} (h : n ∈ withoutF p q) : ∃ a ∈ p, ∃ b ∈ q, n = a - b := by
  unfold withoutF at h
  obtain ⟨⟨a, b⟩, h1, rfl⟩ := List.mem_map.1 h
  exact ⟨a, (List.of_mem_zip h1).1, b, (List.of_mem_zip h1).2, rfl⟩
theorem leftK_ok {p : List Int} {ts : List STour} (hp : Twelve 12000 p) : ∀ k : Nat, k ≤ ts.length → (∀ (j : Nat) (t : STour), j < k → ts[j]? = some t → Twelve 12000 (piecesF t.lines)) → (leftK p ts k).length = 12 ∧ ∀ n ∈ leftK p ts k, -(12000 * (k : Int)) ≤ n ∧ n ≤ 12000
  | 0, _, _ => ⟨hp.len, fun n hn => by have h1 := hp.pos n hn; have h2 := hp.top n hn; omega⟩
  | k + 1, hk, ht => by
    obtain ⟨i1, i2⟩ := leftK_ok hp k (by omega) (fun j t hj => ht j t (by omega))
    have hx : ts[k]? = some ts[k] := List.getElem?_eq_getElem (by omega)
    have hq := ht k _ (by omega) hx
    rw [leftK_succ hx]
    refine ⟨withoutF_len i1 hq.len, fun n hn => ?_⟩
    obtain ⟨a, ha, b, hb, rfl⟩ := withoutF_mem hn
    have h1 := i2 a ha
    have h2 := hq.pos b hb
    have h3 := hq.top b hb
    omega
theorem piecesOf_is {l : List SLine} {p : List Int} (hp : piecesF l = p) (hok : LinesOk l) (A : Option Addr) (cap : Nat) (w : World) (h : SLinesAt w w.heap.size A cap l) :
    Calls Tryd.prog 86 #[.slice A l.length cap] w fun e w' => e = .returned (piecesV p) ∧ Below w.heap.size w w' := by
  subst hp
  exact piecesOf_any A cap l hok w h.short
theorem tour_is {f : Floor} {l : List SLine} {b : Bool} (hb : tourB f l = b) (A : Option Addr) (cap : Nat) (hf : f.far.length ≤ 35184372088832) (w : World) (hl : Lim w) (h : SLinesAt w w.heap.size A cap l) :
    Calls Tryd.prog 87 #[f.val, .slice A l.length cap] w fun e w' => e = .returned (.bool b) ∧ Below w.heap.size w w' := by
  subst hb
  exact isTour_any f A cap l hf w hl h.short
theorem without_is {p q r : List Int} (hr : withoutF p q = r) (hp : p.length = 12) (hq : q.length = 12) (hpb : ∀ n ∈ p, -1152921504606846976 ≤ n ∧ n ≤ 1152921504606846976) (hqb : ∀ n ∈ q, -1000000 ≤ n ∧ n ≤ 1000000) (w : World) :
    Calls Tryd.prog 88 #[piecesV p, piecesV q] w fun e w' => e = .returned (piecesV r) ∧ Below w.heap.size w w' := by
  subst hr
  exact without_any p q hp hq hpb hqb w
end Go.Proofs.YtomgnpfpaodpiaaDoor
/- Two arrays of twelve numbers compared. -/
namespace Go.Proofs.YtomgnpfpaodpiaaDoor
open Go Go.RowKit
set_option maxHeartbeats 2000000
set_option maxRecDepth 100000 in
theorem part12 {q : List Int} (h : q.length = 12) (k : Nat) (hk : k < 12) (w : World) : (part 3 (q.map vi).toArray (k * 1)).run Tryd.prog w = .ok (vi (q[k]?.getD 0)) w := by
  obtain ⟨n0, n1, n2, n3, n4, n5, n6, n7, n8, n9, n10, n11, rfl⟩ := spread h
  have hk : k = 0 ∨ k = 1 ∨ k = 2 ∨ k = 3 ∨ k = 4 ∨ k = 5 ∨ k = 6 ∨ k = 7 ∨ k = 8 ∨ k = 9 ∨ k = 10 ∨ k = 11 := by omega
  rcases hk with rfl | rfl | rfl | rfl | rfl | rfl | rfl | rfl | rfl | rfl | rfl | rfl <;> (show (_ : Result _) = _; kernel_rfl)
theorem size_int (w : World) : (sizeOf 3).run Tryd.prog w = .ok 1 w := by
  show (_ : Result _) = _
  kernel_rfl
theorem eq12 {x y : List Int} (hx : x.length = 12) (hy : y.length = 12) (d : Nat) (w : World) : (Op.equalIn (d + 2) 102 (.agg (x.map vi).toArray) (.agg (y.map vi).toArray)).run Tryd.prog w = .ok (decide (x = y)) w := by
  unfold Op.equalIn
  simp only [Sem.run_bind, run_underlying Tryd.underlying102, Result.andThen_ok, size_int]
  simp only [Std.Legacy.Range.forIn_eq_forIn_range', Std.Legacy.Range.size, Nat.sub_zero, Nat.add_one_sub_one, Nat.div_one]
  have key : ∀ (is : List Nat) (w : World), (∀ i ∈ is, i < 12) → ((forIn is ((none : Option Bool), ()) fun i __s => do
            let a ← part 3 (List.map vi x).toArray (i * 1)
            let b ← part 3 (List.map vi y).toArray (i * 1)
            let c ← Op.equalIn (d + 1) 3 a b
            if (!c) = true then pure (ForInStep.done (some false, ())) else pure (ForInStep.yield ((none : Option Bool), ())) : Sem (Option Bool × Unit)).run Tryd.prog w) = .ok (if is.all (fun i => x[i]?.getD 0 == y[i]?.getD 0) then (none, ()) else (some false, ())) w := by
    intro is
    induction is with
    | nil => intro w _; simp
    | cons i is ih =>
      intro w hi
      have h1 := hi i (by simp)
      simp only [List.forIn_cons, Sem.run_bind, part12 hx i h1, part12 hy i h1, Result.andThen_ok, run_equalIn_int _ _ _ _ _ _ _ Tryd.underlying3]
      by_cases e : x[i]?.getD 0 = y[i]?.getD 0
      · have := ih w (fun j hj => hi j (by simp [hj]))
        simpa [e] using this
      · simp [e]
  rw [key _ w (fun i hi => by simp [List.mem_range'] at hi; omega)]
  have hall : ((List.range' 0 12).all (fun i => x[i]?.getD 0 == y[i]?.getD 0)) = decide (x = y) := by
    rw [Bool.eq_iff_iff, List.all_eq_true, decide_eq_true_iff]
    constructor
    · intro h
      apply List.ext_getElem (by omega)
      intro i h1 h2
      have := h i (by simp [List.mem_range']; omega)
      simpa [h1, h2] using this
    · rintro rfl i _
      simp
  rw [hall]
  by_cases e : x = y
  · simp [e]
  · simp [e]
end Go.Proofs.YtomgnpfpaodpiaaDoor
/- Contract of floor.areTours: the walk. -/
namespace Go.Proofs.YtomgnpfpaodpiaaDoor
open Go Go.RowKit
set_option maxHeartbeats 2000000
def goodTour (f : Floor) (ts : List STour) (k : Nat) : Bool := match ts[k]? with | some t => tourB f t.lines | none => true
theorem all_tours (f : Floor) (ts : List STour) : ts.all (fun t => tourB f t.lines) = (List.range ts.length).all (goodTour f ts) := by
  rw [Bool.eq_iff_iff, List.all_eq_true, List.all_eq_true]
  constructor
  · intro h k hk
    have hk := List.mem_range.1 hk
    unfold goodTour
    rw [List.getElem?_eq_getElem hk]
    exact h _ (List.getElem_mem hk)
  · intro h t ht
    obtain ⟨k, hk, rfl⟩ := List.mem_iff_getElem.1 ht
    have := h k (List.mem_range.2 hk)
    unfold goodTour at this
    rwa [List.getElem?_eq_getElem hk] at this
theorem areTours_any (f : Floor) (n : Nat) (s : SSlip) (hs : f.slips[n]? = some s) (hfar : f.far.length ≤ 12) (hsl : linesB f.far.length s.lines = true) (A : Option Addr) (cap : Nat) (ts : List STour) (w : World) (hl : Lim w) (h : FloorAt w w.heap.size f) (ht : ToursAt w w.heap.size A cap ts) :
    Calls Tryd.prog 53 #[f.val, vi n, .slice A ts.length cap] w fun e w' => e = .returned (.bool (toursB f (piecesF s.lines) ts)) ∧ Below w.heap.size w w' := by
  have htl := ht.rows.lens
  have hsll := h.slips.lens
  have HL := Lib.hid hl
  have HF := Lib.hid h
  have HT := Lib.hid ht
  obtain ⟨p, hp⟩ : ∃ p, piecesF s.lines = p := ⟨_, rfl⟩
  obtain ⟨hok, htw⟩ := lines_good (by omega) hsl
  rw [hp] at htw ⊢
  have PO := Lib.hid (fun (A : Option Addr) (cap : Nat) (W : World) hW => piecesOf_is hp hok A cap W hW)
  have HX : Hid (∀ (k : Nat) (t : STour), ts[k]? = some t → goodTour f ts k = true → (∀ j, j < k → goodTour f ts j = true) → ∃ q, piecesF t.lines = q ∧ LinesOk t.lines ∧ q.length = 12 ∧ (∀ x ∈ q, -1000000 ≤ x ∧ x ≤ 1000000) ∧ (leftK p ts k).length = 12 ∧ (∀ x ∈ leftK p ts k, -1152921504606846976 ≤ x ∧ x ≤ 1152921504606846976) ∧ (leftK p ts (k + 1)).length = 12 ∧ withoutF (leftK p ts k) q = leftK p ts (k + 1)) := fun k t hk hg hj => by
    have good : ∀ (j : Nat) (t : STour), goodTour f ts j = true → ts[j]? = some t → LinesOk t.lines ∧ Twelve 12000 (piecesF t.lines) := fun j t hg hj => by
      unfold goodTour at hg
      rw [hj] at hg
      simp only [tourB, Bool.and_eq_true] at hg
      exact lines_good (by omega) hg.1
    have hlt := (List.getElem?_eq_some_iff.1 hk).1
    obtain ⟨g1, g2⟩ := good k t hg hk
    obtain ⟨i1, i2⟩ := leftK_ok htw k (by omega) (fun j t hjk ht => (good j t (hj j hjk) ht).2)
    refine ⟨_, rfl, g1, g2.len, fun x hx => ?_, i1, fun x hx => ?_, ?_, (leftK_succ hk).symm⟩
    · have := g2.pos x hx; have := g2.top x hx; omega
    · have := i2 x hx; omega
    · rw [leftK_succ hk]; exact withoutF_len i1 g2.len
  have HG : Hid (∀ (k : Nat) (t : STour), ts[k]? = some t → goodTour f ts k = tourB f t.lines) := fun k t hk => by unfold goodTour; rw [hk]
  have TO := Lib.hid (fun (t : STour) (b : Bool) (hb : tourB f t.lines = b) (W : World) hL hW => tour_is hb t.ad t.cap (by omega : f.far.length ≤ 35184372088832) W hL hW)
  obtain ⟨an, han⟩ : ∃ an, an = toursB f p ts := ⟨_, rfl⟩
  have HVB : toursB f p ts = ((List.range ts.length).all (goodTour f ts) && decide (leftK p ts ts.length = [0, 0, 0, 0, 0, 0, 0, 0, 0, 0, 0, 0])) := by unfold toursB; rw [all_tours]
  have FIN : Hid ((∀ j, j < ts.length → goodTour f ts j = true) → an = decide (leftK p ts ts.length = [0, 0, 0, 0, 0, 0, 0, 0, 0, 0, 0, 0])) := fun hj => by
    rw [han, HVB, List.all_eq_true.2 (fun k hk => hj k (List.mem_range.1 hk)), Bool.true_and]
  have BAD : Hid (∀ k, k < ts.length → goodTour f ts k = false → an = false) := fun k hk hg => by
    have : (List.range ts.length).all (goodTour f ts) = false := by
      rw [Bool.eq_false_iff]
      intro ha
      have := List.all_eq_true.1 ha k (List.mem_range.2 hk)
      rw [hg] at this
      cases this
    rw [han, HVB, this, Bool.false_and]
  have HP0 : Hid (leftK p ts 0 = p) := rfl
  rw [← han]
  clear HVB han
  obtain ⟨S, hS⟩ : ∃ S, S = leftK p ts := ⟨_, rfl⟩
  obtain ⟨gs, hgs⟩ : ∃ gs, gs = goodTour f ts := ⟨_, rfl⟩
  rw [← hS] at HX HP0 FIN
  rw [← hgs] at HX HG FIN BAD
  clear hS hgs hl h ht hsl hok hp
  obtain ⟨n0, n1, n2, n3, n4, n5, n6, n7, n8, n9, n10, n11, hpp⟩ := spread htw.len
  rw [hpp] at HP0 PO
  clear hpp htw
  obtain ⟨bs, os, hsA, hbs, s0, s1⟩ := row2 HF.out.slips.row hs rfl
  have HSL := Lib.hid (HF.out.each s (List.mem_of_getElem? hs))
  have hnl : (n : Int) < f.slips.length := by have := (List.getElem?_eq_some_iff.1 hs).1; omega
  have h0n : (0 : Int) ≤ n := by omega
  have zbs : bs < w.heap.size := cell_lt s0
  clear hs
  obtain ⟨sa, sc, sl, till⟩ := s
  simp only at PO HSL
  replace s0 : w.cell? ⟨bs, os + n * 2, none⟩ = some (.slice sa sl.length sc) := s0
  obtain ⟨fA, fC, ff, slo, shi, pA, pC, fp, fc, sA, sC, fs⟩ := f
  simp only at hsll hnl hsA hfar
  subst hsA
  show Calls Tryd.prog 53 #[.agg #[.slice fA ff.length fC, vi slo, vi shi, .slice pA fp.length pC, vi fc, .slice (some ⟨bs, os, none⟩) fs.length sC], vi n, .slice A ts.length cap] w fun e w' => e = .returned (.bool an) ∧ Below w.heap.size w w'
  go_enter Tryd.func53, Tryd.ntmps53
  go_wp2_with fail
  refine (PO.out sa sc _ (HSL.out.to (by (repeat (first | exact Below.refl _ _ | refine Below.setCell ?_ (by first | omega | (simp; omega) | (simp; done)) _ | refine Below.alloc ?_ (by first | omega | (simp; omega) | (simp; done)) _ | refine Below.drew ?_ | refine below_drewN ?_ _ | refine Below.trans ?_ (Below.mono (by assumption) (by first | omega | (simp; omega) | (simp; done)))))))).mono ?_
  rintro e W ⟨rfl, hb⟩
  have HB0 : Below w.heap.size w W := by (repeat (first | exact Below.refl _ _ | refine Below.setCell ?_ (by first | omega | (simp; omega) | (simp; done)) _ | refine Below.alloc ?_ (by first | omega | (simp; omega) | (simp; done)) _ | refine Below.drew ?_ | refine below_drewN ?_ _ | refine Below.trans ?_ (Below.mono (by assumption) (by first | omega | (simp; omega) | (simp; done)))))
  have a0 : W.cell? ⟨w.heap.size, 0, none⟩ = some (.slice fA ff.length fC) := cell_keep hb (by simp [go_sem])
  have a1 : W.cell? ⟨w.heap.size, 1, none⟩ = some (vi slo) := cell_keep hb (by simp [go_sem])
  have a2 : W.cell? ⟨w.heap.size, 2, none⟩ = some (vi shi) := cell_keep hb (by simp [go_sem])
  have a3 : W.cell? ⟨w.heap.size, 3, none⟩ = some (.slice pA fp.length pC) := cell_keep hb (by simp [go_sem])
  have a4 : W.cell? ⟨w.heap.size, 4, none⟩ = some (vi fc) := cell_keep hb (by simp [go_sem])
  have a5 : W.cell? ⟨w.heap.size, 5, none⟩ = some (.slice (some ⟨bs, os, none⟩) fs.length sC) := cell_keep hb (by simp [go_sem])
  have za := cell_lt a0
  clear hb s0 s1
  go_wp2_with fail
  go_loopw [9, 20] (fun x i wr => ∃ k : Nat, k ≤ ts.length ∧ i = .int .i64 k ∧ Below W.heap.size W wr ∧ ArrAt wr W.heap.size (S k) ∧ Hid (∀ j, j < k → gs j = true)) (fun _ i _ => ts.length - (intOf i).toNat)
  case atStart =>
    refine ⟨0, Nat.zero_le _, rfl, by (repeat (first | exact Below.refl _ _ | refine Below.setCell ?_ (by first | omega | (simp; omega) | (simp; done)) _ | refine Below.alloc ?_ (by first | omega | (simp; omega) | (simp; done)) _ | refine Below.drew ?_ | refine below_drewN ?_ _ | refine Below.trans ?_ (Below.mono (by assumption) (by first | omega | (simp; omega) | (simp; done))))), ?_, fun j hj => absurd hj (by omega)⟩
    rw [HP0.out]
    exact arr_new (by simp [go_sem]) (by simp [go_sem])
  obtain ⟨k, hk, rfl, hB, hX, HJ⟩ := hrel
  have HBr : Below w.heap.size w wr := HB0.trans (hB.mono HB0.size)
  have hz := hX.lt
  by_cases hlt : k < ts.length
  · obtain ⟨t, ht⟩ : ∃ t, ts[k]? = some t := ⟨_, List.getElem?_eq_getElem hlt⟩
    have hTr := HT.out.to HBr
    obtain ⟨bb, off, rfl, hbb, x0⟩ := row1 hTr.rows.row ht rfl
    have HTL := Lib.hid (hTr.each t (List.mem_of_getElem? ht))
    have zbb : bb < wr.heap.size := cell_lt x0
    have a0r := cell_keep hB a0
    have a1r := cell_keep hB a1
    have a2r := cell_keep hB a2
    have a3r := cell_keep hB a3
    have a4r := cell_keep hB a4
    have a5r := cell_keep hB a5
    have zar := cell_lt a0r
    have hkI : (k : Int) < ts.length := by omega
    have h0k : (0 : Int) ≤ k := by omega
    have TO1 := Lib.hid (fun (b : Bool) hb => TO.out t b hb)
    have G1 := HG.out k t ht
    have HX1 := Lib.hid (HX.out k t ht)
    have HXX := Lib.hid hX
    clear ht hTr hX TO HG HX
    obtain ⟨tA, tC, tl⟩ := t
    simp only at TO1 G1 HX1 HTL
    replace x0 : wr.cell? ⟨bb, off + k, none⟩ = some (.slice tA tl.length tC) := x0
    rcases hg : gs k with _ | _
    · have E : Hid (an = false) := BAD.out k hlt hg
      have TO2 := Lib.hid (TO1.out false (by rw [← G1]; exact hg))
      clear G1 hg HX1 TO1
      go_wp2_with fail
      refine (TO2.out _ (HL.out.next (by (repeat (first | exact Below.refl _ _ | refine Below.setCell ?_ (by first | omega | (simp; omega) | (simp; done)) _ | refine Below.alloc ?_ (by first | omega | (simp; omega) | (simp; done)) _ | refine Below.drew ?_ | refine below_drewN ?_ _ | refine Below.trans ?_ (Below.mono (by assumption) (by first | omega | (simp; omega) | (simp; done))))))) (HTL.out.to (by (repeat (first | exact Below.refl _ _ | refine Below.setCell ?_ (by first | omega | (simp; omega) | (simp; done)) _ | refine Below.alloc ?_ (by first | omega | (simp; omega) | (simp; done)) _ | refine Below.drew ?_ | refine below_drewN ?_ _ | refine Below.trans ?_ (Below.mono (by assumption) (by first | omega | (simp; omega) | (simp; done)))))))).mono ?_
      rintro e W3 ⟨rfl, hb3⟩
      go_wp2_with fail
      go_ret
      exact ⟨retB E.out.symm, HBr.trans (hb3.mono HBr.size)⟩
    · have TO2 := Lib.hid (TO1.out true (by rw [← G1]; exact hg))
      obtain ⟨q, hq, qok, ql, qb, sl12, sb, sl13, hw⟩ := HX1.out hg HJ.out
      have HJ2 : Hid (∀ j, j < k + 1 → gs j = true) := upto_succ HJ.out hg
      have PQ := Lib.hid (fun (A : Option Addr) (cap : Nat) (W : World) hW => piecesOf_is hq qok A cap W hW)
      have WO := Lib.hid (fun (W : World) => without_is hw sl12 ql sb qb W)
      obtain ⟨m0, m1, m2, m3, m4, m5, m6, m7, m8, m9, m10, m11, rfl⟩ := spread ql
      obtain ⟨r0, r1, r2, r3, r4, r5, r6, r7, r8, r9, r10, r11, hr⟩ := spread sl12
      obtain ⟨d0, d1, d2, d3, d4, d5, d6, d7, d8, d9, d10, d11, hd⟩ := spread sl13
      have HD := Lib.hid hd
      have HXR : Hid (ArrAt wr W.heap.size [r0, r1, r2, r3, r4, r5, r6, r7, r8, r9, r10, r11]) := by unfold Hid; rw [← hr]; exact HXX.out
      rw [hr, hd] at WO
      clear G1 hg HX1 TO1 hq qok ql qb sl12 sb sl13 hw hr hd HXX
      go_wp2_with fail
      refine (TO2.out _ (HL.out.next (by (repeat (first | exact Below.refl _ _ | refine Below.setCell ?_ (by first | omega | (simp; omega) | (simp; done)) _ | refine Below.alloc ?_ (by first | omega | (simp; omega) | (simp; done)) _ | refine Below.drew ?_ | refine below_drewN ?_ _ | refine Below.trans ?_ (Below.mono (by assumption) (by first | omega | (simp; omega) | (simp; done))))))) (HTL.out.to (by (repeat (first | exact Below.refl _ _ | refine Below.setCell ?_ (by first | omega | (simp; omega) | (simp; done)) _ | refine Below.alloc ?_ (by first | omega | (simp; omega) | (simp; done)) _ | refine Below.drew ?_ | refine below_drewN ?_ _ | refine Below.trans ?_ (Below.mono (by assumption) (by first | omega | (simp; omega) | (simp; done)))))))).mono ?_
      rintro e W3 ⟨rfl, hb3⟩
      have HX3 := Lib.hid (HXR.out.keep hb3)
      have HTL3 := Lib.hid (HTL.out.to hb3)
      have HB3 : Below W.heap.size W W3 := hB.trans (hb3.mono (Nat.le_of_lt hz))
      have hz3 := HX3.out.lt
      clear hb3 x0 a0r a1r a2r a3r a4r a5r TO2
      obtain ⟨c0, c1, c2, c3, c4, c5, c6, c7, c8, c9, c10, c11⟩ := HX3.out.cells
      go_wp2_with fail
      go_region_with (first
        | (go_at_call 86; go_loud (refine (PQ.out tA tC _ (HTL3.out.to (by (repeat (first | exact Below.refl _ _ | refine Below.setCell ?_ (by first | omega | (simp; omega) | (simp; done)) _ | refine Below.alloc ?_ (by first | omega | (simp; omega) | (simp; done)) _ | refine Below.drew ?_ | refine below_drewN ?_ _ | refine Below.trans ?_ (Below.mono (by assumption) (by first | omega | (simp; omega) | (simp; done)))))))).mono ?_; rintro e wq ⟨rfl, hbq⟩; have HXq : Hid (ArrAt wq W.heap.size [r0, r1, r2, r3, r4, r5, r6, r7, r8, r9, r10, r11]) := (by unfold Hid; refine ArrAt.keep ?_ hbq; repeat (first | exact HX3.out | refine ArrAt.drew ?_ | refine ArrAt.alloc ?_ _)); have hzq := HXq.out.lt; have HBq : Below W3.heap.size W3 wq := (by (repeat (first | exact Below.refl _ _ | refine Below.setCell ?_ (by first | omega | (simp; omega) | (simp; done)) _ | refine Below.alloc ?_ (by first | omega | (simp; omega) | (simp; done)) _ | refine Below.drew ?_ | refine below_drewN ?_ _ | refine Below.trans ?_ (Below.mono (by assumption) (by first | omega | (simp; omega) | (simp; done)))))); obtain ⟨c0q, c1q, c2q, c3q, c4q, c5q, c6q, c7q, c8q, c9q, c10q, c11q⟩ := HXq.out.cells))
        | (go_at_call 88; go_loud (refine (WO.out _).mono ?_; rintro e wv ⟨rfl, hbv⟩; have HXv : Hid (ArrAt wv W.heap.size [r0, r1, r2, r3, r4, r5, r6, r7, r8, r9, r10, r11]) := (by unfold Hid; refine ArrAt.keep ?_ hbv; repeat (first | exact HXq.out | refine ArrAt.drew ?_ | refine ArrAt.alloc ?_ _)); have hzv := HXv.out.lt; have HBv : Below W3.heap.size W3 wv := gr_trans HBq (by (repeat (first | exact Below.refl _ _ | refine Below.setCell ?_ (by first | omega | (simp; omega) | (simp; done)) _ | refine Below.alloc ?_ (by first | omega | (simp; omega) | (simp; done)) _ | refine Below.drew ?_ | refine below_drewN ?_ _ | refine Below.trans ?_ (Below.mono (by assumption) (by first | omega | (simp; omega) | (simp; done)))))); obtain ⟨c0v, c1v, c2v, c3v, c4v, c5v, c6v, c7v, c8v, c9v, c10v, c11v⟩ := HXv.out.cells; obtain ⟨e0, e1, e2, e3, e4, e5, e6, e7, e8, e9, e10, e11⟩ := HXv.out.softs)))
      all_goals
        refine (?_ : ∀ W9 : World, ArrAt W9 W.heap.size [d0, d1, d2, d3, d4, d5, d6, d7, d8, d9, d10, d11] ∧ Below W.heap.size W W9 → Exit.inBlock _ _ _ _ W9) _ (HXv.out.setBoth (gr_trans HB3 HBv) (Nat.le_refl _) d0 d1 d2 d3 d4 d5 d6 d7 d8 d9 d10 d11)
      all_goals
        intro W9 ⟨Z9, B9⟩
        clear e0 e1 e2 e3 e4 e5 e6 e7 e8 e9 e10 e11 c0 c1 c2 c3 c4 c5 c6 c7 c8 c9 c10 c11
        clear c0q c1q c2q c3q c4q c5q c6q c7q c8q c9q c10q c11q c0v c1v c2v c3v c4v c5v c6v c7v c8v c9v c10v c11v
        go_wp2_with fail
        go_roundw
      all_goals first
        | exact ⟨k + 1, by omega, by go_num, B9, by rw [HD.out]; exact Z9, HJ2.out⟩
        | (simp [intOf]; omega)
  · obtain rfl : k = ts.length := by omega
    have E := FIN.out HJ.out
    have hXl := hX.len
    obtain ⟨r0, r1, r2, r3, r4, r5, r6, r7, r8, r9, r10, r11, hr⟩ := spread hXl
    rw [hr] at hX E
    have E := Lib.hid E
    obtain ⟨c0, c1, c2, c3, c4, c5, c6, c7, c8, c9, c10, c11⟩ := hX.cells
    clear hX hr hXl HX FIN BAD HP0 a0 a1 a2 a3 a4 a5
    have hgd : Tryd.prog.eqGuardType Tryd.prog.depth 102 = false := by kernel_rfl
    have heq : ∀ w : World, (binOp .eql 102 (.agg #[vi r0, vi r1, vi r2, vi r3, vi r4, vi r5, vi r6, vi r7, vi r8, vi r9, vi r10, vi r11]) (.agg #[vi 0, vi 0, vi 0, vi 0, vi 0, vi 0, vi 0, vi 0, vi 0, vi 0, vi 0, vi 0])).run Tryd.prog w = .ok (.bool (decide ([r0, r1, r2, r3, r4, r5, r6, r7, r8, r9, r10, r11] = [0, 0, 0, 0, 0, 0, 0, 0, 0, 0, 0, 0]))) w := fun w => by
      have := eq12 (x := [r0, r1, r2, r3, r4, r5, r6, r7, r8, r9, r10, r11]) (y := [0, 0, 0, 0, 0, 0, 0, 0, 0, 0, 0, 0]) rfl rfl 9998 w
      rw [run_eql_struct]
      change Result.andThen ((Op.equalIn (9998 + 2) 102 (.agg (List.map vi [r0, r1, r2, r3, r4, r5, r6, r7, r8, r9, r10, r11]).toArray) (.agg (List.map vi [0, 0, 0, 0, 0, 0, 0, 0, 0, 0, 0, 0]).toArray)).run Tryd.prog w) _ = _
      rw [this]
      rfl
    obtain ⟨eb, heb⟩ : ∃ eb, eb = decide ([r0, r1, r2, r3, r4, r5, r6, r7, r8, r9, r10, r11] = [0, 0, 0, 0, 0, 0, 0, 0, 0, 0, 0, 0]) := ⟨_, rfl⟩
    rw [← heb] at heq E
    go_wp2_with fail
    go_ret
    exact ⟨retB (by rw [E.out, heb]; simp [Bool.decide_and]), HBr⟩
end Go.Proofs.YtomgnpfpaodpiaaDoor
/- Contract of IsTours. -/
namespace Go.Proofs.YtomgnpfpaodpiaaDoor
open Go Go.RowKit
set_option maxHeartbeats 2000000
theorem valid_parts {f : Floor} (h : validB f = true) : 1 ≤ f.far.length ∧ f.far.length ≤ 12 ∧ f.picks.length = f.far.length ∧ (1 ≤ f.slo ∧ f.slo ≤ f.shi ∧ f.shi ≤ 10) ∧ (1 ≤ f.carry ∧ f.carry ≤ 20) ∧ f.slips.length ≤ 9 ∧ ∀ (k : Nat) (s : SSlip), f.slips[k]? = some s → (0 ≤ s.till ∧ s.till ≤ 100000) ∧ linesB f.far.length s.lines = true := by
  unfold validB shelvesB at h
  simp only [Bool.and_eq_true, List.all_eq_true, List.mem_range, hasB, withinB, decide_eq_true_eq] at h
  obtain ⟨⟨⟨⟨⟨⟨h1, h2⟩, -⟩, h3⟩, h4⟩, h5⟩, h6⟩ := h
  refine ⟨by omega, by omega, by omega, by omega, by omega, by omega, fun k s hk => ?_⟩
  have := h6 k (List.getElem?_eq_some_iff.1 hk).1
  rw [goodSlip_of hk] at this
  simp only [hasB, Bool.and_eq_true, decide_eq_true_eq] at this
  exact this
def isToursV (f : Floor) (n : Int) (ts : List STour) : Bool := if checkSlipV f n = 0 then (match f.slips[n.toNat]? with | some s => toursB f (piecesF s.lines) ts | none => false) else false
theorem check_cases (f : Floor) (n : Int) : (checkSlipV f n = 30 ∨ checkSlipV f n = 31) ∨ (checkSlipV f n = 0 ∧ validB f = true ∧ ∃ (k : Nat) (s : SSlip), n = k ∧ f.slips[k]? = some s) := by
  unfold checkSlipV
  cases hv : validB f with
  | false => exact .inl (.inl rfl)
  | true =>
    cases hs : slipB f n with
    | false => exact .inl (.inr rfl)
    | true =>
      unfold slipB at hs
      simp only [Bool.and_eq_true, decide_eq_true_eq] at hs
      have : n.toNat < f.slips.length := by omega
      exact .inr ⟨rfl, rfl, n.toNat, f.slips[n.toNat], by omega, List.getElem?_eq_getElem this⟩
theorem areTours_is {f : Floor} {n : Nat} {s : SSlip} {ts : List STour} {b : Bool} (hb : toursB f (piecesF s.lines) ts = b) (hs : f.slips[n]? = some s) (hfar : f.far.length ≤ 12) (hsl : linesB f.far.length s.lines = true) (A : Option Addr) (cap : Nat) (w : World) (hl : Lim w) (h : FloorAt w w.heap.size f) (ht : ToursAt w w.heap.size A cap ts) :
    Calls Tryd.prog 53 #[f.val, vi n, .slice A ts.length cap] w fun e w' => e = .returned (.bool b) ∧ Below w.heap.size w w' := by
  subst hb
  exact areTours_any f n s hs hfar hsl A cap ts w hl h ht
theorem IsTours_any (f : Floor) (n : Int) (A : Option Addr) (cap : Nat) (ts : List STour) (w : World) (hl : Lim w) (h : FloorAt w w.heap.size f) (ht : ToursAt w w.heap.size A cap ts) :
    Calls Tryd.prog 14 #[f.val, vi n, .slice A ts.length cap] w fun e w' => e = .returned (.tuple #[.bool (isToursV f n ts), vi (checkSlipV f n)]) ∧ Below w.heap.size w w' := by
  have HL := Lib.hid hl
  have HF := Lib.hid h
  have HT := Lib.hid ht
  rcases check_cases f n with hc | ⟨hc, hv, k, s, rfl, hs⟩
  · obtain ⟨ec, hec⟩ : ∃ ec, checkSlipV f n = ec := ⟨_, rfl⟩
    have hne : ec ≠ 0 := by omega
    have hned : decide (ec = 0) = false := by simpa using hne
    have E : Hid (isToursV f n ts = false) := by unfold Hid isToursV; rw [if_neg (by omega)]
    have CH := Lib.hid (fun (W : World) hL hW => checkSlip_is hec W hL hW)
    obtain ⟨an, han⟩ : ∃ an, an = isToursV f n ts := ⟨_, rfl⟩
    rw [← han] at E ⊢
    rw [hec]
    clear h hl ht hc han hec
    obtain ⟨fA, fC, ff, slo, shi, pA, pC, fp, fc, sA, sC, fs⟩ := f
    show Calls Tryd.prog 14 #[.agg #[.slice fA ff.length fC, vi slo, vi shi, .slice pA fp.length pC, vi fc, .slice sA fs.length sC], vi n, .slice A ts.length cap] w _
    go_enter Tryd.func14, Tryd.ntmps14
    go_wp2_with fail
    refine (CH.out _ (HL.out.next (by (repeat (first | exact Below.refl _ _ | refine Below.setCell ?_ (by first | omega | (simp; omega) | (simp; done)) _ | refine Below.alloc ?_ (by first | omega | (simp; omega) | (simp; done)) _ | refine Below.drew ?_ | refine below_drewN ?_ _ | refine Below.trans ?_ (Below.mono (by assumption) (by first | omega | (simp; omega) | (simp; done))))))) (HF.out.to (by (repeat (first | exact Below.refl _ _ | refine Below.setCell ?_ (by first | omega | (simp; omega) | (simp; done)) _ | refine Below.alloc ?_ (by first | omega | (simp; omega) | (simp; done)) _ | refine Below.drew ?_ | refine below_drewN ?_ _ | refine Below.trans ?_ (Below.mono (by assumption) (by first | omega | (simp; omega) | (simp; done)))))))).mono ?_
    rintro e W ⟨rfl, hb⟩
    have HB0 : Below w.heap.size w W := by (repeat (first | exact Below.refl _ _ | refine Below.setCell ?_ (by first | omega | (simp; omega) | (simp; done)) _ | refine Below.alloc ?_ (by first | omega | (simp; omega) | (simp; done)) _ | refine Below.drew ?_ | refine below_drewN ?_ _ | refine Below.trans ?_ (Below.mono (by assumption) (by first | omega | (simp; omega) | (simp; done)))))
    clear hb
    go_wp2_with fail
    go_ret2
    exact ⟨by rw [E.out]; rfl, HB0⟩
  · obtain ⟨p1, p2, -, -, -, -, p7⟩ := valid_parts hv
    have hsl := (p7 k s hs).2
    have E : Hid (isToursV f k ts = toursB f (piecesF s.lines) ts) := by unfold Hid isToursV; rw [if_pos hc]; simp [hs]
    have CH := Lib.hid (fun (W : World) hL hW => checkSlip_is hc W hL hW)
    obtain ⟨an, han⟩ : ∃ an, an = toursB f (piecesF s.lines) ts := ⟨_, rfl⟩
    have AT := Lib.hid (fun (W : World) hL hW hT => areTours_is han.symm hs p2 hsl A cap W hL hW hT)
    rw [hc, E.out, ← han]
    clear h hl ht hc han hs hsl p7 E hv
    obtain ⟨fA, fC, ff, slo, shi, pA, pC, fp, fc, sA, sC, fs⟩ := f
    show Calls Tryd.prog 14 #[.agg #[.slice fA ff.length fC, vi slo, vi shi, .slice pA fp.length pC, vi fc, .slice sA fs.length sC], vi k, .slice A ts.length cap] w _
    go_enter Tryd.func14, Tryd.ntmps14
    go_wp2_with fail
    refine (CH.out _ (HL.out.next (by (repeat (first | exact Below.refl _ _ | refine Below.setCell ?_ (by first | omega | (simp; omega) | (simp; done)) _ | refine Below.alloc ?_ (by first | omega | (simp; omega) | (simp; done)) _ | refine Below.drew ?_ | refine below_drewN ?_ _ | refine Below.trans ?_ (Below.mono (by assumption) (by first | omega | (simp; omega) | (simp; done))))))) (HF.out.to (by (repeat (first | exact Below.refl _ _ | refine Below.setCell ?_ (by first | omega | (simp; omega) | (simp; done)) _ | refine Below.alloc ?_ (by first | omega | (simp; omega) | (simp; done)) _ | refine Below.drew ?_ | refine below_drewN ?_ _ | refine Below.trans ?_ (Below.mono (by assumption) (by first | omega | (simp; omega) | (simp; done)))))))).mono ?_
    rintro e W ⟨rfl, hb⟩
    have HB0 : Below w.heap.size w W := by (repeat (first | exact Below.refl _ _ | refine Below.setCell ?_ (by first | omega | (simp; omega) | (simp; done)) _ | refine Below.alloc ?_ (by first | omega | (simp; omega) | (simp; done)) _ | refine Below.drew ?_ | refine below_drewN ?_ _ | refine Below.trans ?_ (Below.mono (by assumption) (by first | omega | (simp; omega) | (simp; done)))))
    have a0 : W.cell? ⟨w.heap.size, 0, none⟩ = some (.slice fA ff.length fC) := cell_keep hb (by simp [go_sem])
    have a1 : W.cell? ⟨w.heap.size, 1, none⟩ = some (vi slo) := cell_keep hb (by simp [go_sem])
    have a2 : W.cell? ⟨w.heap.size, 2, none⟩ = some (vi shi) := cell_keep hb (by simp [go_sem])
    have a3 : W.cell? ⟨w.heap.size, 3, none⟩ = some (.slice pA fp.length pC) := cell_keep hb (by simp [go_sem])
    have a4 : W.cell? ⟨w.heap.size, 4, none⟩ = some (vi fc) := cell_keep hb (by simp [go_sem])
    have a5 : W.cell? ⟨w.heap.size, 5, none⟩ = some (.slice sA fs.length sC) := cell_keep hb (by simp [go_sem])
    clear hb
    go_wp2_with fail
    refine (AT.out _ (HL.out.next HB0) (HF.out.to HB0) (HT.out.to HB0)).mono ?_
    rintro e W2 ⟨rfl, hb2⟩
    go_wp2_with fail
    go_ret2
    exact ⟨rfl, gr_trans HB0 hb2⟩
end Go.Proofs.YtomgnpfpaodpiaaDoor
/- Contract of floor.isRoster. -/
namespace Go.Proofs.YtomgnpfpaodpiaaDoor
open Go Go.RowKit
set_option maxHeartbeats 2000000
structure SRow where
  ad : Option Addr
  cap : Nat
  slips : List Int
abbrev SRow.slice (t : SRow) : Value := .slice t.ad t.slips.length t.cap
def SRow.cells (t : SRow) : List Value := [t.slice]
structure RosterAt (w : World) (B : Nat) (A : Option Addr) (cap : Nat) (ts : List SRow) : Prop where
  rows : RowsAt w B 1 A cap (ts.map SRow.cells)
  each : ∀ t ∈ ts, IntsAt w B t.ad t.cap t.slips
theorem RosterAt.to {w w' : World} {A : Option Addr} {cap : Nat} {ts : List SRow} (h : RosterAt w w.heap.size A cap ts) (hb : Below w.heap.size w w') : RosterAt w' w'.heap.size A cap ts := ⟨h.rows.to hb, fun t ht => (h.each t ht).to hb⟩
def stepR (f : Floor) (o : Option Nat) (n : Int) : Option Nat := match o with | none => none | some m => if slipB f n && !(m.testBit n.toNat) then some (m ||| 2 ^ n.toNat) else none
theorem step_none (f : Floor) : ∀ l : List Int, l.foldl (stepR f) none = none
  | [] => rfl
  | _ :: l => step_none f l
def rowsR (f : Floor) (o : Option Nat) (ts : List SRow) : Option Nat := ts.foldl (fun o t => t.slips.foldl (stepR f) o) o
theorem rows_none (f : Floor) : ∀ ts : List SRow, rowsR f none ts = none
  | [] => rfl
  | t :: ts => by
    unfold rowsR
    rw [List.foldl_cons, step_none]
    exact rows_none f ts
def rosterB (f : Floor) (ts : List SRow) : Bool := hasB 1 5 ts.length && (rowsR f (some 0) ts == some (2 ^ f.slips.length - 1))
theorem rows_succ {f : Floor} {ts : List SRow} {k : Nat} {t : SRow} (h : ts[k]? = some t) : rowsR f (some 0) (ts.take (k + 1)) = t.slips.foldl (stepR f) (rowsR f (some 0) (ts.take k)) := by
  obtain ⟨hk, rfl⟩ := List.getElem?_eq_some_iff.1 h
  unfold rowsR
  rw [List.take_succ_eq_append_getElem hk, List.foldl_append]
  rfl
theorem rows_rest {f : Floor} {ts : List SRow} {k : Nat} (hk : rowsR f (some 0) (ts.take k) = none) : rowsR f (some 0) ts = none := by
  have e : rowsR f (some 0) (ts.take k ++ ts.drop k) = rowsR f (rowsR f (some 0) (ts.take k)) (ts.drop k) := by unfold rowsR; rw [List.foldl_append]
  rw [List.take_append_drop, hk, rows_none] at e
  exact e
theorem step_succ {f : Floor} {l : List Int} {j : Nat} {x : Int} (o : Option Nat) (h : l[j]? = some x) : (l.take (j + 1)).foldl (stepR f) o = stepR f ((l.take j).foldl (stepR f) o) x := by
  obtain ⟨hj, rfl⟩ := List.getElem?_eq_some_iff.1 h
  rw [List.take_succ_eq_append_getElem hj, List.foldl_append]
  rfl
theorem step_rest {f : Floor} {l : List Int} {j : Nat} {o : Option Nat} (hj : (l.take j).foldl (stepR f) o = none) : l.foldl (stepR f) o = none := by
  have e : (l.take j ++ l.drop j).foldl (stepR f) o = (l.drop j).foldl (stepR f) ((l.take j).foldl (stepR f) o) := by rw [List.foldl_append]
  rw [List.take_append_drop, hj, step_none] at e
  exact e
theorem all_is {f : Floor} {a : Int} (ha : ((2 ^ f.slips.length - 1 : Nat) : Int) = a) (hs : f.slips.length ≤ 9) (w : World) :
    Calls Tryd.prog 71 #[f.val] w fun e w' => e = .returned (vi a) ∧ Below w.heap.size w w' := by
  subst ha
  exact all_any f hs w
theorem isRoster_any (f : Floor) (hf9 : f.slips.length ≤ 9) (A : Option Addr) (cap : Nat) (ts : List SRow) (w : World) (hl : Lim w) (ht : RosterAt w w.heap.size A cap ts) :
    Calls Tryd.prog 65 #[f.val, .slice A ts.length cap] w fun e w' => e = .returned (.bool (rosterB f ts)) ∧ Below w.heap.size w w' := by
  have htl := ht.rows.lens
  have HL := Lib.hid hl
  have HT := Lib.hid ht
  obtain ⟨r0, r1⟩ := hl.row 9 (by omega) (a := 1) (b := 5) (by decide) (by decide)
  have hp := hl.pos
  have HF9 := Lib.hid hf9
  obtain ⟨an, han⟩ : ∃ an, an = rosterB f ts := ⟨_, rfl⟩
  rcases h1 : hasB 1 5 ts.length with _ | _
  · have E : Hid (an = false) := by unfold Hid; rw [han, rosterB, h1]; rfl
    have H1 := Lib.hid h1
    rw [← han]
    clear h1 han ht hl hf9
    obtain ⟨fA, fC, ff, slo, shi, pA, pC, fp, fc, sA, sC, fs⟩ := f
    show Calls Tryd.prog 65 #[.agg #[.slice fA ff.length fC, vi slo, vi shi, .slice pA fp.length pC, vi fc, .slice sA fs.length sC], .slice A ts.length cap] w _
    go_enter Tryd.func65, Tryd.ntmps65
    go_wp2_with (go_at_call 73; refine (has_is H1.out _).mono ?_; rintro e w1 ⟨rfl, hb1⟩; obtain ⟨⟨hc1, hf1, hs1⟩, hz1⟩ := after hb1; (try simp only [World.size_alloc, World.size_setCell, World.size_drew] at hz1))
    go_ret
    refine ⟨retB E.out.symm, ?_⟩
    (repeat (first | exact Below.refl _ _ | refine Below.setCell ?_ (by first | omega | (simp; omega) | (simp; done)) _ | refine Below.alloc ?_ (by first | omega | (simp; omega) | (simp; done)) _ | refine Below.drew ?_ | refine below_drewN ?_ _ | refine Below.trans ?_ (Below.mono (by assumption) (by first | omega | (simp; omega) | (simp; done)))))
  have H1 := Lib.hid h1
  have BAD : Hid (∀ k, rowsR f (some 0) (ts.take k) = none → an = false) := fun k hk => by
    rw [han, rosterB, rows_rest hk, h1]; rfl
  have HX : Hid (∀ (k : Nat) (t : SRow), ts[k]? = some t → rowsR f (some 0) (ts.take (k + 1)) = t.slips.foldl (stepR f) (rowsR f (some 0) (ts.take k))) := fun k t hk => rows_succ hk
  have AL := Lib.hid (fun (a : Int) ha => all_is (f := f) (a := a) ha hf9)
  have FIN : Hid (∀ m : Nat, rowsR f (some 0) (ts.take ts.length) = some m → an = (((m : Int)) == ((2 ^ f.slips.length - 1 : Nat) : Int))) := fun m hm => by
    rw [List.take_length] at hm
    rw [han, rosterB, h1, hm, Bool.true_and, Bool.eq_iff_iff]
    simp
    omega
  have SB := Lib.hid (fun (n : Int) (b : Bool) (hb : slipB f n = b) (W : World) => slip_is hb W (by omega : f.slips.length ≤ 35184372088832))
  have ST : Hid (∀ (m : Nat) (n : Int), stepR f (some m) n = if slipB f n && !(m.testBit n.toNat) then some (m ||| 2 ^ n.toNat) else none) := fun m n => rfl
  have SR : Hid (∀ n : Int, slipB f n = true → ∃ s : Nat, n = s ∧ s < 9) := fun n hn => by
    unfold slipB at hn
    simp only [Bool.and_eq_true, decide_eq_true_eq] at hn
    exact ⟨n.toNat, by omega, by omega⟩
  have H0 : Hid (rowsR f (some 0) (ts.take 0) = some 0) := rfl
  rw [← han]
  clear h1 han ht hl hf9
  obtain ⟨al, hal⟩ : ∃ al : Int, ((2 ^ f.slips.length - 1 : Nat) : Int) = al := ⟨_, rfl⟩
  have AL2 := Lib.hid (AL.out al hal)
  rw [hal] at FIN
  clear AL hal
  obtain ⟨st, hst⟩ : ∃ st, st = stepR f := ⟨_, rfl⟩
  obtain ⟨sb, hsb⟩ : ∃ sb, sb = slipB f := ⟨_, rfl⟩
  obtain ⟨G, hG⟩ : ∃ G, G = fun k => rowsR f (some 0) (ts.take k) := ⟨_, rfl⟩
  have eG : ∀ k, rowsR f (some 0) (ts.take k) = G k := fun k => by rw [hG]
  have SUC : Hid (∀ (l : List Int) (j : Nat) (x : Int) (o : Option Nat), l[j]? = some x → (l.take (j + 1)).foldl st o = st ((l.take j).foldl st o) x) := fun l j x o h => by rw [hst]; exact step_succ o h
  have RES : Hid (∀ (l : List Int) (j : Nat) (o : Option Nat), (l.take j).foldl st o = none → l.foldl st o = none) := fun l j o h => by rw [hst] at h ⊢; exact step_rest h
  simp only [eG] at BAD HX FIN H0
  rw [← hst] at HX ST
  rw [← hsb] at SB ST SR
  clear hst hsb hG eG
  obtain ⟨fA, fC, ff, slo, shi, pA, pC, fp, fc, sA, sC, fs⟩ := f
  show Calls Tryd.prog 65 #[.agg #[.slice fA ff.length fC, vi slo, vi shi, .slice pA fp.length pC, vi fc, .slice sA fs.length sC], .slice A ts.length cap] w _
  go_enter Tryd.func65, Tryd.ntmps65
  go_wp2_with fail
  refine (has_is H1.out _).mono ?_
  rintro e W ⟨rfl, hb⟩
  have HB0 : Below w.heap.size w W := by (repeat (first | exact Below.refl _ _ | refine Below.setCell ?_ (by first | omega | (simp; omega) | (simp; done)) _ | refine Below.alloc ?_ (by first | omega | (simp; omega) | (simp; done)) _ | refine Below.drew ?_ | refine below_drewN ?_ _ | refine Below.trans ?_ (Below.mono (by assumption) (by first | omega | (simp; omega) | (simp; done)))))
  have a0 : W.cell? ⟨w.heap.size, 0, none⟩ = some (.slice fA ff.length fC) := cell_keep hb (by simp [go_sem])
  have a1 : W.cell? ⟨w.heap.size, 1, none⟩ = some (vi slo) := cell_keep hb (by simp [go_sem])
  have a2 : W.cell? ⟨w.heap.size, 2, none⟩ = some (vi shi) := cell_keep hb (by simp [go_sem])
  have a3 : W.cell? ⟨w.heap.size, 3, none⟩ = some (.slice pA fp.length pC) := cell_keep hb (by simp [go_sem])
  have a4 : W.cell? ⟨w.heap.size, 4, none⟩ = some (vi fc) := cell_keep hb (by simp [go_sem])
  have a5 : W.cell? ⟨w.heap.size, 5, none⟩ = some (.slice sA fs.length sC) := cell_keep hb (by simp [go_sem])
  have za := cell_lt a0
  clear hb r0 r1 hp
  go_wp2_with fail
  go_loopw [5, 7, 9, 18, 24] (fun x v y i i2 wr => ∃ k m : Nat, k ≤ ts.length ∧ i = .int .i64 k ∧ Below W.heap.size W wr ∧ x = vi m ∧ m < 512 ∧ Hid (G k = some m)) (fun _ _ _ i _ _ => ts.length - (intOf i).toNat)
  case atStart => exact ⟨0, 0, Nat.zero_le _, rfl, Below.refl _ _, rfl, by omega, H0.out⟩
  obtain ⟨k, m, hk, rfl, hB, rfl, hm, HG⟩ := hrel
  have hz := hB.size
  have HBr : Below w.heap.size w wr := gr_trans HB0 hB
  obtain ⟨wo, hwo⟩ : ∃ wo, wo = wr := ⟨_, rfl⟩
  subst hwo
  have a0r := cell_keep hB a0
  have a1r := cell_keep hB a1
  have a2r := cell_keep hB a2
  have a3r := cell_keep hB a3
  have a4r := cell_keep hB a4
  have a5r := cell_keep hB a5
  have zar := cell_lt a0r
  by_cases hlt : k < ts.length
  · obtain ⟨t, ht⟩ : ∃ t, ts[k]? = some t := ⟨_, List.getElem?_eq_getElem hlt⟩
    have hTr := HT.out.to HBr
    obtain ⟨bb, off, rfl, hbb, x0⟩ := row1 hTr.rows.row ht rfl
    have HTL := Lib.hid (hTr.each t (List.mem_of_getElem? ht))
    have hln := HTL.out.lens
    have HXk := Lib.hid (HX.out k t ht)
    have zbb : bb < wo.heap.size := cell_lt x0
    have hkI : (k : Int) < ts.length := by omega
    have h0k : (0 : Int) ≤ k := by omega
    clear ht hTr
    obtain ⟨tA, tC, tl⟩ := t
    simp only at HTL HXk hln
    replace x0 : wo.cell? ⟨bb, off + k, none⟩ = some (.slice tA tl.length tC) := x0
    go_wp2_with fail
    go_loopw [5, 9, 24] (fun x y i w2 => ∃ j m2 : Nat, j ≤ tl.length ∧ i = .int .i64 j ∧ Below wo.heap.size wo w2 ∧ x = vi m2 ∧ m2 < 512 ∧ Hid ((tl.take j).foldl st (some m) = some m2)) (fun _ _ i _ => tl.length - (intOf i).toNat)
    case atStart => exact ⟨0, m, Nat.zero_le _, rfl, Below.refl _ _, rfl, hm, rfl⟩
    obtain ⟨j, m2, hj, rfl, hB2, rfl, hm2, HJ⟩ := hrel
    have hz2 := hB2.size
    have HBW : Below W.heap.size W wr := gr_trans hB hB2
    have HBw : Below w.heap.size w wr := gr_trans HB0 HBW
    by_cases hjl : j < tl.length
    · obtain ⟨x, hx⟩ : ∃ x, tl[j]? = some x := ⟨_, List.getElem?_eq_getElem hjl⟩
      obtain ⟨bc, oc, rfl, hbc, y0⟩ := ints_at (HTL.out.to hB2) hx
      have SX := SUC.out tl j x (some m) hx
      rw [HJ.out, ST.out m2 x] at SX
      have SXX := Lib.hid SX
      have hjI : (j : Int) < tl.length := by omega
      have h0j : (0 : Int) ≤ j := by omega
      have zbc : bc < wr.heap.size := cell_lt y0
      have b0 := cell_keep hB2 a0r
      have b1 := cell_keep hB2 a1r
      have b2 := cell_keep hB2 a2r
      have b3 := cell_keep hB2 a3r
      have b4 := cell_keep hB2 a4r
      have b5 := cell_keep hB2 a5r
      have zb := cell_lt b0
      have NONE : Hid ((tl.take (j + 1)).foldl st (some m) = none → an = false) := fun h => BAD.out (k + 1) (by rw [HXk.out, HG.out]; exact RES.out tl (j + 1) (some m) h)
      clear hx SX a0r a1r a2r a3r a4r a5r x0
      rcases hs : sb x with _ | _
      · have E : Hid (an = false) := NONE.out (by rw [SXX.out, hs]; rfl)
        have SB1 := Lib.hid (SB.out x false hs)
        clear hs
        go_wp2_with fail
        refine (SB1.out _).mono ?_
        rintro e W3 ⟨rfl, hb3⟩
        go_wp2_with fail
        go_ret
        exact ⟨retB E.out.symm, gr_trans HBw hb3⟩
      · have SB1 := Lib.hid (SB.out x true hs)
        obtain ⟨s, rfl, s9⟩ := SR.out x hs
        have HSX := Lib.hid hs
        clear hs
        rcases hb : m2.testBit s with _ | _
        · have HH := Lib.hid (setHas_is hb hm2 s9)
          have HW := Lib.hid (setWith_any m2 s hm2 s9)
          have NEXT : Hid ((tl.take (j + 1)).foldl st (some m) = some (m2 ||| 2 ^ s)) := by unfold Hid; rw [SXX.out, HSX.out]; simp [hb]
          have hlt2 : m2 ||| 2 ^ s < 512 := Nat.or_lt_two_pow (n := 9) (by omega) (Nat.pow_lt_pow_right (by omega) s9)
          obtain ⟨m3, hm3⟩ : ∃ m3, m3 = m2 ||| 2 ^ s := ⟨_, rfl⟩
          rw [← hm3] at HW NEXT hlt2
          clear hb hm3
          go_wp2_with fail
          refine (SB1.out _).mono ?_
          rintro e W3 ⟨rfl, hb3⟩
          go_wp2_with fail
          refine (HH.out _).mono ?_
          rintro e W4 ⟨rfl, hb4⟩
          go_wp2_with fail
          refine (HW.out _).mono ?_
          rintro e W5 ⟨rfl, hb5⟩
          go_wp2_with fail
          go_roundw
          case rel => exact ⟨j + 1, m3, by omega, by go_num, gr_trans (gr_trans (gr_trans hB2 hb3) hb4) hb5, rfl, hlt2, NEXT.out⟩
          case measure => simp [intOf]; omega
        · have HH := Lib.hid (setHas_is hb hm2 s9)
          have E : Hid (an = false) := NONE.out (by rw [SXX.out, HSX.out]; simp [hb])
          clear hb
          go_wp2_with fail
          refine (SB1.out _).mono ?_
          rintro e W3 ⟨rfl, hb3⟩
          go_wp2_with fail
          refine (HH.out _).mono ?_
          rintro e W4 ⟨rfl, hb4⟩
          go_wp2_with fail
          go_ret
          exact ⟨retB E.out.symm, gr_trans (gr_trans HBw hb3) hb4⟩
    · obtain rfl : j = tl.length := by omega
      have NEXT : Hid (G (k + 1) = some m2) := by unfold Hid; rw [HXk.out, HG.out, ← HJ.out, List.take_length]
      go_wp2_with fail
      go_roundw
      case rel => exact ⟨k + 1, m2, by omega, by go_num, HBW, rfl, hm2, NEXT.out⟩
      case measure => simp [intOf]; omega
  · obtain rfl : k = ts.length := by omega
    have E := Lib.hid (FIN.out m HG.out)
    go_wp2_with fail
    refine (AL2.out _).mono ?_
    rintro e W3 ⟨rfl, hb3⟩
    go_wp2_with fail
    go_ret
    exact ⟨retB E.out.symm, gr_trans HBr hb3⟩
end Go.Proofs.YtomgnpfpaodpiaaDoor
/- How a floor, tours, and lists of slips read as data. -/
namespace Go.Proofs.YtomgnpfpaodpiaaDoor
open Go Go.RowKit Go.Deep Go.ChangeShapes Go.WideShapes
set_option maxHeartbeats 1000000
instance : Inhabited SLine := ⟨⟨0, 0⟩⟩
instance : Inhabited SSlip := ⟨⟨none, 0, [], 0⟩⟩
instance : Inhabited STour := ⟨⟨none, 0, []⟩⟩
instance : Inhabited SRow := ⟨⟨none, 0, []⟩⟩
section
variable {H : Type} {enc : TypeId × Value → H} {w : World}
abbrev Rd (P : Program) (enc : TypeId × Value → H) (w : World) (n : Nat) (t : TypeId) (cs : List Value) : Option (DataW H × List MemPlace) := DataW.trod enc P w 0 (fun _ => true) true n t cs
theorem list2 {α : Type} {l : List α} (h : l.length = 2) : ∃ a b, l = [a, b] := by
  match l, h with
  | [a, b], _ => exact ⟨a, b, rfl⟩
theorem us : Tryd.prog.underlying 24 = some (.struct (Tryd.prog.fieldsOf 24)) := by kernel_rfl
theorem ls : ((Tryd.prog.fieldsOf 24).toList.map fun f => (f.type, f.offset)) = [(3, 0), (3, 1)] := by kernel_rfl
theorem ll : ((Tryd.prog.fieldsOf 64).toList.map fun f => (f.type, f.offset)) = [(3, 0), (3, 1)] := by kernel_rfl
theorem lx : ((Tryd.prog.fieldsOf 52).toList.map fun f => (f.type, f.offset)) = [(50, 0), (3, 1)] := by kernel_rfl
theorem ki : Tryd.prog.cellsOf 3 = 1 := by kernel_rfl
theorem ks : Tryd.prog.cellsOf 24 = 2 := by kernel_rfl
theorem bs : Tryd.prog.bytesOf 24 = 16 := by kernel_rfl
end
end Go.Proofs.YtomgnpfpaodpiaaDoor
/- What is left to say when a law has answered true: each argument reads as it did. -/
namespace Go.Proofs.YtomgnpfpaodpiaaDoor
open Go Go.RowKit Go.Deep Go.ChangeShapes Go.WideShapes Go.ChangeAt
set_option maxHeartbeats 1000000
theorem own_knob : ownKnob Tryd.prog.godebug = none := by kernel_rfl
theorem kids : Kids Tryd.prog (· < Tryd.prog.types.size) := kids_rows (by kernel_rfl) (by kernel_rfl)
theorem full : ∀ t e, t < Tryd.prog.types.size → Tryd.prog.underlying t = some (.slice e) → 0 < Tryd.prog.cellsOf e := slices_full_of Tryd.prog (by kernel_rfl)
section
variable {H : Type} {enc : TypeId × Value → H}
theorem carry_all {P : Program} {w w' : World} {b : Nat} {sp : Nat → Bool} {hd : Bool} : ∀ {ts : List TypeId} {vs : List Value} {ds : List (DataW H)} {ps : List MemPlace}, DataW.TrodAll enc P w b sp hd ts vs ds ps → (∀ p ∈ ps, w.sameAt w' p) → DataW.TrodAll enc P w' b sp hd ts vs ds ps
  | [], [], [], _, h, _ => h
  | _ :: _, _ :: _, _ :: _, _, ⟨p, q, ⟨n, h1⟩, h2, e⟩, hs =>
    ⟨p, q, ⟨n, DataW.trod_carry n _ _ _ h1 fun x hx => hs x (by rw [e]; exact List.mem_append_left _ hx)⟩, carry_all h2 fun x hx => hs x (by rw [e]; exact List.mem_append_right _ hx), e⟩
theorem post_true {s : ChangeSpec} {fn : Func} {W W' : World} {args : Array Value} {ds gs : List (DataW H)} {before : List MemPlace}
    (hW : DataW.Whole enc Tryd.prog fn.params.toList s.vars false W args.toList ds gs before) (hv : s.vars = []) (hs : s.fn H ds = { results := [.lit (.bool true)], args := ds })
    (ht : fn.resultTypes = #[4]) (hp : ∀ t ∈ fn.params.toList, t < Tryd.prog.types.size) (hb : Below W.heap.size W W') :
    s.post enc Tryd.prog fn false true false false W args (.bool true) W' := by
  have hW0 := hW
  obtain ⟨p, q, hA, hV, rfl, hfz, hnd⟩ := hW
  rw [hv] at hV
  obtain ⟨rfl, rfl⟩ := trodVars_none hV
  have hlt : ∀ x ∈ p, x.block < W.heap.size := fun x hx => hW0.lt x (by simpa using hx)
  refine ⟨ds, [], p ++ [], [], p, [], hW0, ?_, ?_, ?_, ?_, fun h => by cases h⟩
  · rw [ht, List.append_nil, hs]
    exact trodAll_cons_mk (shut_bool Tryd.underlying4 true) trodAll_mk0
  · rw [List.append_nil, hs]
    exact DataW.TrodAll.respare kids full hp (carry_all hA fun x hx => hb.same (hlt x hx)) fun x hx => by simpa using hlt x hx
  · rw [hv, List.append_nil, hs]
    rfl
  · exact World.keptBut_mono (fun _ h => h.elim) (hb.frame fun _ => False)
end
end Go.Proofs.YtomgnpfpaodpiaaDoor
/- The table of limits, out of what the row lists. -/
namespace Go.Proofs.YtomgnpfpaodpiaaDoor
open Go Go.RowKit Go.Deep Go.ChangeShapes Go.WideShapes
set_option maxHeartbeats 1000000
section
variable {H : Type} {enc : TypeId × Value → H} {w : World} {sp : Nat → Bool} {hd : Bool} {base : Nat}
theorem told_int {n : Nat} {cs : List Value} {y : DataW H × List MemPlace} (h : DataW.trod enc Tryd.prog w base sp hd n 3 cs = some y) : ∃ k, cs = [vi k] ∧ y.1 = .lit (.int .i64 k) := by
  obtain ⟨k, h1, h2, _⟩ := DataW.trod_int Tryd.underlying3 h
  exact ⟨k, h1, by rw [h2]⟩
theorem told_span {n : Nat} {cs : List Value} {y : DataW H × List MemPlace} (h : DataW.trod enc Tryd.prog w base sp hd n 24 cs = some y) : ∃ a b, cs = [vi a, vi b] ∧ y.1 = .agg [.lit (.int .i64 a), .lit (.int .i64 b)] := by
  obtain ⟨xs, m, _, rfl, hl, hlen, hf⟩ := DataW.trod_struct us h
  obtain ⟨c0, c1, rfl⟩ := list2 (hl.trans ks)
  have hsz : (Tryd.prog.fieldsOf 24).size = 2 := by kernel_rfl
  rw [hsz] at hlen
  obtain ⟨x0, x1, rfl⟩ := list2 hlen
  have key : ∀ (i ty off : Nat), ((Tryd.prog.fieldsOf 24).toList.map fun f => (f.type, f.offset))[i]? = some (ty, off) → DataW.trod enc Tryd.prog w base sp hd m ty (([c0, c1].drop off).take (Tryd.prog.cellsOf ty)) = [x0, x1][i]? := by
    intro i ty off hi
    rw [List.getElem?_map] at hi
    cases hfi : (Tryd.prog.fieldsOf 24).toList[i]? with
    | none => rw [hfi] at hi; cases hi
    | some f =>
      rw [hfi] at hi
      simp only [Option.map_some, Option.some.injEq, Prod.mk.injEq] at hi
      obtain ⟨rfl, rfl⟩ := hi
      exact hf i f (by simpa using hfi)
  have h0 := key 0 3 0 (by rw [ls]; rfl)
  have h1 := key 1 3 1 (by rw [ls]; rfl)
  rw [ki] at h0 h1
  obtain ⟨a, e0, d0⟩ := told_int h0
  obtain ⟨b, e1, d1⟩ := told_int h1
  simp at e0 e1
  exact ⟨a, b, by rw [e0, e1], by simp [d0, d1]⟩
end
theorem gLim : Tryd.prog.globalNamed "wishbook/slip.limits" = some 0 := by kernel_rfl
theorem gLimType : (Tryd.prog.globals[0]?).map (·.type) = some 118 := by kernel_rfl
theorem uL : Tryd.prog.underlying 118 = some (.array 10 24) := by kernel_rfl
theorem lim_of {W : World} (h : laidMet Tryd.prog [("wishbook/slip.limits", Rows.laid_wishbook_slip_limits)] W) : Lim W := by
  obtain ⟨ps, ⟨g, t, cs, fuel, p, q, hg, ht, hvar, hd, _, _⟩, _⟩ := h
  obtain rfl := Option.some.inj (gLim.symm.trans hg)
  obtain rfl := Option.some.inj (gLimType.symm.trans ht)
  obtain ⟨xs, m, _, hx, hl, hlen, hf⟩ := DataW.trod_array uL hd
  have hcell := World.var?_cell gLim hvar
  have hxs : xs.map (·.1) = [.agg [.lit (.int .i64 1), .lit (.int .i64 12)], .agg [.lit (.int .i64 0), .lit (.int .i64 500)], .agg [.lit (.int .i64 1), .lit (.int .i64 10)], .agg [.lit (.int .i64 0), .lit (.int .i64 300)], .agg [.lit (.int .i64 1), .lit (.int .i64 20)], .agg [.lit (.int .i64 0), .lit (.int .i64 9)], .agg [.lit (.int .i64 0), .lit (.int .i64 100000)], .agg [.lit (.int .i64 1), .lit (.int .i64 12)], .agg [.lit (.int .i64 1), .lit (.int .i64 20)], .agg [.lit (.int .i64 1), .lit (.int .i64 5)]] := by
    have := congrArg Prod.fst hx
    simpa [Rows.laid_wishbook_slip_limits] using this.symm
  have key : ∀ (k : Nat) (a b : Int), k < 10 → (xs.map (·.1))[k]? = some (.agg [.lit (.int .i64 a), .lit (.int .i64 b)]) → W.cell? ⟨0, k * 2, none⟩ = some (vi a) ∧ W.cell? ⟨0, k * 2 + 1, none⟩ = some (vi b) := by
    intro k a b hk hkx
    have h1 := hf k hk
    rw [ks] at h1
    rw [List.getElem?_map] at hkx
    cases hxk : xs[k]? with
    | none => rw [hxk] at hkx; cases hkx
    | some z =>
      rw [hxk] at h1 hkx
      obtain ⟨a', b', e, hz⟩ := told_span h1
      simp only [Option.map_some, Option.some.injEq] at hkx
      rw [hz] at hkx
      simp only [DataW.agg.injEq, List.cons.injEq, DataW.lit.injEq, Lit.int.injEq, true_and, and_true] at hkx
      obtain ⟨rfl, rfl⟩ := hkx
      have e0 := congrArg (fun l : List Value => l[0]?) e
      have e1 := congrArg (fun l : List Value => l[1]?) e
      simp only [List.getElem?_take, List.getElem?_drop, List.getElem?_cons_zero, List.getElem?_cons_succ] at e0 e1
      refine ⟨(hcell _).trans ?_, (hcell _).trans ?_⟩
      · simpa using e0
      · simpa using e1
  have hpos : 0 < W.heap.size := by
    have := (key 0 1 12 (by omega) (by rw [hxs]; rfl)).1
    exact (cell_none this).2
  have all : ∀ k : Nat, k < 10 → W.cell? ⟨0, k * 2, none⟩ = some (vi (limLo k)) ∧ W.cell? ⟨0, k * 2 + 1, none⟩ = some (vi (limHi k)) := by
    intro k hk
    have : k = 0 ∨ k = 1 ∨ k = 2 ∨ k = 3 ∨ k = 4 ∨ k = 5 ∨ k = 6 ∨ k = 7 ∨ k = 8 ∨ k = 9 := by omega
    rcases this with rfl | rfl | rfl | rfl | rfl | rfl | rfl | rfl | rfl | rfl
    all_goals exact key _ _ _ (by omega) (by rw [hxs]; rfl)
  exact ⟨hpos, fun k hk => (all k hk).1, fun k hk => (all k hk).2⟩
end Go.Proofs.YtomgnpfpaodpiaaDoor
/- A world for the witnesses: the table of limits as the program's text lays it. Arrays of numbers as arguments. -/
namespace Go.Proofs.YtomgnpfpaodpiaaDoor
open Go Go.RowKit Go.Deep Go.ChangeShapes Go.WideShapes
set_option maxHeartbeats 1000000
noncomputable def laidWorld (os : Os) : World :=
  { World.holding Tryd.prog os ⟨#[], #[], []⟩ with heap := (World.holding Tryd.prog os ⟨#[], #[], []⟩).heap.modify 0 fun
      | .cells _ t frozen => .cells #[vi 1, vi 12, vi 0, vi 500, vi 1, vi 10, vi 0, vi 300, vi 1, vi 20, vi 0, vi 9, vi 0, vi 100000, vi 1, vi 12, vi 1, vi 20, vi 1, vi 5] t frozen
      | o => o }
section
variable {H : Type} {enc : TypeId × Value → H} {w : World}
end
end Go.Proofs.YtomgnpfpaodpiaaDoor
/- A range over an iterator that itself ranges over an iterator: the invariant abides the turn of whatever lies beyond the call's beginning and is no cells. -/
namespace Go.Proofs.YtomgnpfpaodpiaaDoor
open Go Go.RowKit
variable {F : Fence} {n : Nat} {P : Program}
/-- what an iterator gives whose rounds all go on: J abides the turn of new blocks that are no cells -/
def SeqO {α : Type} (F : Fence) (n : Nat) (P : Program) (g : Nat) (lb : Array Value) (encs : α → Array Value) (Kp : World → World → Prop) (S : List α → Prop) (N : Nat) (w : World) : Prop :=
  ∀ (l : Nat) (J : List α → World → Prop) (W : World), Below w.heap.size w W → OwnFrom W.heap.size J →
    (∀ pre x W1, J pre W1 → pre.length < N → YieldAt F (n - 1) P l (encs x) W1 fun e W' => e = .returned (.bool true) ∧ J (pre ++ [x]) W' ∧ Kp W1 W' ∧ KeepsFrom W.heap.size W1 W') →
    J [] W → CallsIn F n P g (#[.func (.yield l) #[] #[]] ++ lb) W fun e W' => (∃ v, e = .returned v) ∧ ∃ xs, S xs ∧ J xs W'
/-- what stays of a block below the turned ones -/
theorem heap_stays {X Y : World} {row : Option Nat} {B k : Nat} {o : Obj} (hg : X.grownBy Y row) (hr : ∀ r, row = some r → B ≤ r) (hk : X.heap[k]? = some o) (hkB : k < B) : Y.heap[k]? = some o :=
  (hg.block k (Array.getElem?_eq_some_iff.1 hk).1 (fun e => by have := hr k e.symm; omega)).trans hk
theorem keeps_up {B B' : Nat} {X Y : World} (h : KeepsFrom B X Y) (hB : B ≤ B') : KeepsFrom B' X Y := ⟨h.size, fun k o hk => h.same k o (by omega)⟩
theorem keeps_put {B l : Nat} (W : World) (o : Obj) (hl : l < B) : KeepsFrom B W (W.putObj l o) := ⟨by simp, fun k u hk hu _ => (World.putObj_heap_other (by omega)).trans hu⟩
abbrev lrec (fn : FuncId) (tmps : Array Value) (ps : Array Tmp) (assign body : Code) (D : Nat) (st : LoopState) : Loop := { state := st, pending := none, fn, tmps, params := ps, assign, body, defers := D }
end Go.Proofs.YtomgnpfpaodpiaaDoor
/- The law of Grow within the round of a loop over a function. -/
namespace Go.Proofs.YtomgnpfpaodpiaaDoor
open Go Go.RowKit
variable {P : Program} {n l : Nat}
def noDefer (ops : List Oper) : Bool := ops.all fun o => match o.op with | .defer _ => false | _ => true
theorem wpIn_round {o : Oper} {a : Act} {w : World} {K : Act → World → Prop} {Q : Exit → Act → World → Prop} (hd : ∀ c, o.op ≠ .defer c) (h : o.wpIn Fence.wide n P a w K Q) : o.wpIn (Fence.wide.inRound l) n P a w K Q := by
  unfold Oper.wpIn at *
  refine ⟨h.1, ?_⟩
  have h2 := h.2
  rw [Oper.semAt_eq _ _ _ hd] at h2 ⊢
  generalize (execOp a.eval o).run P w = r at *
  cases r with
  | ok x w' => cases x <;> exact h2
  | halt x w' => cases x <;> exact h2
theorem wpAnyIn_round {md : Region.Mode} {ops : Array Oper} {Q : Exit → Act → World → Prop} (hd : noDefer ops.toList = true) : ∀ (fuel : Nat) (listed : Array Bool) (a : Act) (w : World), wpAnyIn Fence.wide n P md ops Q fuel listed a w → wpAnyIn (Fence.wide.inRound l) n P md ops Q fuel listed a w := by
  intro fuel
  induction fuel with
  | zero => exact fun _ _ _ h => h
  | succ fuel ih =>
    intro listed a w h
    refine ⟨h.1, fun i hi => ?_⟩
    have h2 := h.2 i hi
    unfold wpOpIn at h2 ⊢
    cases ho : ops[i]? with
    | none => rw [ho] at h2; exact ih _ _ _ h2
    | some o =>
      rw [ho] at h2
      dsimp only at h2 ⊢
      have hdo : ∀ c, o.op ≠ .defer c := by
        intro c hc
        have := List.all_eq_true.1 hd o (by rw [Array.mem_toList_iff]; exact Array.mem_of_getElem? ho)
        simp [hc] at this
      split
      · rename_i hw
        rw [if_pos hw] at h2
        exact wpIn_round hdo (Oper.wpIn_mono (fun a w => ih _ a w) h2)
      · rename_i hw
        rw [if_neg hw] at h2
        exact ⟨h2.1, ih _ _ _ h2.2⟩
theorem CallsIn.grow_of {f : FuncId} {args : Array Value} {w : World} {g : More} {v : Value}
    (h : Calls P f args (plus w g) fun e w' => e = .returned v ∧ Below (plus w g).heap.size (plus w g) w') : CallsIn Fence.wide n P f args (plus w g) fun e w'' => e = .returned v ∧ ∃ g', w'' = plus w g' :=
  callsIn_wide.2 (Calls.grow_of h)
end Go.Proofs.YtomgnpfpaodpiaaDoor
