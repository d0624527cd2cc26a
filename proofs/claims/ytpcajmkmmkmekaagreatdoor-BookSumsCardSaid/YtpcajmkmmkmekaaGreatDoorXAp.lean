/- Lists of numbers that grow, and places in them, whatever their capacity. -/
import Derived.Test.YtpcajmkmmkmekaaGreatDoorGo
import Derived.Test.YtpcajmkmmkmekaaGreatDoorXUp2
import Derived.Test.YtpcajmkmmkmekaaGreatDoorGd
import Derived.Laws.AppendOwn
import Derived.Deep.AppendLies
set_option linter.unusedVariables false
set_option linter.unusedSimpArgs false
namespace Go.Proofs.YtpcajmkmmkmekaaGreatDoor
open Go Go.RowKit
set_option maxHeartbeats 4000000
def NotOne (u v : Value) : Prop := ∀ g, u.ownBlock = some g → v.ownBlock = some g → False
theorem notOne_nil : NotOne (.slice none 0 0) (.slice none 0 0) := fun g h => by simp [Value.ownBlock] at h
theorem own_ints {w : World} {base n : Nat} {e : TypeId} {v : Value} {m : List Int} (h : w.ownsRow base e 1 v n (m.map vi)) (hn : m.length = n) (h24 : n ≤ 17592186044416) : ∃ A c, v = .slice A n c ∧ IntsAt w w.heap.size A n m := by
  rcases h.2 with ⟨e1, h0⟩ | ⟨g, cap, cur, e1, _⟩
  · refine ⟨none, 0, by rw [e1, h0], by omega, h24, fun hl => ?_⟩
    rw [List.length_map] at hl
    omega
  · subst e1
    exact ⟨_, cap, rfl, ints_of_own h n (by omega) h24⟩
theorem own_far {w w' : World} {base : Nat} {e : TypeId} {sz n : Nat} {v : Value} {xs : List Value} {row : Option Nat} (h : w.ownsRow base e sz v n xs) (hg : w.grownBy w' row) (hne : ∀ g, row = some g → v.ownBlock = some g → False) : w'.ownsRow base e sz v n xs := by
  refine h.kept hg ?_
  cases hv : v.ownBlock with
  | none => exact .inl rfl
  | some g => exact .inr (fun he => hne g (by simpa using he.symm) hv)
theorem own_block {w : World} {base : Nat} {e : TypeId} {sz n : Nat} {v : Value} {xs : List Value} (h : w.ownsRow base e sz v n xs) {g : Nat} (hg : v.ownBlock = some g) : base ≤ g ∧ g < w.heap.size := by
  rcases h.2 with ⟨e1, _⟩ | ⟨k, cap, cur, e1, e2, e3, _⟩
  · rw [e1] at hg; simp [Value.ownBlock] at hg
  · rw [e1] at hg
    simp only [Value.ownBlock, Option.some.injEq] at hg
    subst hg
    exact ⟨e2, (Array.getElem?_eq_some_iff.1 e3).1⟩
theorem alloc_one (w : World) (u : Value) (t : TypeId) : ∃ V, V = w.alloc (.cells #[u] t) ∧ Below w.heap.size w V ∧ V.cell? ⟨w.heap.size, 0, none⟩ = some u ∧ w.heap.size < V.heap.size :=
  ⟨_, rfl, (Below.refl _ _).alloc (Nat.le_refl _) _, by simp [go_sem], by simp⟩
theorem news_one {w : World} {b : Nat} {u : Value} (h : w.cell? ⟨b, 0, none⟩ = some u) : ∀ j x, [u][j]? = some x → w.cell? ((⟨b, 0, none⟩ : Addr).add j) = some x := by
  intro j x hj
  rcases j with _ | j
  · simp at hj; subst hj; exact h
  · simp at hj
theorem up_append_int {a : Act} {K : Act → World → Prop} {Q : Exit → Act → World → Prop} {w : World} {o : Oper} (s x : Operand) (t : TypeId) (ho : o.op = .call { callee := .builtin .append, args := #[s, x], argTypes := #[t, t] }) (ht : Tryz.prog.underlying t = some (.slice 3))
    (base : Nat) (v : Value) (n : Nat) (xs : List Value) (hs : a.eval s = v) (hown : w.ownsRow base 3 1 v n xs) (b : Nat) (u : Value) (hx : a.eval x = .slice (some ⟨b, 0, none⟩) 1 1)
    (hc : w.cell? ⟨b, 0, none⟩ = some u) (h1 : u.oneCell' = true) (hn : n ≤ 1000000) (hbase : base ≤ w.heap.size)
    (h : ∀ g cap w', w'.ownsRow base 3 1 (.slice (some ⟨g, 0, none⟩) (n + 1) cap) (n + 1) (xs ++ [u]) → w.grownBy w' v.ownBlock → (v.ownBlock = some g ∨ g = w.heap.size) → g < w'.heap.size → K (a.put o.dst (.slice (some ⟨g, 0, none⟩) (n + 1) cap)) w') : o.wp Tryz.prog a w K Q := by
  obtain ⟨i0, hi, hy0, hy1, hy2⟩ := info_parts info_int
  exact wp_append_lies w s x t ho base 3 i0 _ 1 8 ht hi hy0 hy1 hy2 rfl (by omega) v n xs hs hown ⟨b, 0, none⟩ 1 1 [u] hx rfl (news_one hc) (fun y hy => by rw [List.mem_singleton] at hy; subst hy; exact h1) (by omega) (by unfold maxLen; omega) (by omega) hbase _ rfl h
theorem place_free (A : Option Addr) (cap : Nat) (l : List Int) (n : Int) (w : World) (hh : IntsAt w w.heap.size A l.length l) :
    Calls Tryz.prog 39 #[.slice A l.length cap, vi n] w fun e w' => e = .returned (vi (placeF l n)) ∧ w = w' := by
  have hcap := hh.cap
  go_enter Tryz.func39, Tryz.ntmps39
  go_wp2
  go_loopw [5] (fun i wr => ∃ k : Nat, k ≤ l.length ∧ i = .int .i64 k ∧ wr = w ∧ Hid (∀ y, y ∈ l.take k → (y == n) = false)) (fun i _ => l.length - (intOf i).toNat)
  case atStart => exact ⟨0, Nat.zero_le _, rfl, rfl, by simp [Hid]⟩
  case round =>
    obtain ⟨k, hk, rfl, rfl, hno⟩ := hrel
    by_cases hlt : k < l.length
    · obtain ⟨x, hx⟩ : ∃ x, l[k]? = some x := ⟨_, List.getElem?_eq_getElem hlt⟩
      obtain ⟨bb, off, rfl, hb, c0⟩ := hh.at_ hx
      have Hx := Lib.hid hx
      clear hx
      rcases hq : x == n with _ | _
      · have hst := Lib.hid (take_step (p := fun y : Int => y == n) hno.out Hx.out hq)
        go_wp2
        go_roundw
        case rel => exact ⟨k + 1, by omega, by go_num, trivial, hst⟩
        case measure => simp [intOf]; omega
      · have E : Hid (placeF l n = (k : Int)) := by unfold Hid placeF; rw [findIdx_step (p := fun y : Int => y == n) hno.out Hx.out hq]
        go_wp2
        go_ret
        exact ⟨retI E.out.symm, rfl⟩
    · obtain rfl : k = l.length := by omega
      have E : Hid (placeF l n = -1) := by
        have := hno.out
        rw [List.take_length] at this
        unfold Hid placeF
        rw [List.findIdx?_eq_none_iff.2 this]
      go_wp2
      go_ret
      exact ⟨retI E.out.symm, rfl⟩
theorem place_at {l : List Int} {n v : Int} {k : Nat} (h : placeF l n = v) (hk : l.length = k) (A : Option Addr) (cap : Nat) (w : World) (hh : IntsAt w w.heap.size A k l) :
    Calls Tryz.prog 39 #[.slice A k cap, vi n] w fun e w' => e = .returned (vi v) ∧ w = w' := by
  subst h hk
  exact place_free A cap l n w hh
end Go.Proofs.YtpcajmkmmkmekaaGreatDoor

