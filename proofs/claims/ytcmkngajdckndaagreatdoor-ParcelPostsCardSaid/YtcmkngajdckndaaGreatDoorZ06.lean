/- Rules by which a run of that machine is computed. Conditions: none. -/
import Derived.Test.YtcmkngajdckndaaGreatDoorZ05
set_option linter.unusedVariables false
set_option linter.unusedSimpArgs false
noncomputable section
namespace Go
namespace Lm
variable {P : Program} {nv : Nat} {ih : Rec} {vs : Vs} {h : Hp} {nx : Nat}
def appF (P : Program) (t u : TypeId) : Option Nat := match ty P t, ty P u with
  | some i, some k => (match i.desc, k.desc with
    | .slice e, .slice _ => (match ty P e with | some j => (match j.zero with | some z => bif Nat.ble 1 j.size && Nat.beq z.cells.size j.size && Nat.ble j.bytes 65536 && Nat.ble 1 j.bytes then some j.size else none | none => none) | none => none)
    | _, _ => none)
  | _, _ => none
def appO (h : Hp) (nx : Nat) (sz : Option Nat) (s x : Option Value) : Out := match sz, s, x with
  | some size, some s, some x => (match z2h h size x with
    | some (n, new) => Nat.rec (z6v h nx s) (fun _ _ => Bool.rec .bad (z9k h nx size s n new) (room nx)) n
    | none => .bad)
  | _, _, _ => .bad
theorem zi2 (s x : Operand) (t u : TypeId) : rOp P nv ih (.call { callee := .builtin .append, args := #[s, x], argTypes := #[t, u] }) vs h nx = appO h nx (appF P t u) (opV nv s vs) (opV nv x vs) := by
  unfold rOp
  show runO (z4d P nv { callee := .builtin .append, args := #[s, x], argTypes := #[t, u] }) ih vs [] h nx = _
  obtain ⟨f, hf⟩ := z03 nv s
  obtain ⟨g, hg⟩ := z03 nv x
  have hm : dXs nv [s, x] = .mk [f, g] := by
    have e : dXs nv [s, x] = match dX nv s, (match dX nv x, dXs nv [] with | .mk f, .mk l => XL.mk (f :: l)) with | .mk f, .mk l => XL.mk (f :: l) := rfl
    rw [e, hf, hg]; rfl
  unfold z4d
  simp only [hm]
  rw [← z6w hf, ← z6w hg]
  unfold z30 appF
  simp only
  cases ty P t with
  | none => cases ty P u <;> rfl
  | some i =>
    cases ty P u with
    | none => rfl
    | some k =>
      simp only
      cases i.desc with
      | slice e =>
        cases k.desc with
        | slice e' =>
          simp only
          cases ty P e with
          | none => rfl
          | some j =>
            simp only
            cases j.zero with
            | none => rfl
            | some z =>
              simp only
              cases (Nat.ble 1 j.size && Nat.beq z.cells.size j.size && Nat.ble j.bytes 65536 && Nat.ble 1 j.bytes) with
              | false => rfl
              | true =>
                show z5c j.size f g ih vs [] h nx = appO h nx (some j.size) (f vs []) (g vs [])
                unfold z5c appO
                cases f vs [] with
                | none => rfl
                | some a => cases g vs [] <;> rfl
        | _ => rfl
      | _ => cases k.desc <;> rfl
theorem zw7 {r o len cap size : Nat} {cs cs' new : List Value} {b : Option Nat} {x : Value} (hr : hget h r = some (.cells cs b)) (hx : z2h h size x = some (1, new)) (hc : cap < HALF) (hfit : len + 1 ≤ cap) (hsm : len + 1 ≤ 65536) (hsp : z0y cs (o + len * size) new = some cs') :
    appO h nx (some size) (some (.slice (some ⟨r, o, none⟩) len cap)) (some x) = .gen (.slice (some ⟨r, o, none⟩) (len + 1) cap) (hset h r (.cells cs' b)) nx [r] := by
  unfold appO
  simp only [hx, z5r]
  show z9k h nx size (.slice (some ⟨r, o, none⟩) len cap) 1 new = _
  unfold z9k
  simp only [hr, z0h]
  unfold z9g
  have e1 : Nat.ble (Nat.add len 1) 65536 = true := by rw [z1b]; simpa using hsm
  have e2 : Nat.blt cap HALF = true := by rw [z0c]; simpa using hc
  have e3 : Nat.blt cap (Nat.add len 1) = false := by rw [z0c]; simpa using hfit
  rw [e1, e2, e3]
  simp only [cond_true, cond_false]
  have e4 : z0y cs (Nat.add o (Nat.mul len size)) new = some cs' := hsp
  rw [e4]
theorem z6k {size r : Nat} {cs : List Value} (hc : rowL h r = some cs) (hl : cs.length = size) : z2h h size (.slice (some ⟨r, 0, none⟩) 1 1) = some (1, cs) := by
  unfold z2h
  simp only [hc]
  have e : Nat.mul 1 size = size := Nat.one_mul size
  rw [e, z3g, List.drop_zero]
  have : ∀ (l : List Value), z2s l.length l = some l := fun l => by
    induction l with
    | nil => rfl
    | cons y l ih => rw [List.length_cons, z34, ih]
  rw [← hl, this cs]
def z6z (size : Nat) (x y w : Option Value) : Option Value := match x, y, w with
  | some (.slice (some ⟨r, o, none⟩) n c), some hv, some mv => z3l size r o n c (Bool.rec n c (Nat.blt c HALF)) none (some hv) (some mv)
  | some (.slice none 0 0), some hv, some mv => (match z1t 0 none 0, z1t 0 (some hv) 0, z1t 0 (some mv) 0 with | some _, some _, some _ => some (.slice none 0 0) | _, _, _ => none)
  | _, _, _ => none
theorem ziy {size r o n c : Nat} (hc : c < HALF) (hn : n ≤ c) : z6z size (some (.slice (some ⟨r, o, none⟩) n c)) (some (.int .i64 (n : Int))) (some (.int .i64 (n : Int))) = some (.slice (some ⟨r, o, none⟩) n n) := by
  unfold z6z z3l
  have e2 : Nat.blt c HALF = true := by rw [z0c]; simpa using hc
  have e3 : Nat.blt n HALF = true := by rw [z0c]; simp; omega
  simp only [e2]
  have b1 : ∀ k d, n ≤ k → z1t k (some (.int .i64 (n : Int))) d = some n := fun k d hk => by
    show (Bool.rec none (some n) (Nat.ble n k) : Option Nat) = _
    rw [z1b]
    simp [hk]
  rw [b1 c 0 hn]
  simp only
  rw [b1 n 0 (Nat.le_refl _)]
  simp only
  show (Bool.rec none (mkSl size r o 0 n n) (Nat.blt n HALF) : Option Value) = _
  rw [e3]
  unfold mkSl
  simp only [z0h]
  have e5 : Nat.add o (Nat.mul 0 size) = o := by show o + 0 * size = o; omega
  rw [e5]
  cases Nat.beq n 0 <;> rfl
theorem z9l (t : TypeId) (x y w : Operand) : rOp P nv ih (.slice t x none (some y) (some w)) vs h nx = match z5h P t with
    | some (none, _, size) => outP (z6z size (opV nv x vs) (opV nv y vs) (opV nv w vs))
    | _ => rOp P nv ih (.slice t x none (some y) (some w)) vs h nx := by
  cases he : z5h P t with
  | none => rfl
  | some q =>
    obtain ⟨n, agg, size⟩ := q
    cases n with
    | some n => rfl
    | none =>
      simp only
      unfold rOp
      show runO (z50 P nv t x none (some y) (some w)) ih vs [] h nx = _
      unfold z5h at he
      unfold z50 XO
      obtain ⟨f, hf⟩ := z03 nv y
      obtain ⟨g, hg⟩ := z03 nv w
      obtain ⟨k, hk⟩ := z03 nv x
      simp only [hf, hg]
      cases hi : ty P t with
      | none => rw [hi] at he; cases he
      | some i =>
        rw [hi] at he
        simp only at he ⊢
        cases hd : i.desc with
        | slice e =>
          rw [hd] at he
          simp only at he ⊢
          cases hj : ty P e with
          | none => rw [hj] at he; cases he
          | some j =>
            rw [hj] at he
            cases he
            simp only
            unfold pv1
            rw [hk]
            show outP (z59 j.size k none (some f) (some g) vs []) = _
            rw [← z6w hk, ← z6w hf, ← z6w hg]
            unfold z59 evO z6z
            dsimp only
            generalize k vs [] = u
            generalize f vs [] = v2
            generalize g vs [] = v3
            cases u with
            | none => cases v2 <;> cases v3 <;> rfl
            | some u =>
              cases u with
              | slice a n c =>
                cases a with
                | none => cases n <;> cases c <;> cases v2 <;> cases v3 <;> rfl
                | some a => obtain ⟨r, o, sp⟩ := a; cases sp <;> cases v2 <;> cases v3 <;> rfl
              | _ => cases v2 <;> cases v3 <;> rfl
        | array n e =>
          rw [hd] at he
          simp only at he
          cases hj : ty P e with
          | none => rw [hj] at he; cases he
          | some j => rw [hj] at he; cases he
        | _ => rw [hd] at he; cases he
end Lm
end Go
