/- What one picker can be given: plain forms; what stays while rounds go on. -/
import Derived.Test.YtomgnpfpaodpiaaDoorH23
import Derived.Stop.RegionWithIn
set_option linter.unusedVariables false
set_option linter.unusedSimpArgs false
namespace Go.Proofs.YtomgnpfpaodpiaaDoor
open Go Go.RowKit Go.Shelf
/-- every block of cells stays as it was -/
structure CS (w w' : World) : Prop where
  os : w'.os = w.os
  tape : w'.tape = w.tape
  output : w'.output = w.output
  size : w.heap.size ≤ w'.heap.size
  boxes : ∀ (k : Nat) (c : Array Value) (t : TypeId) (z : Nat × Nat), w.heap[k]? = some (.cells c t z) → w'.heap[k]? = some (.cells c t z)
theorem CS.refl (w : World) : CS w w := ⟨rfl, rfl, rfl, Nat.le_refl _, fun _ _ _ _ h => h⟩
theorem CS.trans {a b c : World} (h : CS a b) (k : CS b c) : CS a c := ⟨k.os.trans h.os, k.tape.trans h.tape, k.output.trans h.output, Nat.le_trans h.size k.size, fun i x t z hi => k.boxes i x t z (h.boxes i x t z hi)⟩
theorem cs_of_below {a b : World} (h : Below a.heap.size a b) : CS a b := ⟨h.os, h.tape, h.output, h.size, fun k _ _ _ hk => (h.block k (Array.getElem?_eq_some_iff.1 hk).1).trans hk⟩
theorem CS.cell {a b : World} (h : CS a b) {p : Addr} {v : Value} (hp : a.cell? p = some v) : b.cell? p = some v := by
  unfold World.cell? at hp ⊢
  cases ho : a.heap[p.block]? with
  | none => rw [ho] at hp; cases hp
  | some o =>
    cases o with
    | cells c t z => rw [h.boxes _ c t z ho]; rw [ho] at hp; exact hp
    | _ => rw [ho] at hp; cases hp
theorem CS.box {a b : World} (h : CS a b) {k : Nat} {t : TypeId} {cs : List Value} (hk : CellsBox a k t cs) : CellsBox b k t cs := h.boxes k _ t _ hk
theorem CS.rows {a b : World} (h : CS a b) {sz cap : Nat} {A : Option Addr} {m : List (List Value)} (hr : RowsAt a a.heap.size sz A cap m) : RowsAt b b.heap.size sz A cap m := by
  refine ⟨hr.len, hr.cap, hr.few, fun hl => ?_⟩
  obtain ⟨b', off, hA, hlt, hc⟩ := hr.row hl
  exact ⟨b', off, hA, Nat.lt_of_lt_of_le hlt h.size, fun i r hi j u hj hu => h.cell (hc i r hi j u hj hu)⟩
theorem CS.floor {a b : World} (h : CS a b) {f : Floor} (hf : FloorAt a a.heap.size f) : FloorAt b b.heap.size f := ⟨h.rows hf.far, h.rows hf.picks, h.rows hf.slips, fun s hs => h.rows (hf.each s hs)⟩
theorem CS.turn (W : World) (l : Nat) (o o' : Obj) (h : W.heap[l]? = some o) (h1 : o.isCells = false) : CS W (W.putObj l o') :=
  ⟨rfl, rfl, rfl, by simp, fun k c t z hk => by
    by_cases e : k = l
    · subst e; rw [h] at hk; cases hk; cases h1
    · exact (World.putObj_heap_other e).trans hk⟩
theorem ints_drop {w : World} {B : Nat} {b off cap : Nat} {l : List Int} (h : IntsAt w B (some ⟨b, off, none⟩) cap l) (k : Nat) (hk : k ≤ l.length) : IntsAt w B (some ⟨b, off + k, none⟩) (cap - k) (l.drop k) := by
  have hl := h.lens
  have hc := h.cap
  refine ⟨by simp; omega, by omega, by simp; omega, fun hp => ?_⟩
  obtain ⟨b', off', hA, hlt, hcl⟩ := h.row (by simp at hp ⊢; omega)
  cases hA
  refine ⟨b, off + k, rfl, hlt, fun i r hr j u hj hu => ?_⟩
  have : (l.map intC)[k + i]? = some r := by
    rw [List.getElem?_map] at hr ⊢
    rw [List.getElem?_drop] at hr
    exact hr
  have := hcl (k + i) r this j u hj hu
  rwa [show off + (k + i) * 1 + j = off + k + i * 1 + j by omega] at this
/-- may a slip be given so late -/
def okF (f : Floor) (m : Nat) (sec : Int) (s : Nat) : Bool := m.testBit s && decide (sec + ((secsL f)[s]?.getD 0) ≤ keyF f s)
/-- all that one picker can be given besides, of some slips in their order -/
def loopF (f : Floor) (m : Nat) : Nat → Int → List Nat → List Nat
  | to, _, [] => if to = 0 then [] else [to]
  | to, sec, s :: rest => (if okF f m sec s then loopF f m (to ||| 2 ^ s) (sec + ((secsL f)[s]?.getD 0)) rest else []) ++ loopF f m to sec rest
end Go.Proofs.YtomgnpfpaodpiaaDoor

/- What one picker can be given: the recursive closure. -/
namespace Go.Proofs.YtomgnpfpaodpiaaDoor
open Go Go.RowKit Go.Shelf
set_option maxHeartbeats 2000000
attribute [local go_sem] Oper.semAt_some
theorem yield_any {m m' l : Nat} {P : Program} {args : Array Value} {W : World} {R : Ending → World → Prop} (h : YieldAt Fence.wide m P l args W R) : YieldAt Fence.wide m' P l args W R := by
  obtain ⟨fn, tmps, assign, body, hy, h1, h2⟩ := h
  exact ⟨fn, tmps, assign, body, hy, h1, fun c cs _ => h2 c cs (fun d hd => by cases hd)⟩
abbrev giveV (pD pS pI pG pY : Nat) : Value := .func (.func 118) #[] #[.pointer (some ⟨pD, 0, none⟩), .pointer (some ⟨pS, 0, none⟩), .pointer (some ⟨pI, 0, none⟩), .pointer (some ⟨pG, 0, none⟩), .pointer (some ⟨pY, 0, none⟩)]
abbrev inTimeV (f : Floor) : Value := .func (.func 109) #[f.val] #[]
/-- what the closure that gives slips holds -/
structure GiveAt (w : World) (f : Floor) (m : Nat) (oA qA : Option Addr) (oC qC bm pD pS pI pG pY l : Nat) : Prop where
  desk : CellsBox w pD 108 (deskC f oA oC qA f.slips.length qC bm)
  slips : CellsBox w pS 113 [vi m]
  fn : CellsBox w pI 130 [inTimeV f]
  give : CellsBox w pG 159 [giveV pD pS pI pG pY]
  yield : CellsBox w pY 158 [.func (.yield l) #[] #[]]
  floor : FloorAt w w.heap.size f
  secs : IntsAt w w.heap.size qA f.slips.length (secsL f)
theorem GiveAt.cs {w w' : World} {f : Floor} {m : Nat} {oA qA : Option Addr} {oC qC bm pD pS pI pG pY l : Nat} (h : GiveAt w f m oA qA oC qC bm pD pS pI pG pY l) (hc : CS w w') : GiveAt w' f m oA qA oC qC bm pD pS pI pG pY l :=
  ⟨hc.box h.desk, hc.box h.slips, hc.box h.fn, hc.box h.give, hc.box h.yield, hc.floor h.floor, hc.rows h.secs⟩
theorem loop_drop {f : Floor} {m to : Nat} {sec : Int} {rest : List Nat} {i s : Nat} (h : rest[i]? = some s) : loopF f m to sec (rest.drop i) = (if okF f m sec s then loopF f m (to ||| 2 ^ s) (sec + ((secsL f)[s]?.getD 0)) (rest.drop (i + 1)) else []) ++ loopF f m to sec (rest.drop (i + 1)) := by
  obtain ⟨hi, rfl⟩ := List.getElem?_eq_some_iff.1 h
  rw [List.drop_eq_getElem_cons hi, loopF]
theorem secs_range {f : Floor} (hv : validB f = true) {s : Nat} (hs : s < f.slips.length) : ∃ n, (secsL f)[s]? = some n ∧ 0 ≤ n ∧ n ≤ 20000000 := by
  have h1 : f.slips[s]? = some f.slips[s] := List.getElem?_eq_getElem hs
  have h2 := (tk_range hv (s : Int)).2
  refine ⟨(takesF f f.slips[s]).2, by simp [secsL, h1], ?_⟩
  unfold tkF at h2
  simp only [Int.toNat_natCast, h1] at h2
  exact h2
theorem inTime_is {f : Floor} {s : Nat} (hs : s < f.slips.length) {x : Int} {b : Bool} (hb : decide (x ≤ keyF f s) = b) (w : World) (h : FloorAt w w.heap.size f) :
    Calls Tryd.prog 109 #[f.val, vi s, vi x] w fun e w' => e = .returned (.bool b) ∧ Below w.heap.size w w' := by
  have h1 : f.slips[s]? = some f.slips[s] := List.getElem?_eq_getElem hs
  have := isInTime_any f s x _ h1 w h
  rw [show decide (x ≤ f.slips[s].till) = b from by rw [← hb]; simp [keyF, h1]] at this
  exact this
theorem slice_from (bb off n cap k : Nat) (h1 : k ≤ n) (h2 : n ≤ cap) (W : World) : (Instr.slice 22 (.slice (some ⟨bb, off, none⟩) n cap) (some (.int .i64 (k : Int))) none none).run Tryd.prog W = .ok (.slice (some ⟨bb, if cap = k then off else off + k, none⟩) (n - k) (cap - k)) W := by
  have e1 : (0 : Int) ≤ k ∧ (k : Int) ≤ n := by omega
  have e2 : (⟨bb, off, none⟩ : Addr).add k = ⟨bb, off + k, none⟩ := by unfold Addr.add; split <;> simp_all
  have e3 := size_int W
  simp [Instr.slice, Instr.sliceBounds, Instr.sliceBound, run_underlying Tryd.underlying22, asIntOf, e1, e3, Result.andThen]
  by_cases h : cap = k
  · simp [h, h1]
  · simp [h, h1, e2]
set_option maxRecDepth 100000 in
theorem give_any (f : Floor) (hv : validB f = true) (m : Nat) (hm : m < 512) (oA qA : Option Addr) (oC qC bm pD pS pI pG pY l N B : Nat) (J Jx : List Nat → World → Prop) (hJ : AbidesFrom B J)
    (hY : ∀ (pre : List Nat) (x : Nat) (W1 : World), x < 512 → J pre W1 → pre.length < N → YieldAt Fence.wide 0 Tryd.prog l #[vi x] W1 fun e W' => (e = .returned (.bool true) ∧ J (pre ++ [x]) W' ∧ CS W1 W') ∨ (e = .returned (.bool false) ∧ Jx (pre ++ [x]) W')) :
    ∀ (q : Nat) (rest : List Nat) (to : Nat) (sec : Int) (A : Option Addr) (cap : Nat) (pre : List Nat) (W : World), rest.length = q → to < 512 → 0 ≤ sec → sec + 20000000 * rest.length ≤ 1000000000 → (∀ s ∈ rest, s < f.slips.length) → rest.length ≤ 9 →
      GiveAt W f m oA qA oC qC bm pD pS pI pG pY l → IntsAt W W.heap.size A cap (natsC rest) → J pre W → pre.length + (loopF f m to sec rest).length ≤ N →
      Calls Tryd.prog 118 #[vi to, vi sec, .slice A rest.length cap, .pointer (some ⟨pD, 0, none⟩), .pointer (some ⟨pS, 0, none⟩), .pointer (some ⟨pI, 0, none⟩), .pointer (some ⟨pG, 0, none⟩), .pointer (some ⟨pY, 0, none⟩)] W fun e W' =>
        ∃ b : Bool, e = .returned (.bool b) ∧ Hid ((b = true ∧ J (pre ++ loopF f m to sec rest) W' ∧ CS W W') ∨ (b = false ∧ ∃ d x r, loopF f m to sec rest = d ++ x :: r ∧ Jx (pre ++ d ++ [x]) W')) := by
  intro q
  induction q using Nat.strongRecOn with
  | _ q ih =>
    intro rest to sec A cap pre W hq hto hs0 hs1 hrest hr9 hG hI hJ0 hN
    have h9 := (fine hv).slips9
    have IH := Lib.hid ih
    have HG := Lib.hid hG
    have HI := Lib.hid hI
    have HJ0 := Lib.hid hJ0
    have hIl := hI.lens
    simp only [List.length_map] at hIl
    have HRE := Lib.hid hrest
    have HV := Lib.hid hv
    have HN := Lib.hid hN
    have HQ := Lib.hid hq
    clear ih hG hI hJ0 hrest hv hN hq
    refine (callsIn_wide (n := 6)).1 ?_
    refine callsIn_of_wp Tryd.func118 rfl trivial ?_ rfl
    simp only [Tryd.ntmps118, List.size_toArray, List.length_cons, List.length_nil, Nat.reduceAdd, Nat.reduceSub, Array.replicate_succ, Array.replicate_zero, List.push_toArray, List.append_toArray, List.nil_append, List.cons_append]
    gi_wp2_with fail
    refine wpIn_wide.2 (wp_scope_straight ((wpIn_wide (n := 6)).1 ?_))
    gi_wp2_with fail
    apply wpIn_label
    gi_wp2_with fail
    gi_loopw [12, 13, 14, 17] (fun a b c i wr => ∃ (k : Nat) (em : List Nat), k ≤ rest.length ∧ i = .int .i64 k ∧ Hid (em ++ loopF f m to sec (rest.drop k) = loopF f m to sec rest) ∧ Hid (J (pre ++ em) wr) ∧ Hid (CS W wr)) (fun _ _ _ i _ => rest.length - (intOf i).toNat)
    case atStart => exact ⟨0, [], Nat.zero_le _, rfl, by simp [Hid], by simpa [Hid] using HJ0.out, CS.refl _⟩
    case round =>
      obtain ⟨k, em, hk, rfl, HE, HJk, HC⟩ := hrel
      have HGk := Lib.hid (HG.out.cs HC.out)
      have HIk : Hid (IntsAt wr wr.heap.size A cap (natsC rest)) := HC.out.rows HI.out
      have d0 := HGk.out.desk.cell (j := 7) rfl
      have zD := HGk.out.desk.lt
      have s0 := HGk.out.slips.cell (j := 0) rfl
      have zS := HGk.out.slips.lt
      have i0 := HGk.out.fn.cell (j := 0) rfl
      have zI := HGk.out.fn.lt
      have g0 := HGk.out.give.cell (j := 0) rfl
      have zG := HGk.out.give.lt
      have y0 := HGk.out.yield.cell (j := 0) rfl
      have zY := HGk.out.yield.lt
      by_cases hlt : k < rest.length
      · obtain ⟨s, hs⟩ : ∃ s, rest[k]? = some s := ⟨_, List.getElem?_eq_getElem hlt⟩
        have hsl := HRE.out s (List.mem_of_getElem? hs)
        have HLD := Lib.hid (loop_drop (f := f) (m := m) (to := to) (sec := sec) hs)
        obtain ⟨sq, hsq, hq0, hq1⟩ := secs_range HV.out hsl
        rw [hsq] at HLD
        simp only [Option.getD_some] at HLD
        obtain ⟨bb, off, rfl, hbb, x0⟩ := ints_at HIk.out (k := k) (x := (s : Int)) (by rw [List.getElem?_map, hs]; rfl)
        obtain ⟨bq, offq, hqA, hbq, q0⟩ := ints_at HGk.out.secs hsq
        have zbb := cell_lt x0
        have zbq := cell_lt q0
        simp only at zbb zbq
        have hkI : (k : Int) < rest.length := by omega
        have h0k : (0 : Int) ≤ k := by omega
        have hsI : (s : Int) < f.slips.length := by omega
        have h0s : (0 : Int) ≤ s := by omega
        have HOK : Hid (okF f m sec s = (m.testBit s && decide (sec + sq ≤ keyF f s))) := by unfold Hid okF; rw [hsq]; rfl
        have hlr : 20000000 * (rest.length : Int) ≥ 20000000 := by omega
        rw [hqA] at d0
        clear hs hsq hqA
        rcases hb1 : m.testBit s with _ | _
        · have HH := Lib.hid (setHas_is hb1 hm (by omega : s < 9))
          have HE2 : Hid (em ++ loopF f m to sec (rest.drop (k + 1)) = loopF f m to sec rest) := by
            unfold Hid
            rw [← HE.out, HLD.out, HOK.out, hb1]
            simp
          gi_wp2_with fail
          refine ⟨trivial, ?_⟩
          refine (callsIn_wide.2 (HH.out _)).mono ?_
          rintro e W1 ⟨rfl, hbh⟩
          have HJ1 : Hid (J (pre ++ em) W1) := abides_below hJ HJk.out hbh
          have HC1 : Hid (CS W W1) := HC.out.trans (cs_of_below hbh)
          gi_wp2_with fail
          refine ⟨fun _ h => (by cases h), ?_⟩
          gi_wp2_with fail
          go_roundw
          case rel => exact ⟨k + 1, em, by omega, by go_num, HE2, HJ1, HC1⟩
          case measure => simp [intOf]; omega
        · have HH := Lib.hid (setHas_is hb1 hm (by omega : s < 9))
          rcases hb2 : decide (sec + sq ≤ keyF f s) with _ | _
          · have HT := Lib.hid (fun W hW => inTime_is hsl hb2 W hW)
            have HE2 : Hid (em ++ loopF f m to sec (rest.drop (k + 1)) = loopF f m to sec rest) := by
              unfold Hid
              rw [← HE.out, HLD.out, HOK.out, hb1, hb2]
              simp
            gi_wp2_with fail
            refine ⟨trivial, ?_⟩
            refine (callsIn_wide.2 (HH.out _)).mono ?_
            rintro e W1 ⟨rfl, hbh⟩
            have i1 := cell_keep hbh i0
            have zI1 := cell_lt i1
            gi_wp2_with fail
            refine ⟨trivial, ?_⟩
            refine (callsIn_wide.2 (HT.out _ ((cs_of_below hbh).floor HGk.out.floor))).mono ?_
            rintro e W2 ⟨rfl, hbt⟩
            have HJ1 : Hid (J (pre ++ em) W2) := abides_below hJ HJk.out (gr_trans hbh hbt)
            have HC1 : Hid (CS W W2) := HC.out.trans (cs_of_below (gr_trans hbh hbt))
            gi_wp2_with fail
            go_roundw
            case rel => exact ⟨k + 1, em, by omega, by go_num, HE2, HJ1, HC1⟩
            case measure => simp [intOf]; omega
          · have HT := Lib.hid (fun W hW => inTime_is hsl hb2 W hW)
            have HE2 : Hid (em ++ (loopF f m (to ||| 2 ^ s) (sec + sq) (rest.drop (k + 1)) ++ loopF f m to sec (rest.drop (k + 1))) = loopF f m to sec rest) := by
              unfold Hid
              rw [← HE.out, HLD.out, HOK.out, hb1, hb2]
              simp
            have HW := Lib.hid (setWith_any to s hto (by omega : s < 9))
            have hto2 : to ||| 2 ^ s < 512 := Nat.or_lt_two_pow (n := 9) (by omega) (Nat.pow_lt_pow_right (by omega) (by omega))
            obtain ⟨t2, ht2⟩ : ∃ t2, t2 = to ||| 2 ^ s := ⟨_, rfl⟩
            rw [← ht2] at HW HE2 hto2
            have hkr : k + 1 ≤ rest.length := by omega
            obtain ⟨o2, ho2⟩ : ∃ o2, o2 = if cap = k + 1 then off else off + (k + 1) := ⟨_, rfl⟩
            have hif : (if cap = k + 1 then (some ⟨bb, off, none⟩ : Option Addr) else some ⟨bb, off + (k + 1), none⟩) = some ⟨bb, o2, none⟩ := by rw [ho2]; split <;> rfl
            have GIVE : Hid (∀ Wx : World, CS W Wx → J (pre ++ em) Wx → Calls Tryd.prog 118 #[vi t2, vi (sec + sq), .slice (some ⟨bb, o2, none⟩) (rest.length - (k + 1)) (cap - (k + 1)), .pointer (some ⟨pD, 0, none⟩), .pointer (some ⟨pS, 0, none⟩), .pointer (some ⟨pI, 0, none⟩), .pointer (some ⟨pG, 0, none⟩), .pointer (some ⟨pY, 0, none⟩)] Wx fun e W' =>
                ∃ b : Bool, e = .returned (.bool b) ∧ Hid ((b = true ∧ J (pre ++ em ++ loopF f m t2 (sec + sq) (rest.drop (k + 1))) W' ∧ CS Wx W') ∨ (b = false ∧ ∃ d x r, loopF f m t2 (sec + sq) (rest.drop (k + 1)) = d ++ x :: r ∧ Jx (pre ++ em ++ d ++ [x]) W'))) := fun Wx hc hj => by
              have hlen : (rest.drop (k + 1)).length = rest.length - (k + 1) := List.length_drop
              have h1 := IH.out (rest.drop (k + 1)).length (by rw [hlen, ← HQ.out]; omega) (rest.drop (k + 1)) t2 (sec + sq) (some ⟨bb, o2, none⟩) (cap - (k + 1)) (pre ++ em) Wx rfl hto2 (by omega) (by rw [hlen]; omega) (fun x hx => HRE.out x (List.mem_of_mem_drop hx)) (by rw [hlen]; omega) (HG.out.cs hc) (by
                have h7 := ints_drop (hc.rows HI.out) (k + 1) (by simpa using hkr)
                rw [← List.map_drop] at h7
                by_cases hck : cap = k + 1
                · have h8 : rest.drop (k + 1) = [] := List.drop_of_length_le (by omega)
                  rw [h8]
                  exact ⟨by simp, by omega, by simp, fun h => by simp at h⟩
                · rw [ho2, if_neg hck]
                  exact h7) hj (by
                have h2 := congrArg List.length HE2.out
                have h3 := HN.out
                simp only [List.length_append] at h2 h3 ⊢
                omega)
              rw [hlen] at h1
              exact h1
            have hkA : (0 : Int) ≤ (k : Int) + 1 := by omega
            have hwr : IntKind.wrap .i64 ((k : Int) + 1) = (k : Int) + 1 := wrapI (by omega) (by omega)
            have hkB : (k : Int) + 1 ≤ rest.length := by omega
            clear ho2 ht2
            gi_wp2_with fail
            refine ⟨trivial, ?_⟩
            refine (callsIn_wide.2 (HH.out _)).mono ?_
            rintro e W1 ⟨rfl, hbh⟩
            have i1 := cell_keep hbh i0
            have zI1 := cell_lt i1
            gi_wp2_with fail
            refine ⟨trivial, ?_⟩
            refine (callsIn_wide.2 (HT.out _ ((cs_of_below hbh).floor HGk.out.floor))).mono ?_
            rintro e W2 ⟨rfl, hbt⟩
            have hbb2 := gr_trans hbh hbt
            have HJ1 : Hid (J (pre ++ em) W2) := abides_below hJ HJk.out hbb2
            have HC1 : Hid (CS W W2) := HC.out.trans (cs_of_below hbb2)
            have g2 := cell_keep hbb2 g0
            have zG2 := cell_lt g2
            clear i1 zI1 hbh hbt d0 s0 i0 y0 x0 q0
            gi_wp2_with fail
            gi_region_with (first
              | (refine ⟨trivial, ?_⟩; gi_at_call 97; go_loud (refine (callsIn_wide.2 (HW.out _)).mono ?_; rintro e wq ⟨rfl, hbq⟩; have HBq : Below W2.heap.size W2 wq := (by (repeat (first | exact Below.refl _ _ | refine Below.setCell ?_ (by first | omega | (simp; omega) | (simp; done)) _ | refine Below.alloc ?_ (by first | omega | (simp; omega) | (simp; done)) _ | refine Below.drew ?_ | refine below_drewN ?_ _ | refine Below.trans ?_ (Below.mono (by assumption) (by first | omega | (simp; omega) | (simp; done)))))); have g3 : wq.cell? ⟨pG, 0, none⟩ = some (giveV pD pS pI pG pY) := cell_keep HBq g2; have zG3 : pG < wq.heap.size := cell_lt g3))
              | (refine ⟨trivial, ?_⟩; gi_at_call 118; go_loud (refine (callsIn_wide.2 (GIVE.out _ (HC1.out.trans (cs_of_below HBq)) (abides_below hJ HJ1.out HBq))).mono ?_; rintro e wv ⟨b, rfl, hT⟩)))
            all_goals
              rcases b with _ | _
              · have hT2 : Hid (∃ d x r, loopF f m to sec rest = d ++ x :: r ∧ Jx (pre ++ d ++ [x]) wv) := by
                  rcases hT.out with ⟨h, _⟩ | ⟨_, d, x, r, h1, h2⟩
                  · cases h
                  · refine ⟨em ++ d, x, r ++ loopF f m to sec (rest.drop (k + 1)), ?_, ?_⟩
                    · rw [← HE2.out, h1]; simp
                    · simpa using h2
                clear hT
                gi_wp2_with fail
                dsimp only [Exit.noGoto]
                go_ret
                exact ⟨false, rfl, .inr ⟨rfl, hT2.out⟩⟩
              · have hT2 : Hid (J (pre ++ (em ++ loopF f m t2 (sec + sq) (rest.drop (k + 1)))) wv ∧ CS W wv) := by
                  rcases hT.out with ⟨_, h1, h2⟩ | ⟨h, _⟩
                  · exact ⟨by simpa using h1, (HC1.out.trans (cs_of_below HBq)).trans h2⟩
                  · cases h
                have HE3 : Hid ((em ++ loopF f m t2 (sec + sq) (rest.drop (k + 1))) ++ loopF f m to sec (rest.drop (k + 1)) = loopF f m to sec rest) := by unfold Hid; rw [← HE2.out]; simp
                clear hT
                gi_wp2_with fail
                go_roundw
                case rel => exact ⟨k + 1, _, by omega, by go_num, HE3, hT2.out.1, hT2.out.2⟩
                case measure => simp [intOf]; omega
      · obtain rfl : k = rest.length := by omega
        have hd0 : rest.drop rest.length = [] := List.drop_length
        have HE2 := Lib.hid HE.out
        rw [hd0, loopF] at HE2
        clear hd0 HE
        by_cases hto0 : to = 0
        · have hdc : decide (to = 0) = true := by simpa using hto0
          have HJ9 : Hid (J (pre ++ loopF f m to sec rest) wr ∧ CS W wr) := by
            rw [if_pos hto0, List.append_nil] at HE2
            exact ⟨by rw [← HE2.out]; exact HJk.out, HC.out⟩
          clear HE2
          subst hto0
          gi_wp2_with fail
          refine ⟨fun _ h => (by cases h), ?_⟩
          gi_wp2_with fail
          dsimp only [Exit.noGoto]
          go_ret
          exact ⟨true, rfl, .inl ⟨rfl, HJ9.out.1, HJ9.out.2⟩⟩
        · have hdc : decide (to = 0) = false := by simpa using hto0
          have hToI : ¬ ((to : Int) = 0) := by omega
          rw [if_neg hto0] at HE2
          have HL : Hid (pre.length + em.length < N) := by
            have h1 := congrArg List.length HE2.out
            have h2 := HN.out
            simp at h1 h2
            unfold Hid
            omega
          obtain ⟨fn, tmps, assign, body, hy, hR⟩ := yield_any (m' := 5) (hY (pre ++ em) to wr hto HJk.out (by simpa using HL.out))
          gi_wp2_with fail
          refine hR.mono ?_
          clear hy
          rintro e W3 (⟨rfl, hJ3, hk3⟩ | ⟨rfl, hJx3⟩)
          · have HJ9 : Hid (J (pre ++ loopF f m to sec rest) W3 ∧ CS W W3) := by
              rw [← HE2.out]
              exact ⟨by simpa using hJ3, HC.out.trans hk3⟩
            clear hJ3 hk3
            gi_wp2_with fail
            dsimp only [Exit.noGoto]
            go_ret
            exact ⟨true, rfl, .inl ⟨rfl, HJ9.out.1, HJ9.out.2⟩⟩
          · have HJ9 : Hid (∃ d x r, loopF f m to sec rest = d ++ x :: r ∧ Jx (pre ++ d ++ [x]) W3) := ⟨em, to, [], HE2.out.symm, hJx3⟩
            clear hJx3
            gi_wp2_with fail
            dsimp only [Exit.noGoto]
            go_ret
            exact ⟨((to : Int) == 0), rfl, .inr ⟨by simpa using hto0, HJ9.out⟩⟩
end Go.Proofs.YtomgnpfpaodpiaaDoor

