/- What one picker can be given: the recursive closure. -/
import Derived.Test.YtomgnpfpaodpiaaDoorJ07
import Derived.Stop.RegionWithIn
import Derived.WalkSpells
import Derived.Test.YtomgnpfpaodpiaaDoorJ02
import Derived.Deep.RegionHeld3
import Derived.Deep.AppendLies
set_option linter.unusedVariables false
set_option linter.unusedSimpArgs false
namespace Go.Proofs.YtomgnpfpaodpiaaDoor
open Go Go.RowKit Go.Shelf
set_option maxHeartbeats 2000000
attribute [local go_sem] Oper.semAt_some
theorem yield_any {m m' l : Nat} {P : Program} {args : Array Value} {W : World} {R : Ending → World → Prop} (h : YieldAt Fence.wide m P l args W R) : YieldAt Fence.wide m' P l args W R := by
  obtain ⟨fn, tmps, assign, body, hy, h1, h2⟩ := h
  exact ⟨fn, tmps, assign, body, hy, h1, fun c cs _ => h2 c cs (fun d hd => by cases hd)⟩
abbrev giveV (pD pS pI pG pY : Nat) : Value := .func (.func 118) #[] #[.pointer (some ⟨pD, 0, none⟩), .pointer (some ⟨pS, 0, none⟩), .pointer (some ⟨pI, 0, none⟩), .pointer (some ⟨pG, 0, none⟩), .pointer (some ⟨pY, 0, none⟩)]
abbrev inTimeV (f : Floor) : Value := .func (.func 109) #[f.val] #[]
/-- what the closure that gives slips holds -/
structure GiveAt (w : World) (f : Floor) (m : Nat) (oA qA : Option Addr) (oC qC bm pD pS pI pG pY l : Nat) : Prop where
  desk : CellsBox w pD 108 (deskC f oA oC qA f.slips.length qC bm)
  slips : CellsBox w pS 113 [vi m]
  fn : CellsBox w pI 130 [inTimeV f]
  give : CellsBox w pG 159 [giveV pD pS pI pG pY]
  yield : CellsBox w pY 158 [.func (.yield l) #[] #[]]
  floor : FloorAt w w.heap.size f
  secs : IntsAt w w.heap.size qA f.slips.length (secsL f)
theorem GiveAt.cs {w w' : World} {f : Floor} {m : Nat} {oA qA : Option Addr} {oC qC bm pD pS pI pG pY l : Nat} (h : GiveAt w f m oA qA oC qC bm pD pS pI pG pY l) (hc : CS w w') : GiveAt w' f m oA qA oC qC bm pD pS pI pG pY l :=
  ⟨hc.box h.desk, hc.box h.slips, hc.box h.fn, hc.box h.give, hc.box h.yield, hc.floor h.floor, hc.rows h.secs⟩
theorem loop_drop {f : Floor} {m to : Nat} {sec : Int} {rest : List Nat} {i s : Nat} (h : rest[i]? = some s) : loopF f m to sec (rest.drop i) = (if okF f m sec s then loopF f m (to ||| 2 ^ s) (sec + ((secsL f)[s]?.getD 0)) (rest.drop (i + 1)) else []) ++ loopF f m to sec (rest.drop (i + 1)) := by
  obtain ⟨hi, rfl⟩ := List.getElem?_eq_some_iff.1 h
  rw [List.drop_eq_getElem_cons hi, loopF]
theorem secs_range {f : Floor} (hv : validB f = true) {s : Nat} (hs : s < f.slips.length) : ∃ n, (secsL f)[s]? = some n ∧ 0 ≤ n ∧ n ≤ 20000000 := by
  have h1 : f.slips[s]? = some f.slips[s] := List.getElem?_eq_getElem hs
  have h2 := (tk_range hv (s : Int)).2
  refine ⟨(takesF f f.slips[s]).2, by simp [secsL, h1], ?_⟩
  unfold tkF at h2
  simp only [Int.toNat_natCast, h1] at h2
  exact h2
theorem inTime_is {f : Floor} {s : Nat} (hs : s < f.slips.length) {x : Int} {b : Bool} (hb : decide (x ≤ keyF f s) = b) (w : World) (h : FloorAt w w.heap.size f) :
    Calls Tryd.prog 109 #[f.val, vi s, vi x] w fun e w' => e = .returned (.bool b) ∧ Below w.heap.size w w' := by
  have h1 : f.slips[s]? = some f.slips[s] := List.getElem?_eq_getElem hs
  have := isInTime_any f s x _ h1 w h
  rw [show decide (x ≤ f.slips[s].till) = b from by rw [← hb]; simp [keyF, h1]] at this
  exact this
theorem slice_from (bb off n cap k : Nat) (h1 : k ≤ n) (h2 : n ≤ cap) (W : World) : (Instr.slice 22 (.slice (some ⟨bb, off, none⟩) n cap) (some (.int .i64 (k : Int))) none none).run Tryd.prog W = .ok (.slice (some ⟨bb, if cap = k then off else off + k, none⟩) (n - k) (cap - k)) W := by
  have e1 : (0 : Int) ≤ k ∧ (k : Int) ≤ n := by omega
  have e2 : (⟨bb, off, none⟩ : Addr).add k = ⟨bb, off + k, none⟩ := by unfold Addr.add; split <;> simp_all
  have e3 := size_int W
  simp [Instr.slice, Instr.sliceBounds, Instr.sliceBound, run_underlying Tryd.underlying22, asIntOf, e1, e3, Result.andThen]
  by_cases h : cap = k
  · simp [h, h1]
  · simp [h, h1, e2]
set_option maxRecDepth 100000 in
theorem give_any (f : Floor) (hv : validB f = true) (m : Nat) (hm : m < 512) (oA qA : Option Addr) (oC qC bm pD pS pI pG pY l N B : Nat) (J Jx : List Nat → World → Prop) (hJ : AbidesFrom B J)
    (hY : ∀ (pre : List Nat) (x : Nat) (W1 : World), x < 512 → J pre W1 → pre.length < N → YieldAt Fence.wide 0 Tryd.prog l #[vi x] W1 fun e W' => (e = .returned (.bool true) ∧ J (pre ++ [x]) W' ∧ CS W1 W') ∨ (e = .returned (.bool false) ∧ Jx (pre ++ [x]) W')) :
    ∀ (q : Nat) (rest : List Nat) (to : Nat) (sec : Int) (A : Option Addr) (cap : Nat) (pre : List Nat) (W : World), rest.length = q → to < 512 → 0 ≤ sec → sec + 20000000 * rest.length ≤ 1000000000 → (∀ s ∈ rest, s < f.slips.length) → rest.length ≤ 9 →
      GiveAt W f m oA qA oC qC bm pD pS pI pG pY l → IntsAt W W.heap.size A cap (natsC rest) → J pre W → pre.length + (loopF f m to sec rest).length ≤ N →
      Calls Tryd.prog 118 #[vi to, vi sec, .slice A rest.length cap, .pointer (some ⟨pD, 0, none⟩), .pointer (some ⟨pS, 0, none⟩), .pointer (some ⟨pI, 0, none⟩), .pointer (some ⟨pG, 0, none⟩), .pointer (some ⟨pY, 0, none⟩)] W fun e W' =>
        ∃ b : Bool, e = .returned (.bool b) ∧ Hid ((b = true ∧ J (pre ++ loopF f m to sec rest) W' ∧ CS W W') ∨ (b = false ∧ ∃ d x r, loopF f m to sec rest = d ++ x :: r ∧ Jx (pre ++ d ++ [x]) W')) := by
  intro q
  induction q using Nat.strongRecOn with
  | _ q ih =>
    intro rest to sec A cap pre W hq hto hs0 hs1 hrest hr9 hG hI hJ0 hN
    have h9 := (fine hv).slips9
    have IH := Lib.hid ih
    have HG := Lib.hid hG
    have HI := Lib.hid hI
    have HJ0 := Lib.hid hJ0
    have hIl := hI.lens
    simp only [List.length_map] at hIl
    have HRE := Lib.hid hrest
    have HV := Lib.hid hv
    have HN := Lib.hid hN
    have HQ := Lib.hid hq
    clear ih hG hI hJ0 hrest hv hN hq
    refine (callsIn_wide (n := 6)).1 ?_
    refine callsIn_of_wp Tryd.func118 rfl trivial ?_ rfl
    simp only [Tryd.ntmps118, List.size_toArray, List.length_cons, List.length_nil, Nat.reduceAdd, Nat.reduceSub, Array.replicate_succ, Array.replicate_zero, List.push_toArray, List.append_toArray, List.nil_append, List.cons_append]
    gi_wp2_with fail
    refine wpIn_wide.2 (wp_scope_straight ((wpIn_wide (n := 6)).1 ?_))
    gi_wp2_with fail
    apply wpIn_label
    gi_wp2_with fail
    gi_loopw [12, 13, 14, 17] (fun a b c i wr => ∃ (k : Nat) (em : List Nat), k ≤ rest.length ∧ i = .int .i64 k ∧ Hid (em ++ loopF f m to sec (rest.drop k) = loopF f m to sec rest) ∧ Hid (J (pre ++ em) wr) ∧ Hid (CS W wr)) (fun _ _ _ i _ => rest.length - (intOf i).toNat)
    case atStart => exact ⟨0, [], Nat.zero_le _, rfl, by simp [Hid], by simpa [Hid] using HJ0.out, CS.refl _⟩
    case round =>
      obtain ⟨k, em, hk, rfl, HE, HJk, HC⟩ := hrel
      have HGk := Lib.hid (HG.out.cs HC.out)
      have HIk : Hid (IntsAt wr wr.heap.size A cap (natsC rest)) := HC.out.rows HI.out
      have d0 := HGk.out.desk.cell (j := 7) rfl
      have zD := HGk.out.desk.lt
      have s0 := HGk.out.slips.cell (j := 0) rfl
      have zS := HGk.out.slips.lt
      have i0 := HGk.out.fn.cell (j := 0) rfl
      have zI := HGk.out.fn.lt
      have g0 := HGk.out.give.cell (j := 0) rfl
      have zG := HGk.out.give.lt
      have y0 := HGk.out.yield.cell (j := 0) rfl
      have zY := HGk.out.yield.lt
      by_cases hlt : k < rest.length
      · obtain ⟨s, hs⟩ : ∃ s, rest[k]? = some s := ⟨_, List.getElem?_eq_getElem hlt⟩
        have hsl := HRE.out s (List.mem_of_getElem? hs)
        have HLD := Lib.hid (loop_drop (f := f) (m := m) (to := to) (sec := sec) hs)
        obtain ⟨sq, hsq, hq0, hq1⟩ := secs_range HV.out hsl
        rw [hsq] at HLD
        simp only [Option.getD_some] at HLD
        obtain ⟨bb, off, rfl, hbb, x0⟩ := ints_at HIk.out (k := k) (x := (s : Int)) (by rw [List.getElem?_map, hs]; rfl)
        obtain ⟨bq, offq, hqA, hbq, q0⟩ := ints_at HGk.out.secs hsq
        have zbb := cell_lt x0
        have zbq := cell_lt q0
        simp only at zbb zbq
        have hkI : (k : Int) < rest.length := by omega
        have h0k : (0 : Int) ≤ k := by omega
        have hsI : (s : Int) < f.slips.length := by omega
        have h0s : (0 : Int) ≤ s := by omega
        have HOK : Hid (okF f m sec s = (m.testBit s && decide (sec + sq ≤ keyF f s))) := by unfold Hid okF; rw [hsq]; rfl
        have hlr : 20000000 * (rest.length : Int) ≥ 20000000 := by omega
        rw [hqA] at d0
        clear hs hsq hqA
        rcases hb1 : m.testBit s with _ | _
        · have HH := Lib.hid (setHas_is hb1 hm (by omega : s < 9))
          have HE2 : Hid (em ++ loopF f m to sec (rest.drop (k + 1)) = loopF f m to sec rest) := by
            unfold Hid
            rw [← HE.out, HLD.out, HOK.out, hb1]
            simp
          gi_wp2_with fail
          refine ⟨trivial, ?_⟩
          refine (callsIn_wide.2 (HH.out _)).mono ?_
          rintro e W1 ⟨rfl, hbh⟩
          have HJ1 : Hid (J (pre ++ em) W1) := abides_below hJ HJk.out hbh
          have HC1 : Hid (CS W W1) := HC.out.trans (cs_of_below hbh)
          gi_wp2_with fail
          refine ⟨fun _ h => (by cases h), ?_⟩
          gi_wp2_with fail
          go_roundw
          case rel => exact ⟨k + 1, em, by omega, by go_num, HE2, HJ1, HC1⟩
          case measure => simp [intOf]; omega
        · have HH := Lib.hid (setHas_is hb1 hm (by omega : s < 9))
          rcases hb2 : decide (sec + sq ≤ keyF f s) with _ | _
          · have HT := Lib.hid (fun W hW => inTime_is hsl hb2 W hW)
            have HE2 : Hid (em ++ loopF f m to sec (rest.drop (k + 1)) = loopF f m to sec rest) := by
              unfold Hid
              rw [← HE.out, HLD.out, HOK.out, hb1, hb2]
              simp
            gi_wp2_with fail
            refine ⟨trivial, ?_⟩
            refine (callsIn_wide.2 (HH.out _)).mono ?_
            rintro e W1 ⟨rfl, hbh⟩
            have i1 := cell_keep hbh i0
            have zI1 := cell_lt i1
            gi_wp2_with fail
            refine ⟨trivial, ?_⟩
            refine (callsIn_wide.2 (HT.out _ ((cs_of_below hbh).floor HGk.out.floor))).mono ?_
            rintro e W2 ⟨rfl, hbt⟩
            have HJ1 : Hid (J (pre ++ em) W2) := abides_below hJ HJk.out (gr_trans hbh hbt)
            have HC1 : Hid (CS W W2) := HC.out.trans (cs_of_below (gr_trans hbh hbt))
            gi_wp2_with fail
            go_roundw
            case rel => exact ⟨k + 1, em, by omega, by go_num, HE2, HJ1, HC1⟩
            case measure => simp [intOf]; omega
          · have HT := Lib.hid (fun W hW => inTime_is hsl hb2 W hW)
            have HE2 : Hid (em ++ (loopF f m (to ||| 2 ^ s) (sec + sq) (rest.drop (k + 1)) ++ loopF f m to sec (rest.drop (k + 1))) = loopF f m to sec rest) := by
              unfold Hid
              rw [← HE.out, HLD.out, HOK.out, hb1, hb2]
              simp
            have HW := Lib.hid (setWith_any to s hto (by omega : s < 9))
            have hto2 : to ||| 2 ^ s < 512 := Nat.or_lt_two_pow (n := 9) (by omega) (Nat.pow_lt_pow_right (by omega) (by omega))
            obtain ⟨t2, ht2⟩ : ∃ t2, t2 = to ||| 2 ^ s := ⟨_, rfl⟩
            rw [← ht2] at HW HE2 hto2
            have hkr : k + 1 ≤ rest.length := by omega
            obtain ⟨o2, ho2⟩ : ∃ o2, o2 = if cap = k + 1 then off else off + (k + 1) := ⟨_, rfl⟩
            have hif : (if cap = k + 1 then (some ⟨bb, off, none⟩ : Option Addr) else some ⟨bb, off + (k + 1), none⟩) = some ⟨bb, o2, none⟩ := by rw [ho2]; split <;> rfl
            have GIVE : Hid (∀ Wx : World, CS W Wx → J (pre ++ em) Wx → Calls Tryd.prog 118 #[vi t2, vi (sec + sq), .slice (some ⟨bb, o2, none⟩) (rest.length - (k + 1)) (cap - (k + 1)), .pointer (some ⟨pD, 0, none⟩), .pointer (some ⟨pS, 0, none⟩), .pointer (some ⟨pI, 0, none⟩), .pointer (some ⟨pG, 0, none⟩), .pointer (some ⟨pY, 0, none⟩)] Wx fun e W' =>
                ∃ b : Bool, e = .returned (.bool b) ∧ Hid ((b = true ∧ J (pre ++ em ++ loopF f m t2 (sec + sq) (rest.drop (k + 1))) W' ∧ CS Wx W') ∨ (b = false ∧ ∃ d x r, loopF f m t2 (sec + sq) (rest.drop (k + 1)) = d ++ x :: r ∧ Jx (pre ++ em ++ d ++ [x]) W'))) := fun Wx hc hj => by
              have hlen : (rest.drop (k + 1)).length = rest.length - (k + 1) := List.length_drop
              have h1 := IH.out (rest.drop (k + 1)).length (by rw [hlen, ← HQ.out]; omega) (rest.drop (k + 1)) t2 (sec + sq) (some ⟨bb, o2, none⟩) (cap - (k + 1)) (pre ++ em) Wx rfl hto2 (by omega) (by rw [hlen]; omega) (fun x hx => HRE.out x (List.mem_of_mem_drop hx)) (by rw [hlen]; omega) (HG.out.cs hc) (by
                have h7 := ints_drop (hc.rows HI.out) (k + 1) (by simpa using hkr)
                rw [← List.map_drop] at h7
                by_cases hck : cap = k + 1
                · have h8 : rest.drop (k + 1) = [] := List.drop_of_length_le (by omega)
                  rw [h8]
                  exact ⟨by simp, by omega, by simp, fun h => by simp at h⟩
                · rw [ho2, if_neg hck]
                  exact h7) hj (by
                have h2 := congrArg List.length HE2.out
                have h3 := HN.out
                simp only [List.length_append] at h2 h3 ⊢
                omega)
              rw [hlen] at h1
              exact h1
            have hkA : (0 : Int) ≤ (k : Int) + 1 := by omega
            have hwr : IntKind.wrap .i64 ((k : Int) + 1) = (k : Int) + 1 := wrapI (by omega) (by omega)
            have hkB : (k : Int) + 1 ≤ rest.length := by omega
            clear ho2 ht2
            gi_wp2_with fail
            refine ⟨trivial, ?_⟩
            refine (callsIn_wide.2 (HH.out _)).mono ?_
            rintro e W1 ⟨rfl, hbh⟩
            have i1 := cell_keep hbh i0
            have zI1 := cell_lt i1
            gi_wp2_with fail
            refine ⟨trivial, ?_⟩
            refine (callsIn_wide.2 (HT.out _ ((cs_of_below hbh).floor HGk.out.floor))).mono ?_
            rintro e W2 ⟨rfl, hbt⟩
            have hbb2 := gr_trans hbh hbt
            have HJ1 : Hid (J (pre ++ em) W2) := abides_below hJ HJk.out hbb2
            have HC1 : Hid (CS W W2) := HC.out.trans (cs_of_below hbb2)
            have g2 := cell_keep hbb2 g0
            have zG2 := cell_lt g2
            clear i1 zI1 hbh hbt d0 s0 i0 y0 x0 q0
            gi_wp2_with fail
            gi_region_with (first
              | (refine ⟨trivial, ?_⟩; gi_at_call 97; go_loud (refine (callsIn_wide.2 (HW.out _)).mono ?_; rintro e wq ⟨rfl, hbq⟩; have HBq : Below W2.heap.size W2 wq := (by (repeat (first | exact Below.refl _ _ | refine Below.setCell ?_ (by first | omega | (simp; omega) | (simp; done)) _ | refine Below.alloc ?_ (by first | omega | (simp; omega) | (simp; done)) _ | refine Below.drew ?_ | refine below_drewN ?_ _ | refine Below.trans ?_ (Below.mono (by assumption) (by first | omega | (simp; omega) | (simp; done)))))); have g3 : wq.cell? ⟨pG, 0, none⟩ = some (giveV pD pS pI pG pY) := cell_keep HBq g2; have zG3 : pG < wq.heap.size := cell_lt g3))
              | (refine ⟨trivial, ?_⟩; gi_at_call 118; go_loud (refine (callsIn_wide.2 (GIVE.out _ (HC1.out.trans (cs_of_below HBq)) (abides_below hJ HJ1.out HBq))).mono ?_; rintro e wv ⟨b, rfl, hT⟩)))
            all_goals
              rcases b with _ | _
              · have hT2 : Hid (∃ d x r, loopF f m to sec rest = d ++ x :: r ∧ Jx (pre ++ d ++ [x]) wv) := by
                  rcases hT.out with ⟨h, _⟩ | ⟨_, d, x, r, h1, h2⟩
                  · cases h
                  · refine ⟨em ++ d, x, r ++ loopF f m to sec (rest.drop (k + 1)), ?_, ?_⟩
                    · rw [← HE2.out, h1]; simp
                    · simpa using h2
                clear hT
                gi_wp2_with fail
                dsimp only [Exit.noGoto]
                go_ret
                exact ⟨false, rfl, .inr ⟨rfl, hT2.out⟩⟩
              · have hT2 : Hid (J (pre ++ (em ++ loopF f m t2 (sec + sq) (rest.drop (k + 1)))) wv ∧ CS W wv) := by
                  rcases hT.out with ⟨_, h1, h2⟩ | ⟨h, _⟩
                  · exact ⟨by simpa using h1, (HC1.out.trans (cs_of_below HBq)).trans h2⟩
                  · cases h
                have HE3 : Hid ((em ++ loopF f m t2 (sec + sq) (rest.drop (k + 1))) ++ loopF f m to sec (rest.drop (k + 1)) = loopF f m to sec rest) := by unfold Hid; rw [← HE2.out]; simp
                clear hT
                gi_wp2_with fail
                go_roundw
                case rel => exact ⟨k + 1, _, by omega, by go_num, HE3, hT2.out.1, hT2.out.2⟩
                case measure => simp [intOf]; omega
      · obtain rfl : k = rest.length := by omega
        have hd0 : rest.drop rest.length = [] := List.drop_length
        have HE2 := Lib.hid HE.out
        rw [hd0, loopF] at HE2
        clear hd0 HE
        by_cases hto0 : to = 0
        · have hdc : decide (to = 0) = true := by simpa using hto0
          have HJ9 : Hid (J (pre ++ loopF f m to sec rest) wr ∧ CS W wr) := by
            rw [if_pos hto0, List.append_nil] at HE2
            exact ⟨by rw [← HE2.out]; exact HJk.out, HC.out⟩
          clear HE2
          subst hto0
          gi_wp2_with fail
          refine ⟨fun _ h => (by cases h), ?_⟩
          gi_wp2_with fail
          dsimp only [Exit.noGoto]
          go_ret
          exact ⟨true, rfl, .inl ⟨rfl, HJ9.out.1, HJ9.out.2⟩⟩
        · have hdc : decide (to = 0) = false := by simpa using hto0
          have hToI : ¬ ((to : Int) = 0) := by omega
          rw [if_neg hto0] at HE2
          have HL : Hid (pre.length + em.length < N) := by
            have h1 := congrArg List.length HE2.out
            have h2 := HN.out
            simp at h1 h2
            unfold Hid
            omega
          obtain ⟨fn, tmps, assign, body, hy, hR⟩ := yield_any (m' := 5) (hY (pre ++ em) to wr hto HJk.out (by simpa using HL.out))
          gi_wp2_with fail
          refine hR.mono ?_
          clear hy
          rintro e W3 (⟨rfl, hJ3, hk3⟩ | ⟨rfl, hJx3⟩)
          · have HJ9 : Hid (J (pre ++ loopF f m to sec rest) W3 ∧ CS W W3) := by
              rw [← HE2.out]
              exact ⟨by simpa using hJ3, HC.out.trans hk3⟩
            clear hJ3 hk3
            gi_wp2_with fail
            dsimp only [Exit.noGoto]
            go_ret
            exact ⟨true, rfl, .inl ⟨rfl, HJ9.out.1, HJ9.out.2⟩⟩
          · have HJ9 : Hid (∃ d x r, loopF f m to sec rest = d ++ x :: r ∧ Jx (pre ++ d ++ [x]) W3) := ⟨em, to, [], HE2.out.symm, hJx3⟩
            clear hJx3
            gi_wp2_with fail
            dsimp only [Exit.noGoto]
            go_ret
            exact ⟨((to : Int) == 0), rfl, .inr ⟨by simpa using hto0, HJ9.out⟩⟩
end Go.Proofs.YtomgnpfpaodpiaaDoor

/- What given produces. -/
namespace Go.Proofs.YtomgnpfpaodpiaaDoor
open Go Go.RowKit Go.Shelf
set_option maxHeartbeats 2000000
attribute [local go_sem] Oper.semAt_some
def ordN (f : Floor) : List Nat := (orderF f).map Int.toNat
theorem order_mem {f : Floor} (h9 : f.slips.length ≤ 9) : ∀ x ∈ orderF f, 0 ≤ x ∧ x < f.slips.length := fun x hx => by
  unfold orderF at hx
  rw [isort_mem] at hx
  obtain ⟨y, hy, rfl⟩ := List.mem_map.1 hx
  rw [members_all ⟨f.slips.length, by omega⟩] at hy
  have h1 : y < f.slips.length := List.mem_range.1 hy
  omega
theorem order_len {f : Floor} (h9 : f.slips.length ≤ 9) : (orderF f).length = f.slips.length := by
  unfold orderF
  rw [isort_len, List.length_map, members_all ⟨f.slips.length, by omega⟩, List.length_range]
theorem natsC_ord {f : Floor} (h9 : f.slips.length ≤ 9) : natsC (ordN f) = orderF f := by
  unfold ordN
  rw [natsC, List.map_map]
  conv => rhs; rw [← List.map_id (orderF f)]
  apply List.map_congr_left
  intro x hx
  have := order_mem h9 x hx
  simp; omega
theorem ordN_mem {f : Floor} (h9 : f.slips.length ≤ 9) : ∀ s ∈ ordN f, s < f.slips.length := fun s hs => by
  obtain ⟨x, hx, rfl⟩ := List.mem_map.1 hs
  have := order_mem h9 x hx
  omega
theorem ordN_len {f : Floor} (h9 : f.slips.length ≤ 9) : (ordN f).length = f.slips.length := by rw [ordN, List.length_map, order_len h9]
/-- all sets that one picker can be given, in the desk's order -/
def givenF (f : Floor) (m : Nat) : List Nat := loopF f m 0 0 (ordN f)
abbrev Sub9 := { x : Nat // x < 512 }
abbrev encN (x : Sub9) : Array Value := #[vi x.1]
abbrev Subs (ys : List Sub9) : List Nat := ys.map Subtype.val
/-- what given holds -/
structure GivenAt (w : World) (f : Floor) (m : Nat) (oA qA : Option Addr) (oC qC bm pD pS pI : Nat) : Prop where
  desk : CellsBox w pD 108 (deskC f oA oC qA f.slips.length qC bm)
  slips : CellsBox w pS 113 [vi m]
  fn : CellsBox w pI 130 [inTimeV f]
  floor : FloorAt w w.heap.size f
  ord : IntsAt w w.heap.size oA oC (orderF f)
  secs : IntsAt w w.heap.size qA f.slips.length (secsL f)
theorem GivenAt.cs {w w' : World} {f : Floor} {m : Nat} {oA qA : Option Addr} {oC qC bm pD pS pI : Nat} (h : GivenAt w f m oA qA oC qC bm pD pS pI) (hc : CS w w') : GivenAt w' f m oA qA oC qC bm pD pS pI :=
  ⟨hc.box h.desk, hc.box h.slips, hc.box h.fn, hc.floor h.floor, hc.rows h.ord, hc.rows h.secs⟩
set_option maxRecDepth 100000 in
theorem given_seq (f : Floor) (hv : validB f = true) (m : Nat) (hm : m < 512) (oA qA : Option Addr) (oC qC bm pD pS pI : Nat) (w : World) (hA : GivenAt w f m oA qA oC qC bm pD pS pI) (n : Nat) :
    SeqStopsK Fence.wide n Tryd.prog 117 #[.pointer (some ⟨pD, 0, none⟩), .pointer (some ⟨pS, 0, none⟩), .pointer (some ⟨pI, 0, none⟩)] encN CS (fun ys => Subs ys = givenF f m) (fun pre => ∃ d x r, givenF f m = d ++ x :: r ∧ Subs pre = d ++ [x]) (givenF f m).length w := by
  intro l J' Jx' W hW hJ' hJx' hY' h0'
  obtain ⟨J, hJe⟩ : ∃ J : List Nat → World → Prop, J = fun pre X => ∃ ys, Subs ys = pre ∧ J' ys X := ⟨_, rfl⟩
  obtain ⟨Jx, hJxe⟩ : ∃ Jx : List Nat → World → Prop, Jx = fun pre X => ∃ ys, Subs ys = pre ∧ Jx' ys X := ⟨_, rfl⟩
  have hJ : AbidesFrom W.heap.size J := by
    rw [hJe]
    rintro s X Y row ⟨ys, h1, h2⟩ hg hr
    exact ⟨ys, h1, hJ' ys X Y row h2 hg hr⟩
  have h0 : J [] W := by rw [hJe]; exact ⟨[], rfl, h0'⟩
  have hY : ∀ (pre : List Nat) (x : Nat) (W1 : World), x < 512 → J pre W1 → pre.length < (givenF f m).length → YieldAt Fence.wide 0 Tryd.prog l #[vi x] W1 fun e W' => (e = .returned (.bool true) ∧ J (pre ++ [x]) W' ∧ CS W1 W') ∨ (e = .returned (.bool false) ∧ Jx (pre ++ [x]) W') := by
    rintro pre x W1 hx hj hl
    rw [hJe] at hj
    obtain ⟨ys, rfl, h2⟩ := hj
    obtain ⟨fn, tmps, assign, body, hy, hR⟩ := yield_any (m' := 0) (hY' ys ⟨x, hx⟩ W1 h2 (by simpa [Subs] using hl))
    refine ⟨fn, tmps, assign, body, hy, hR.mono ?_⟩
    rintro e W' (⟨h3, h4, h5⟩ | ⟨h3, h4⟩)
    · exact .inl ⟨h3, by rw [hJe]; exact ⟨ys ++ [⟨x, hx⟩], by simp [Subs], h4⟩, h5⟩
    · exact .inr ⟨h3, by rw [hJxe]; exact ⟨ys ++ [⟨x, hx⟩], by simp [Subs], h4⟩⟩
  have h9 := (fine hv).slips9
  have HA := Lib.hid (hA.cs (cs_of_below hW))
  have GV := Lib.hid (fun (pG pY : Nat) (W1 : World) hb hg => give_any f hv m hm oA qA oC qC bm pD pS pI pG pY l (givenF f m).length W.heap.size J Jx hJ hY (ordN f).length (ordN f) 0 0 oA oC [] W1 rfl (by omega) (by omega) (by rw [ordN_len h9]; omega) (ordN_mem h9) (by rw [ordN_len h9]; omega) hg (by rw [natsC_ord h9]; exact ((hA.cs (cs_of_below hW)).cs (cs_of_below hb)).ord) (abides_below hJ h0 hb) (by simp [givenF]))
  have hlen : (ordN f).length = f.slips.length := ordN_len h9
  rw [hlen] at GV
  simp only [List.nil_append] at GV
  have HJE := Lib.hid hJe
  have HJXE := Lib.hid hJxe
  clear hlen hA hY hW h0 hY' h0' hJe hJxe
  have f6 := HA.out.desk.cell (j := 6) rfl
  have zD := HA.out.desk.lt
  refine (callsIn_wide (n := n)).2 ?_
  refine (callsIn_wide (n := 6)).1 ?_
  refine callsIn_of_wp Tryd.func117 rfl trivial ?_ rfl
  simp only [Tryd.ntmps117, List.size_toArray, List.length_cons, List.length_nil, Nat.reduceAdd, Nat.reduceSub, Array.replicate_succ, Array.replicate_zero, List.push_toArray, List.append_toArray, List.nil_append, List.cons_append]
  gi_wp2_with fail
  refine ⟨trivial, ?_⟩
  have X1 := (CellsBox.new W 158 [.func (.yield l) #[] #[]]).alloc (.cells #[giveV pD pS pI (W.heap.size + 1) W.heap.size] 159)
  have X2 := CellsBox.new (W.alloc (.cells #[.func (.yield l) #[] #[]] 158)) 159 [giveV pD pS pI (W.heap.size + 1) W.heap.size]
  rw [World.size_alloc] at X2
  have hb : Below W.heap.size W ((W.alloc (.cells #[.func (.yield l) #[] #[]] 158)).alloc (.cells #[giveV pD pS pI (W.heap.size + 1) W.heap.size] 159)) := by (repeat (first | exact Below.refl _ _ | refine Below.setCell ?_ (by first | omega | (simp; omega) | (simp; done)) _ | refine Below.alloc ?_ (by first | omega | (simp; omega) | (simp; done)) _ | refine Below.drew ?_ | refine below_drewN ?_ _ | refine Below.trans ?_ (Below.mono (by assumption) (by first | omega | (simp; omega) | (simp; done)))))
  have hA2 := HA.out.cs (cs_of_below hb)
  refine (callsIn_wide.2 (GV.out (W.heap.size + 1) W.heap.size _ hb ⟨hA2.desk, hA2.slips, hA2.fn, X2, X1, hA2.floor, hA2.secs⟩)).mono ?_
  rintro e W9 ⟨b, rfl, hT⟩
  have HT := Lib.hid hT
  clear hT X1 X2 hb hA2
  gi_wp2_with fail
  go_end0
  refine ⟨⟨_, rfl⟩, ?_⟩
  rcases HT.out.out with ⟨_, h1, h2⟩ | ⟨_, d, x, r, h1, h2⟩
  · rw [HJE.out] at h1
    obtain ⟨ys, h3, h4⟩ := h1
    exact .inl ⟨ys, h3, h4⟩
  · rw [HJXE.out] at h2
    obtain ⟨ys, h3, h4⟩ := h2
    exact .inr ⟨ys, ⟨d, x, r, h1, h3⟩, h4⟩
abbrev givenV (pD pS pI : Nat) : Value := .func (.func 117) #[] #[.pointer (some ⟨pD, 0, none⟩), .pointer (some ⟨pS, 0, none⟩), .pointer (some ⟨pI, 0, none⟩)]
theorem given_any (f : Floor) (m : Nat) (oA qA : Option Addr) (oC qC bm : Nat) (w : World) (hF : FloorAt w w.heap.size f) (hO : IntsAt w w.heap.size oA oC (orderF f)) (hQ : IntsAt w w.heap.size qA f.slips.length (secsL f)) :
    Calls Tryd.prog 108 #[.agg (deskC f oA oC qA f.slips.length qC bm).toArray, vi m, inTimeV f] w fun e w' => ∃ pD pS pI, e = .returned (givenV pD pS pI) ∧ GivenAt w' f m oA qA oC qC bm pD pS pI ∧ Below w.heap.size w w' := by
  have HF := Lib.hid hF
  have HO := Lib.hid hO
  have HQ := Lib.hid hQ
  clear hF hO hQ
  show Calls Tryd.prog 108 #[.agg #[.slice f.fA f.far.length f.fC, vi f.slo, vi f.shi, .slice f.pA f.picks.length f.pC, vi f.carry, .slice f.sA f.slips.length f.sC, .slice oA f.slips.length oC, .slice qA f.slips.length qC, .map (some bm)], vi m, inTimeV f] w _
  go_enter Tryd.func108, Tryd.ntmps108
  have X1 := ((CellsBox.new w 108 (deskC f oA oC qA f.slips.length qC bm)).alloc (.cells #[vi m] 113)).alloc (.cells #[inTimeV f] 130)
  have X2 := (CellsBox.new (w.alloc (.cells (deskC f oA oC qA f.slips.length qC bm).toArray 108)) 113 [vi m]).alloc (.cells #[inTimeV f] 130)
  have X3 := CellsBox.new ((w.alloc (.cells (deskC f oA oC qA f.slips.length qC bm).toArray 108)).alloc (.cells #[vi m] 113)) 130 [inTimeV f]
  simp only [World.size_alloc] at X2 X3
  have HX1 := Lib.hid X1
  have HX2 := Lib.hid X2
  have HX3 := Lib.hid X3
  have hb : Below w.heap.size w (((w.alloc (.cells (deskC f oA oC qA f.slips.length qC bm).toArray 108)).alloc (.cells #[vi m] 113)).alloc (.cells #[inTimeV f] 130)) := by (repeat (first | exact Below.refl _ _ | refine Below.setCell ?_ (by first | omega | (simp; omega) | (simp; done)) _ | refine Below.alloc ?_ (by first | omega | (simp; omega) | (simp; done)) _ | refine Below.drew ?_ | refine below_drewN ?_ _ | refine Below.trans ?_ (Below.mono (by assumption) (by first | omega | (simp; omega) | (simp; done)))))
  have HB := Lib.hid hb
  clear X1 X2 X3 hb
  go_wp2_with fail
  go_ret
  exact ⟨_, _, _, rfl, ⟨HX1.out, HX2.out, HX3.out, HF.out.to HB.out, HO.out.to HB.out, HQ.out.to HB.out⟩, HB.out⟩
end Go.Proofs.YtomgnpfpaodpiaaDoor

/- The map from a crew to what one of its pickers is given. -/
namespace Go.Proofs.YtomgnpfpaodpiaaDoor
open Go Go.RowKit
set_option maxHeartbeats 1000000
abbrev crewV (m p : Nat) : Value := .agg #[vi m, vi p]
structure CE where
  m : Nat
  p : Nat
  g : Nat
  born : Nat
def CE.entry (q : CE) : MapEntry := ⟨crewV q.m q.p, vi q.g, q.born⟩
def CE.is (m p : Nat) (q : CE) : Bool := m == q.m && p == q.p
def CrewMap (w : World) (b : Nat) (f : Nat → Nat → Option Nat) : Prop :=
  ∃ (L : List CE) (clock : Nat), w.heap[b]? = some (.map (L.map CE.entry).toArray clock) ∧ ∀ m p, f m p = (L.find? (CE.is m p)).map CE.g
theorem CrewMap.keep {w w' : World} {b : Nat} {f : Nat → Nat → Option Nat} (h : CrewMap w b f) (hb : w'.heap[b]? = w.heap[b]?) : CrewMap w' b f := by
  obtain ⟨L, c, h1, h2⟩ := h
  exact ⟨L, c, hb.trans h1, h2⟩
theorem CrewMap.lt {w : World} {b : Nat} {f : Nat → Nat → Option Nat} (h : CrewMap w b f) : b < w.heap.size := by
  obtain ⟨es, c, h1, _⟩ := h
  exact (Array.getElem?_eq_some_iff.1 h1).1
theorem CrewMap.below {w w' : World} {b : Nat} {f : Nat → Nat → Option Nat} (h : CrewMap w b f) (hb : Below w.heap.size w w') : CrewMap w' b f := h.keep (hb.block b h.lt)
theorem CrewMap.new {w : World} {b : Nat} (h : w.heap[b]? = some (.map #[] 0)) : CrewMap w b fun _ _ => none := ⟨[], 0, h, by simp⟩
theorem equal_crew (w : World) (a b c d : Nat) : (Op.equal 116 (crewV a b) (crewV c d)).run Tryd.prog w = .ok (a == c && b == d) w := by
  simp [Op.equal, Op.maxDepth, go_sem]
  have e1 : ((a : Int) = c) = (a = c) := propext (by omega)
  have e2 : ((b : Int) = d) = (b = d) := propext (by omega)
  simp only [e1, e2]
  by_cases h1 : a = c <;> by_cases h2 : b = d <;> simp [h1, h2]
theorem check_crew (e : Bool) (w : World) (a b : Nat) : (Instr.checkKey e 10000 116 (crewV a b)).run Tryd.prog w = .ok () w := by kernel_rfl
theorem ask_crew (w : World) (m p : Nat) (L : List CE) : ∀ k : Nat, ∃ r, (Instr.findAsking 116 (crewV m p) (L.map CE.entry) k).run Tryd.prog w = .ok r w ∧ r.map Prod.snd = (L.find? (CE.is m p)).map (fun q => vi q.g) ∧ r.map Prod.fst = (L.findIdx? (CE.is m p)).map (· + k) := by
  induction L with
  | nil => intro k; exact ⟨none, rfl, rfl, rfl⟩
  | cons q L ih =>
    intro k
    simp only [List.map_cons, Instr.findAsking, Sem.run_bind, CE.entry, equal_crew, Result.andThen]
    by_cases hq : (m == q.m && p == q.p) = true
    · refine ⟨some (k, vi q.g), by simp [hq], by simp [List.find?_cons, CE.is, hq], by simp [List.findIdx?_cons, CE.is, hq]⟩
    · have hq' : (m == q.m && p == q.p) = false := by simpa using hq
      obtain ⟨r, h1, h2, h3⟩ := ih (k + 1)
      refine ⟨r, by simpa [hq'] using h1, by simpa [List.find?_cons, CE.is, hq'] using h2, ?_⟩
      rw [h3, List.findIdx?_cons]
      simp only [CE.is, hq']
      cases L.findIdx? (CE.is m p) <;> simp [Function.comp]
      omega
theorem under_crew : Tryd.prog.underlying 116 = some (.struct (Tryd.prog.fieldsOf 116)) := by kernel_rfl
theorem find_crew (w : World) (m p : Nat) (L : List CE) : ∃ r, (Instr.findKey 116 (crewV m p) (L.map CE.entry)).run Tryd.prog w = .ok r w ∧ r.map Prod.snd = (L.find? (CE.is m p)).map (fun q => vi q.g) ∧ r.map Prod.fst = L.findIdx? (CE.is m p) := by
  cases L with
  | nil => exact ⟨none, by kernel_rfl, rfl, rfl⟩
  | cons q L =>
    obtain ⟨r, h1, h2, h3⟩ := ask_crew w m p (q :: L) 0
    refine ⟨r, ?_, h2, by simpa using h3⟩
    rw [← h1]
    simp only [Instr.findKey, Sem.run_bind, run_underlying under_crew, Result.andThen, List.map_cons, Instr.findNow, Instr.sameNow]
theorem look_crew {w : World} {b : Nat} {f : Nat → Nat → Option Nat} (h : CrewMap w b f) (m p : Nat) (ok : Bool) :
    (Instr.lookup 106 (.map (some b)) (crewV m p) ok).run Tryd.prog w = .ok (if ok then .tuple #[vi (((f m p).getD 0 : Nat)), .bool (f m p).isSome] else vi (((f m p).getD 0 : Nat))) w := by
  obtain ⟨L, c, h1, h2⟩ := h
  obtain ⟨r, h3, h4, _⟩ := find_crew w m p L
  have hu : Tryd.prog.underlying 106 = some (.map 116 113) := by kernel_rfl
  have hz : (zeroValue 113).run Tryd.prog w = .ok (vi 0) w := by kernel_rfl
  rw [h2]
  rcases r with _ | ⟨k, v⟩
  · have hf : L.find? (CE.is m p) = none := by simpa using h4.symm
    rw [hf]
    simp [Instr.lookup, run_underlying hu, getObj, Sem.run, h1, check_crew, h3, hz, Result.andThen]
  · cases hf : L.find? (CE.is m p) with
    | none => rw [hf] at h4; cases h4
    | some q =>
      rw [hf] at h4
      obtain rfl : v = vi q.g := by simpa using h4
      simp [Instr.lookup, run_underlying hu, getObj, Sem.run, h1, check_crew, h3, hz, Result.andThen]
def CE.put (g : Nat) (q : CE) : CE := { q with g := g }
theorem same_crew (a b : Nat) (w : World) : (Instr.keyThatStays (crewV a b) (crewV a b)).run Tryd.prog w = .ok (crewV a b) w := by
  simp [Instr.keyThatStays, Instr.sameBits]
theorem idx_is {p : CE → Bool} : ∀ {L : List CE} {k : Nat}, L.findIdx? p = some k → ∃ q, L[k]? = some q ∧ p q = true
  | [], k, h => by simp at h
  | q :: L, k, h => by
    rw [List.findIdx?_cons] at h
    by_cases hq : p q = true
    · rw [if_pos hq] at h; cases h; exact ⟨q, rfl, hq⟩
    · have hq' : p q = false := by simpa using hq
      rw [hq'] at h
      simp only [Bool.false_eq_true, if_false] at h
      obtain ⟨i, hi, rfl⟩ := Option.map_eq_some_iff.1 h
      obtain ⟨q', h1, h2⟩ := idx_is hi
      exact ⟨q', by simpa using h1, h2⟩
theorem put_entry (g : Nat) : ∀ (L : List CE) (k m p : Nat), (∃ q, L[k]? = some q ∧ CE.is m p q = true) → (L.map CE.entry).modify k (fun e => { e with key := crewV m p, val := vi g }) = (L.modify k (CE.put g)).map CE.entry
  | [], k, m, p, h => by obtain ⟨q, h1, _⟩ := h; simp at h1
  | q :: L, 0, m, p, h => by
    obtain ⟨q', h1, h2⟩ := h
    simp at h1; subst h1
    simp only [CE.is, Bool.and_eq_true, beq_iff_eq] at h2
    obtain ⟨rfl, rfl⟩ := h2
    simp [CE.entry, CE.put]
  | q :: L, k + 1, m, p, h => by
    have ih := put_entry g L k m p (by simpa using h)
    simp only [List.map_cons, List.modify_succ_cons, ih]
theorem find_put (m p g : Nat) : ∀ (L : List CE) (k : Nat), L.findIdx? (CE.is m p) = some k → ∀ m' p', ((L.modify k (CE.put g)).find? (CE.is m' p')).map CE.g = if m' = m ∧ p' = p then some g else (L.find? (CE.is m' p')).map CE.g
  | [], k, h => by simp at h
  | q :: L, k, h => by
    intro m' p'
    rw [List.findIdx?_cons] at h
    by_cases hq : CE.is m p q = true
    · rw [if_pos hq] at h
      cases h
      have hq2 := hq
      simp only [CE.is, Bool.and_eq_true, beq_iff_eq] at hq2
      simp only [List.modify_zero_cons, List.find?_cons]
      by_cases e : m' = m ∧ p' = p
      · obtain ⟨rfl, rfl⟩ := e
        have : CE.is m' p' (CE.put g q) = true := hq
        rw [this]
        simp [CE.put]
      · rw [if_neg e]
        have h1 : CE.is m' p' q = false := by simp [CE.is]; omega
        have h2 : CE.is m' p' (CE.put g q) = false := h1
        rw [h1, h2]
    · have hq' : CE.is m p q = false := by simpa using hq
      rw [hq'] at h
      simp only [Bool.false_eq_true, if_false] at h
      obtain ⟨i, hi, rfl⟩ := Option.map_eq_some_iff.1 h
      have ih := find_put m p g L i hi m' p'
      simp only [List.modify_succ_cons, List.find?_cons]
      cases hc : CE.is m' p' q with
      | false => simpa using ih
      | true =>
        have : ¬ (m' = m ∧ p' = p) := by
          rintro ⟨rfl, rfl⟩
          rw [hq'] at hc; cases hc
        rw [if_neg this]
theorem store_crew {w : World} {b : Nat} {f : Nat → Nat → Option Nat} (h : CrewMap w b f) (m p g : Nat) :
    ∃ w2, (Instr.mapUpdate 106 (.map (some b)) (crewV m p) (vi g)).run Tryd.prog w = .ok () w2 ∧ CrewMap w2 b (fun m' p' => if m' = m ∧ p' = p then some g else f m' p') ∧ CS w w2 ∧ w2.heap.size = w.heap.size ∧ ∀ k, k ≠ b → w2.heap[k]? = w.heap[k]? := by
  obtain ⟨L, c, h1, h2⟩ := h
  obtain ⟨r, h3, h4, h5⟩ := find_crew w m p L
  have hb : b < w.heap.size := (Array.getElem?_eq_some_iff.1 h1).1
  have hu : Tryd.prog.underlying 106 = some (.map 116 113) := by kernel_rfl
  have cs : ∀ o : Obj, CS w { w with heap := w.heap.setIfInBounds b o } ∧ ∀ k, k ≠ b → ({ w with heap := w.heap.setIfInBounds b o } : World).heap[k]? = w.heap[k]? := fun o => by
    have hk : ∀ k, k ≠ b → ({ w with heap := w.heap.setIfInBounds b o } : World).heap[k]? = w.heap[k]? := fun k hk => by simp [Array.getElem?_setIfInBounds]; omega
    refine ⟨⟨rfl, rfl, rfl, by simp, fun k cc t z hc => ?_⟩, hk⟩
    have hne : k ≠ b := by rintro rfl; rw [h1] at hc; cases hc
    exact (hk k hne).trans hc
  rcases r with _ | ⟨k, v⟩
  · have hf : L.find? (CE.is m p) = none := by simpa using h4.symm
    refine ⟨{ w with heap := w.heap.setIfInBounds b (.map ((L ++ [(⟨m, p, g, c⟩ : CE)]).map CE.entry).toArray (c + 1)) }, ?_, ⟨L ++ [⟨m, p, g, c⟩], c + 1, by simp [hb], ?_⟩, (cs _).1, by simp, (cs _).2⟩
    · simp [Instr.mapUpdate, run_underlying hu, getObj, setObj, Sem.run, h1, check_crew, h3, Result.andThen, CE.entry]
    · intro m' p'
      show (if m' = m ∧ p' = p then some g else f m' p') = _
      rw [List.find?_append, h2]
      by_cases hq : m' = m ∧ p' = p
      · obtain ⟨rfl, rfl⟩ := hq
        simp [hf, CE.is]
      · have : CE.is m' p' ⟨m, p, g, c⟩ = false := by simp [CE.is]; omega
        simp [hq, this]
  · simp only [Option.map_some] at h5
    refine ⟨{ w with heap := w.heap.setIfInBounds b (.map ((L.modify k (CE.put g)).map CE.entry).toArray c) }, ?_, ⟨L.modify k (CE.put g), c, by simp [hb], fun m' p' => ?_⟩, (cs _).1, by simp, (cs _).2⟩
    · simp [Instr.mapUpdate, run_underlying hu, getObj, setObj, Sem.run, h1, check_crew, h3, Result.andThen, CE.entry]
      obtain ⟨q, hq, hqi⟩ := idx_is h5.symm
      have hq2 := hqi
      simp only [CE.is, Bool.and_eq_true, beq_iff_eq] at hq2
      have he := put_entry g L k m p ⟨q, hq, hqi⟩
      rw [hq]
      simp only [Option.map_some, Function.comp, CE.entry, Option.getD_some, ← hq2.1, ← hq2.2, same_crew, h1, he]
    · show (if m' = m ∧ p' = p then some g else f m' p') = _
      rw [find_put m p g L k h5.symm m' p', h2]
end Go.Proofs.YtomgnpfpaodpiaaDoor

/- Which crews have their slips in time: plain forms. -/
namespace Go.Proofs.YtomgnpfpaodpiaaDoor
open Go Go.RowKit
/-- slips without some of them -/
def lessF (m x : Nat) : Nat := m ^^^ (m &&& x)
theorem less_lt {m : Nat} (hm : m < 512) (x : Nat) : lessF m x < 512 := Nat.xor_lt_two_pow (n := 9) hm (Nat.lt_of_le_of_lt Nat.and_le_left hm)
theorem less_bits (m x : Nat) (hm : m < 512) (hx : x < 512) : m &&& (2 ^ 64 - 1 - x) = lessF m x := by
  apply Nat.eq_of_testBit_eq
  intro i
  rw [show 2 ^ 64 - 1 - x = 2 ^ 64 - (x + 1) by omega, Nat.testBit_and, Nat.testBit_two_pow_sub_succ (by omega), lessF, Nat.testBit_xor, Nat.testBit_and]
  by_cases h : m.testBit i = true
  · have hi : i < 64 := by
      apply Classical.byContradiction
      intro hn
      have : m < 2 ^ i := Nat.lt_of_lt_of_le (Nat.lt_of_lt_of_le hm (show 512 ≤ 2 ^ 64 by decide)) (Nat.pow_le_pow_right (by omega) (by omega))
      rw [Nat.testBit_lt_two_pow this] at h
      cases h
    rw [h]
    simp [hi]
  · have h' : m.testBit i = false := by simpa using h
    rw [h']
    simp
set_option maxRecDepth 100000 in
theorem less_fact (m x : Nat) (hm : m < 512) (hx : x < 512) : bits BinOp.andNot IntKind.i64 (m : Int) (x : Int) = ((lessF m x : Nat) : Int) := by
  unfold bits
  simp
  have e1 : m % 2 ^ IntKind.i64.bits = m := Nat.mod_eq_of_lt (Nat.lt_of_lt_of_le hm (by decide))
  have e2 : x % 2 ^ IntKind.i64.bits = x := Nat.mod_eq_of_lt (Nat.lt_of_lt_of_le hx (by decide))
  have e3 : (2 : Nat) ^ IntKind.i64.bits = 2 ^ 64 := rfl
  rw [e1, e2, e3, less_bits m x hm hx]
  have := less_lt hm x
  exact wrapI (by omega) (by omega)
/-- has a crew its slips in time -/
def canF (f : Floor) : Nat → Nat → Bool
  | 0, m => m == 0
  | p + 1, m => m == 0 || (givenF f m).any fun x => canF f p (lessF m x)
/-- what one picker of a crew is given -/
def shareF (f : Floor) (p m : Nat) : Nat := ((givenF f m).find? fun x => canF f (p - 1) (lessF m x)).getD 0
theorem given_pos (f : Floor) (m : Nat) : ∀ (rest : List Nat) (to : Nat) (sec : Int), ∀ x ∈ loopF f m to sec rest, x ≠ 0
  | [], to, sec, x, h => by
    rw [loopF] at h
    split at h
    · simp at h
    · rw [List.mem_singleton] at h; subst h; assumption
  | s :: rest, to, sec, x, h => by
    rw [loopF, List.mem_append] at h
    rcases h with h | h
    · split at h
      · exact given_pos f m rest _ _ x h
      · simp at h
    · exact given_pos f m rest _ _ x h
theorem given_lt (f : Floor) (m : Nat) : ∀ (rest : List Nat) (to : Nat) (sec : Int), to < 512 → (∀ s ∈ rest, s < 9) → ∀ x ∈ loopF f m to sec rest, x < 512
  | [], to, sec, hto, _, x, h => by
    rw [loopF] at h
    split at h
    · simp at h
    · rw [List.mem_singleton] at h; subst h; exact hto
  | s :: rest, to, sec, hto, hr, x, h => by
    have hs := hr s (by simp)
    rw [loopF, List.mem_append] at h
    rcases h with h | h
    · split at h
      · exact given_lt f m rest _ _ (Nat.or_lt_two_pow (n := 9) hto (Nat.pow_lt_pow_right (by omega) hs)) (fun y hy => hr y (by simp [hy])) x h
      · simp at h
    · exact given_lt f m rest _ _ hto (fun y hy => hr y (by simp [hy])) x h
theorem can_share {f : Floor} {p m : Nat} (hp : p ≠ 0) (hm : m ≠ 0) : canF f p m = decide (shareF f p m ≠ 0) := by
  obtain ⟨q, rfl⟩ : ∃ q, p = q + 1 := ⟨p - 1, by omega⟩
  rw [canF, shareF]
  have h0 : (m == 0) = false := by simpa using hm
  rw [h0, Bool.false_or, Nat.add_sub_cancel]
  cases hf : (givenF f m).find? fun x => canF f q (lessF m x) with
  | none =>
    rw [List.find?_eq_none] at hf
    have : ((givenF f m).any fun x => canF f q (lessF m x)) = false := by
      rw [List.any_eq_false]
      exact hf
    rw [this]
    simp
  | some x =>
    have hx := List.mem_of_find?_eq_some hf
    have h1 := given_pos f m _ _ _ x hx
    have h2 := List.find?_some hf
    have : ((givenF f m).any fun x => canF f q (lessF m x)) = true := List.any_eq_true.2 ⟨x, hx, h2⟩
    rw [this]
    simp [h1]
/-- what is in the map of shares of crews of at most so many -/
structure Inv (f : Floor) (P : Nat) (μ : Nat → Nat → Option Nat) : Prop where
  val : ∀ m p s, p ≤ P → μ m p = some s → m ≠ 0 ∧ p ≠ 0 ∧ s = shareF f p m
  rest : ∀ m p s, p ≤ P → μ m p = some s → s ≠ 0 → lessF m s ≠ 0 → p - 1 ≠ 0 → μ (lessF m s) (p - 1) ≠ none
structure Grows (P : Nat) (μ μ' : Nat → Nat → Option Nat) : Prop where
  above : ∀ m p, P < p → μ' m p = μ m p
  keep : ∀ m p s, μ m p = some s → μ' m p = some s
theorem Grows.refl (P : Nat) (μ : Nat → Nat → Option Nat) : Grows P μ μ := ⟨fun _ _ _ => rfl, fun _ _ _ h => h⟩
theorem Grows.trans {P : Nat} {a b c : Nat → Nat → Option Nat} (h : Grows P a b) (k : Grows P b c) : Grows P a c := ⟨fun m p hp => (k.above m p hp).trans (h.above m p hp), fun m p s e => k.keep m p s (h.keep m p s e)⟩
theorem Inv.less {f : Floor} {P Q : Nat} {μ : Nat → Nat → Option Nat} (h : Inv f P μ) (hq : Q ≤ P) : Inv f Q μ := ⟨fun m p s hp => h.val m p s (by omega), fun m p s hp => h.rest m p s (by omega)⟩
def setM (μ : Nat → Nat → Option Nat) (m p g : Nat) : Nat → Nat → Option Nat := fun m' p' => if m' = m ∧ p' = p then some g else μ m' p'
theorem set_less {f : Floor} {P : Nat} {μ : Nat → Nat → Option Nat} (h : Inv f P μ) (m g : Nat) : Inv f P (setM μ m (P + 1) g) := by
  refine ⟨fun m' p' s hp e => ?_, fun m' p' s hp e h1 h2 h3 => ?_⟩
  · rw [setM, if_neg (by omega)] at e
    exact h.val m' p' s hp e
  · rw [setM, if_neg (by omega)] at e
    rw [setM, if_neg (by omega)]
    exact h.rest m' p' s hp e h1 h2 h3
/-- the share of a crew is put into the map -/
theorem Inv.close {f : Floor} {P m : Nat} {μ μ1 : Nat → Nat → Option Nat} (h : Inv f (P + 1) μ) (hm : m ≠ 0) (hn : μ m (P + 1) = none) (h1 : Inv f P μ1) (hg : Grows P (setM μ m (P + 1) 0) μ1) (s : Nat) (hs : s = shareF f (P + 1) m) (hr : s ≠ 0 → lessF m s ≠ 0 → P ≠ 0 → μ1 (lessF m s) P ≠ none) :
    Inv f (P + 1) (setM μ1 m (P + 1) s) ∧ Grows (P + 1) μ (setM μ1 m (P + 1) s) := by
  have up : ∀ m' p' t, μ m' p' = some t → setM μ1 m (P + 1) s m' p' = some t := fun m' p' t e => by
    have hne : ¬ (m' = m ∧ p' = P + 1) := by rintro ⟨rfl, rfl⟩; rw [hn] at e; cases e
    rw [setM, if_neg hne]
    exact hg.keep m' p' t (by rw [setM, if_neg hne]; exact e)
  refine ⟨⟨fun m' p' t hp e => ?_, fun m' p' t hp e g1 g2 g3 => ?_⟩, ⟨fun m' p' hp => ?_, up⟩⟩
  · by_cases hc : m' = m ∧ p' = P + 1
    · obtain ⟨rfl, rfl⟩ := hc
      rw [setM, if_pos ⟨rfl, rfl⟩] at e
      cases e
      exact ⟨hm, by omega, hs⟩
    · rw [setM, if_neg hc] at e
      by_cases hp2 : p' ≤ P
      · exact h1.val m' p' t hp2 e
      · have : μ1 m' p' = μ m' p' := by rw [hg.above m' p' (by omega), setM, if_neg hc]
        rw [this] at e
        exact h.val m' p' t hp e
  · have lift : μ1 (lessF m' t) (p' - 1) ≠ none → setM μ1 m (P + 1) s (lessF m' t) (p' - 1) ≠ none := fun hx => by
      rw [setM, if_neg (by omega)]; exact hx
    by_cases hc : m' = m ∧ p' = P + 1
    · obtain ⟨rfl, rfl⟩ := hc
      rw [setM, if_pos ⟨rfl, rfl⟩] at e
      cases e
      exact lift (hr g1 g2 (by omega))
    · rw [setM, if_neg hc] at e
      by_cases hp2 : p' ≤ P
      · exact lift (h1.rest m' p' t hp2 e g1 g2 g3)
      · have e2 : μ1 m' p' = μ m' p' := by rw [hg.above m' p' (by omega), setM, if_neg hc]
        rw [e2] at e
        have h9 := h.rest m' p' t hp e g1 g2 g3
        obtain ⟨u, hu⟩ : ∃ u, μ (lessF m' t) (p' - 1) = some u := Option.ne_none_iff_exists'.1 h9
        rw [up _ _ _ hu]
        simp
  · rw [setM, if_neg (by omega), hg.above m' p' (by omega), setM, if_neg (by omega)]
end Go.Proofs.YtomgnpfpaodpiaaDoor

/- Contract of can: a recursion over what a picker can be given, that keeps what it found in a map. -/
namespace Go.Proofs.YtomgnpfpaodpiaaDoor
open Go Go.RowKit Go.Shelf
set_option maxHeartbeats 2000000
attribute [local go_sem] Oper.semAt_some
/-- the lists that a desk holds -/
structure DeskIn (W : World) (f : Floor) (oA qA : Option Addr) (oC : Nat) : Prop where
  floor : FloorAt W W.heap.size f
  ord : IntsAt W W.heap.size oA oC (orderF f)
  secs : IntsAt W W.heap.size qA f.slips.length (secsL f)
theorem DeskIn.cs {w w' : World} {f : Floor} {oA qA : Option Addr} {oC : Nat} (h : DeskIn w f oA qA oC) (hc : CS w w') : DeskIn w' f oA qA oC := ⟨hc.floor h.floor, hc.rows h.ord, hc.rows h.secs⟩
/-- what can leaves -/
structure CanPost (f : Floor) (bm p m : Nat) (μ μ' : Nat → Nat → Option Nat) (W W' : World) : Prop where
  map : CrewMap W' bm μ'
  inv : Inv f p μ'
  grows : Grows p μ μ'
  known : m ≠ 0 → p ≠ 0 → μ' m p ≠ none
  cs : CS W W'
  spare : Spare W.heap.size bm W W'
theorem cs_row {X Y : World} {row : Option Nat} {B : Nat} (hg : X.grownBy Y row) (hr : ∀ r, row = some r → B ≤ r ∧ ∃ o : Obj, X.heap[r]? = some o ∧ o.isCells = false) : CS X Y :=
  ⟨hg.os, hg.tape, hg.output, hg.size, fun k c t z hk => (hg.block k (Array.getElem?_eq_some_iff.1 hk).1 fun e => by
    obtain ⟨_, o, ho, hc⟩ := hr k e.symm
    rw [hk] at ho; cases ho; cases hc).trans hk⟩
theorem spare_row {X Y w : World} {row : Option Nat} {B n L : Nat} (h : Spare n L w X) (hn : n ≤ w.heap.size) (hB : n ≤ B) (hg : X.grownBy Y row) (hr : ∀ r, row = some r → B ≤ r ∧ ∃ o : Obj, X.heap[r]? = some o ∧ o.isCells = false) : Spare n L w Y :=
  h.trans ⟨hg.os, hg.tape, hg.output, hg.size, fun k hk _ => hg.block k (by have := h.size; omega) fun e => by have := (hr k e.symm).1; omega⟩
theorem crew_row {X Y : World} {row : Option Nat} {B bm : Nat} {μ : Nat → Nat → Option Nat} (h : CrewMap X bm μ) (hB : bm < B) (hg : X.grownBy Y row) (hr : ∀ r, row = some r → B ≤ r ∧ ∃ o : Obj, X.heap[r]? = some o ∧ o.isCells = false) : CrewMap Y bm μ :=
  h.keep (hg.block bm h.lt fun e => by have := (hr bm e.symm).1; omega)
/-- what is so between rounds: none of those that were given so far does -/
def CanI (f : Floor) (bm p m : Nat) (μ : Nat → Nat → Option Nat) (W w4 : World) (pre : List Nat) (X : World) : Prop :=
  ∃ μ', CrewMap X bm μ' ∧ Inv f p μ' ∧ Grows p (setM μ m (p + 1) 0) μ' ∧ (∀ x ∈ pre, canF f p (lessF m x) = false) ∧ CS w4 X ∧ Spare W.heap.size bm W X
def CanX (f : Floor) (bm p m br : Nat) (μ : Nat → Nat → Option Nat) (W : World) (c : Code) (pre : List Nat) (X : World) : Prop :=
  c = .ret ∧ ∃ d x μ', pre = d ++ [x] ∧ (∀ y ∈ d, canF f p (lessF m y) = false) ∧ canF f p (lessF m x) = true ∧ CrewMap X bm (setM μ' m (p + 1) x) ∧ Inv f p μ' ∧ Grows p (setM μ m (p + 1) 0) μ' ∧ (lessF m x ≠ 0 → p ≠ 0 → μ' (lessF m x) p ≠ none) ∧ CellsBox X br 4 [.bool true] ∧ CS W X ∧ Spare W.heap.size bm W X
theorem own_canI (f : Floor) (bm p m : Nat) (μ : Nat → Nat → Option Nat) (W w4 : World) (B : Nat) (hbm : bm < B) (hB : W.heap.size ≤ B) : OwnFrom B (CanI f bm p m μ W w4) := by
  rintro s X Y row ⟨μ', h1, h2, h3, h4, h5, h6⟩ hg hr
  exact ⟨μ', crew_row h1 hbm hg hr, h2, h3, h4, h5.trans (cs_row hg hr), spare_row h6 (Nat.le_refl _) hB hg hr⟩
theorem own_canX (f : Floor) (bm p m br : Nat) (μ : Nat → Nat → Option Nat) (W : World) (B : Nat) (hbm : bm < B) (hB : W.heap.size ≤ B) (c : Code) : OwnFrom B (CanX f bm p m br μ W c) := by
  rintro s X Y row ⟨hc, d, x, μ', h0, h1, h2, h3, h4, h5, h6, h7, h8, h9⟩ hg hr
  exact ⟨hc, d, x, μ', h0, h1, h2, crew_row h3 hbm hg hr, h4, h5, h6, (cs_row hg hr).box h7, h8.trans (cs_row hg hr), spare_row h9 (Nat.le_refl _) hB hg hr⟩
theorem can_zero (f : Floor) (p : Nat) : canF f p 0 = true := by cases p <;> simp [canF]
theorem can_none (f : Floor) {m : Nat} (hm : m ≠ 0) : canF f 0 m = false := by simpa [canF] using hm
set_option maxRecDepth 100000 in
theorem can_any (f : Floor) (hv : validB f = true) (oA qA : Option Addr) (oC qC bm : Nat) : ∀ (p m : Nat), p ≤ 5 → m < 512 → ∀ (W : World) (μ : Nat → Nat → Option Nat), DeskIn W f oA qA oC → CrewMap W bm μ → Inv f p μ →
    Calls Tryd.prog 76 #[.agg (deskC f oA oC qA f.slips.length qC bm).toArray, crewV m p] W fun e W' => e = .returned (.bool (canF f p m)) ∧ ∃ μ', CanPost f bm p m μ μ' W W' := by
  intro p
  induction p with
  | zero => 
    intro m _ hm W μ hD hM hI
    have HM := Lib.hid hM
    have HI := Lib.hid hI
    show Calls Tryd.prog 76 #[.agg #[.slice f.fA f.far.length f.fC, vi f.slo, vi f.shi, .slice f.pA f.picks.length f.pC, vi f.carry, .slice f.sA f.slips.length f.sC, .slice oA f.slips.length oC, .slice qA f.slips.length qC, .map (some bm)], .agg #[vi m, vi 0]] W _
    refine (callsIn_wide (n := 12)).1 ?_
    refine callsIn_of_wp_marks Tryd.func76 rfl trivial ?_ rfl
    simp only [Tryd.ntmps76, List.size_toArray, List.length_cons, List.length_nil, Nat.reduceAdd, Nat.reduceSub, Array.replicate_succ, Array.replicate_zero, List.push_toArray, List.append_toArray, List.nil_append, List.cons_append]
    have HP : Hid (∀ W', Below W.heap.size W W' → CanPost f bm 0 m μ μ W W') := fun W' hb => ⟨HM.out.below hb, HI.out, Grows.refl _ _, fun _ h => absurd rfl h, cs_of_below hb, spare_of_below bm hb (Nat.le_refl _)⟩
    by_cases hm0 : m = 0
    · subst hm0
      rw [can_zero]
      clear hD hM hI
      gi_wp2_with fail
      refine ⟨.bool true, by simp [results, Tryd.results76, go_sem], rfl, μ, HP.out _ ?_⟩
      (repeat (first | exact Below.refl _ _ | refine Below.setCell ?_ (by first | omega | (simp; omega) | (simp; done)) _ | refine Below.alloc ?_ (by first | omega | (simp; omega) | (simp; done)) _ | refine Below.drew ?_ | refine below_drewN ?_ _ | refine Below.trans ?_ (Below.mono (by assumption) (by first | omega | (simp; omega) | (simp; done)))))
    · have hme : ((m : Int) == 0) = false := by simp; omega
      rw [can_none f hm0]
      clear hD hM hI
      gi_wp2_with fail
      refine ⟨.bool false, by simp [results, Tryd.results76, go_sem], rfl, μ, HP.out _ ?_⟩
      (repeat (first | exact Below.refl _ _ | refine Below.setCell ?_ (by first | omega | (simp; omega) | (simp; done)) _ | refine Below.alloc ?_ (by first | omega | (simp; omega) | (simp; done)) _ | refine Below.drew ?_ | refine below_drewN ?_ _ | refine Below.trans ?_ (Below.mono (by assumption) (by first | omega | (simp; omega) | (simp; done)))))
  | succ p ih =>
    intro m hp hm W μ hD hM hI
    have IH := Lib.hid ih
    have HD := Lib.hid hD
    have HM := Lib.hid hM
    have HI := Lib.hid hI
    have HV := Lib.hid hv
    have zM := hM.lt
    clear ih hD hI hv
    show Calls Tryd.prog 76 #[.agg #[.slice f.fA f.far.length f.fC, vi f.slo, vi f.shi, .slice f.pA f.picks.length f.pC, vi f.carry, .slice f.sA f.slips.length f.sC, .slice oA f.slips.length oC, .slice qA f.slips.length qC, .map (some bm)], .agg #[vi m, vi (p + 1 : Nat)]] W _
    refine (callsIn_wide (n := 12)).1 ?_
    refine callsIn_of_wp_marks Tryd.func76 rfl trivial ?_ rfl
    simp only [Tryd.ntmps76, List.size_toArray, List.length_cons, List.length_nil, Nat.reduceAdd, Nat.reduceSub, Array.replicate_succ, Array.replicate_zero, List.push_toArray, List.append_toArray, List.nil_append, List.cons_append]
    obtain ⟨pI, hpI⟩ : ∃ pI : Int, pI = ((p + 1 : Nat) : Int) := ⟨_, rfl⟩
    have hpe : (pI == 0) = false := by simp; omega
    have hp1 : pI - 1 = p := by omega
    have HPI := Lib.hid hpI
    rw [← hpI]
    clear hpI
    by_cases hm0 : m = 0
    · subst hm0
      rw [can_zero]
      have HP : Hid (∀ W', Below W.heap.size W W' → CanPost f bm (p + 1) 0 μ μ W W') := fun W' hb => ⟨hM.below hb, HI.out, Grows.refl _ _, fun h => absurd rfl h, cs_of_below hb, spare_of_below bm hb (Nat.le_refl _)⟩
      gi_wp2_with fail
      refine ⟨.bool true, by simp [results, Tryd.results76, go_sem], rfl, μ, HP.out _ ?_⟩
      (repeat (first | exact Below.refl _ _ | refine Below.setCell ?_ (by first | omega | (simp; omega) | (simp; done)) _ | refine Below.alloc ?_ (by first | omega | (simp; omega) | (simp; done)) _ | refine Below.drew ?_ | refine below_drewN ?_ _ | refine Below.trans ?_ (Below.mono (by assumption) (by first | omega | (simp; omega) | (simp; done)))))
    · have hme : ((m : Int) == 0) = false := by simp; omega
      have HM0 := Lib.hid hm0
      obtain ⟨V, hV⟩ : ∃ V, V = ((W.alloc (.cells #[.slice f.fA f.far.length f.fC, vi f.slo, vi f.shi, .slice f.pA f.picks.length f.pC, vi f.carry, .slice f.sA f.slips.length f.sC, .slice oA f.slips.length oC, .slice qA f.slips.length qC, .map (some bm)] 108)).alloc (.cells #[vi m, vi pI] 116)).alloc (.cells #[.bool false] 4) := ⟨_, rfl⟩
      have hb : Below W.heap.size W V := by rw [hV]; (repeat (first | exact Below.refl _ _ | refine Below.setCell ?_ (by first | omega | (simp; omega) | (simp; done)) _ | refine Below.alloc ?_ (by first | omega | (simp; omega) | (simp; done)) _ | refine Below.drew ?_ | refine below_drewN ?_ _ | refine Below.trans ?_ (Below.mono (by assumption) (by first | omega | (simp; omega) | (simp; done)))))
      have HB := Lib.hid hb
      have X1 : Hid (CellsBox V W.heap.size 108 (deskC f oA oC qA f.slips.length qC bm)) := by unfold Hid; rw [hV]; exact ((CellsBox.new W 108 (deskC f oA oC qA f.slips.length qC bm)).alloc _).alloc _
      have X2 : Hid (CellsBox V (W.heap.size + 1) 116 [vi m, vi pI]) := by
        unfold Hid; rw [hV]
        have := (CellsBox.new (W.alloc (.cells #[.slice f.fA f.far.length f.fC, vi f.slo, vi f.shi, .slice f.pA f.picks.length f.pC, vi f.carry, .slice f.sA f.slips.length f.sC, .slice oA f.slips.length oC, .slice qA f.slips.length qC, .map (some bm)] 108)) 116 [vi m, vi pI]).alloc (.cells #[.bool false] 4)
        rwa [World.size_alloc] at this
      have X3 : Hid (CellsBox V (W.heap.size + 1 + 1) 4 [.bool false]) := by
        unfold Hid; rw [hV]
        have := CellsBox.new ((W.alloc (.cells #[.slice f.fA f.far.length f.fC, vi f.slo, vi f.shi, .slice f.pA f.picks.length f.pC, vi f.carry, .slice f.sA f.slips.length f.sC, .slice oA f.slips.length oC, .slice qA f.slips.length qC, .map (some bm)] 108)).alloc (.cells #[vi m, vi pI] 116)) 4 [.bool false]
        simpa using this
      have hlk0 := look_crew (hM.below hb) m (p + 1) true
      rw [show crewV m (p + 1) = .agg #[vi m, vi pI] from by rw [HPI.out]] at hlk0
      cases hk : μ m (p + 1) with
      | some s =>
        obtain ⟨_, _, hs⟩ := HI.out.val m (p + 1) s (Nat.le_refl _) hk
        have hcan : canF f (p + 1) m = decide (s ≠ 0) := by rw [can_share (by omega) hm0, ← hs]
        rw [hcan]
        have HP : Hid (∀ W', Below W.heap.size W W' → CanPost f bm (p + 1) m μ μ W W') := fun W' hb => ⟨hM.below hb, HI.out, Grows.refl _ _, fun _ _ => by rw [hk]; simp, cs_of_below hb, spare_of_below bm hb (Nat.le_refl _)⟩
        rw [hk, hV] at hlk0
        simp only [Option.getD_some, Option.isSome_some, if_true] at hlk0
        clear hs hcan hk hV hb
        gi_wp2_with fail
        refine ⟨.bool ((s : Int) != 0), by simp [results, Tryd.results76, go_sem], ?_, μ, HP.out _ ?_⟩
        · have e : ((s : Int) != 0) = decide (s ≠ 0) := by
            by_cases h : s = 0 <;> simp [h]
          rw [e]
        · (repeat (first | exact Below.refl _ _ | refine Below.setCell ?_ (by first | omega | (simp; omega) | (simp; done)) _ | refine Below.alloc ?_ (by first | omega | (simp; omega) | (simp; done)) _ | refine Below.drew ?_ | refine below_drewN ?_ _ | refine Below.trans ?_ (Below.mono (by assumption) (by first | omega | (simp; omega) | (simp; done)))))
      | none =>
        obtain ⟨w2, hst, hC2, hcs2, hsz2, hoth2⟩ := store_crew (hM.below hb) m (p + 1) 0
        rw [show crewV m (p + 1) = .agg #[vi m, vi pI] from by rw [HPI.out]] at hst
        rw [hV, show ((0 : Nat) : Int) = 0 from rfl] at hst
        rw [hk, hV] at hlk0
        simp only [Option.getD_none, Option.isSome_none, if_true] at hlk0
        have HK := Lib.hid hk
        have HC2 := Lib.hid hC2
        have HCS2 : Hid (CS W w2) := (cs_of_below hb).trans hcs2
        have HO2 : Hid (Spare W.heap.size bm W w2) := ⟨HCS2.out.os, HCS2.out.tape, HCS2.out.output, HCS2.out.size, fun k hk hl => (hoth2 k hl).trans (hb.block k hk)⟩
        have X1w := Lib.hid (hcs2.box X1.out)
        have X2w := Lib.hid (hcs2.box X2.out)
        have X3w := Lib.hid (hcs2.box X3.out)
        have hzV : V.heap.size = W.heap.size + 1 + 1 + 1 := by rw [hV]; simp
        rw [hzV] at hsz2
        have HD2 := Lib.hid (HD.out.cs HCS2.out)
        clear hk hV hb hC2 hcs2 hoth2 X1 X2 X3 HB hM
        have a0 := X1w.out.cell (j := 0) rfl
        have a1 := X1w.out.cell (j := 1) rfl
        have a2 := X1w.out.cell (j := 2) rfl
        have a3 := X1w.out.cell (j := 3) rfl
        have a4 := X1w.out.cell (j := 4) rfl
        have a5 := X1w.out.cell (j := 5) rfl
        have a6 := X1w.out.cell (j := 6) rfl
        have a7 := X1w.out.cell (j := 7) rfl
        have a8 := X1w.out.cell (j := 8) rfl
        have c0 := X2w.out.cell (j := 0) rfl
        have c1 := X2w.out.cell (j := 1) rfl
        have z1 := X1w.out.lt
        have z2 := X2w.out.lt
        gi_wp2_with fail
        refine ⟨trivial, ?_⟩
        refine (callsIn_wide.2 (given_any f m oA qA oC qC bm _ HD2.out.floor HD2.out.ord HD2.out.secs)).mono ?_
        rintro e w4 ⟨pD, pS, pJ, rfl, hGA, hb4⟩
        have hzb := hb4.size
        have HGA := Lib.hid hGA
        clear a0 a1 a2 a3 a4 a5 a6 a7 a8 c0 c1 z1 z2 hGA hst hlk0
        gi_wp2_with fail
        have hbmw : bm < w4.heap.size := by omega
        have hW4 : W.heap.size ≤ w4.heap.size := by omega
        have HCS4 : Hid (CS W w4) := HCS2.out.trans (cs_of_below hb4)
        have HO4 : Hid (Spare W.heap.size bm W w4) := HO2.out.trans (spare_of_below bm hb4 (by omega))
        have HC4 : Hid (CrewMap w4 bm (setM μ m (p + 1) 0)) := HC2.out.below hb4
        have X1v := Lib.hid (X1w.out.keep hb4)
        have X2v := Lib.hid (X2w.out.keep hb4)
        have X3v := Lib.hid (X3w.out.keep hb4)
        have HI0 : Hid (Inv f p (setM μ m (p + 1) 0)) := set_less (HI.out.less (Nat.le_succ p)) m 0
        refine wpIn_rangeFunc_ownG rfl (by omega) (gf := 117) (lb := #[.pointer (some ⟨pD, 0, none⟩), .pointer (some ⟨pS, 0, none⟩), .pointer (some ⟨pJ, 0, none⟩)]) rfl trivial (enters_of Tryd.func117 (by kernel_rfl) rfl)
          (given_seq f HV.out m hm oA qA oC qC bm pD pS pJ w4 HGA.out _) (fun h k => CS.trans h k) (fun W l o o' _ h h1 _ => CS.turn W l o o' h h1) (Below.refl _ _) (fun _ => rfl)
          (fun pre X => CanI f bm p m μ W w4 (Subs pre) X) (fun c pre X => CanX f bm p m (W.heap.size + 1 + 1) μ W c (Subs pre) X) (fun s X Y row hs hg hr => own_canI f bm p m μ W w4 _ hbmw hW4 (Subs s) X Y row hs hg hr) (fun c s X Y row hs hg hr => own_canX f bm p m _ μ W _ hbmw hW4 c (Subs s) X Y row hs hg hr)
          ⟨_, HC4.out, HI0.out, Grows.refl _ _, by simp [Subs], CS.refl _, HO4.out⟩
          (fun x => { tmps := #[.agg #[.slice f.fA f.far.length f.fC, vi f.slo, vi f.shi, .slice f.pA f.picks.length f.pC, vi f.carry, .slice f.sA f.slips.length f.sC, .slice oA f.slips.length oC, .slice qA f.slips.length qC, .map (some bm)], .agg #[vi m, vi pI], .pointer (some ⟨W.heap.size, 0, none⟩), .pointer (some ⟨W.heap.size + 1, 0, none⟩), .pointer (some ⟨W.heap.size + 1 + 1, 0, none⟩), vi 0, .bool false, vi x.1, .pointer (some ⟨W.heap.size + 1, 0, none⟩), vi m, .bool false, .bool false, .pointer (some ⟨W.heap.size + 1, 1, none⟩), vi pI, .bool false, .bool false, undef, undef, undef, .tuple #[vi 0, .bool false], .pointer (some ⟨W.heap.size, 8, none⟩), .map (some bm), .agg #[vi m, vi pI], .tuple #[vi 0, .bool false], vi 0, .bool false, .bool false, undef, undef, .pointer (some ⟨W.heap.size, 8, none⟩), .map (some bm), .agg #[vi m, vi pI], .agg #[.slice f.fA f.far.length f.fC, vi f.slo, vi f.shi, .slice f.pA f.picks.length f.pC, vi f.carry, .slice f.sA f.slips.length f.sC, .slice oA f.slips.length oC, .slice qA f.slips.length qC, .map (some bm)], .pointer (some ⟨W.heap.size + 1, 0, none⟩), vi m, .pointer (some ⟨W.heap.size, 0, none⟩), .agg #[.slice f.fA f.far.length f.fC, vi f.slo, vi f.shi, .slice f.pA f.picks.length f.pC, vi f.carry, .slice f.sA f.slips.length f.sC], inTimeV f, givenV pD pS pJ, vi x.1, undef, undef, undef, undef, undef, undef, undef, undef, undef, undef, undef, undef, undef, undef], defers := [] }) ?assign ?body ?done ?stop
        case assign =>
          intro l x X K hK
          gi_wp2
          exact hK
        case body =>
          rintro l pre ⟨x, hx⟩ X ⟨μ1, h1, h2, h3, h4, h5, h6⟩ hlt
          have hzX := h5.size
          have hbX : bm < X.heap.size := by omega
          have HX1 := Lib.hid (h5.box X1v.out)
          have HX2 := Lib.hid (h5.box X2v.out)
          have HX3 := Lib.hid (h5.box X3v.out)
          have a0 := HX1.out.cell (j := 0) rfl
          have a1 := HX1.out.cell (j := 1) rfl
          have a2 := HX1.out.cell (j := 2) rfl
          have a3 := HX1.out.cell (j := 3) rfl
          have a4 := HX1.out.cell (j := 4) rfl
          have a5 := HX1.out.cell (j := 5) rfl
          have a6 := HX1.out.cell (j := 6) rfl
          have a7 := HX1.out.cell (j := 7) rfl
          have a8 := HX1.out.cell (j := 8) rfl
          have c0 := HX2.out.cell (j := 0) rfl
          have c1 := HX2.out.cell (j := 1) rfl
          have z1 := HX1.out.lt
          have z2 := HX2.out.lt
          have hbits := less_fact m x hm hx
          have hpw : IntKind.wrap .i64 (pI - 1) = p := by rw [hp1]; exact wrapI (by omega) (by omega)
          have HSUB : Hid (Subs (pre ++ [⟨x, hx⟩]) = Subs pre ++ [x]) := by unfold Hid; simp [Subs]
          have HDX := Lib.hid (HD.out.cs (HCS4.out.trans h5))
          have CAN := Lib.hid (IH.out (lessF m x) (by omega) (less_lt hm x) X μ1 HDX.out h1 h2)
          obtain ⟨cb, hcb⟩ : ∃ cb, cb = canF f p (lessF m x) := ⟨_, rfl⟩
          have HCB := Lib.hid hcb
          rw [← hcb] at CAN
          obtain ⟨lx, hlx⟩ : ∃ lx, lx = lessF m x := ⟨_, rfl⟩
          have HLX := Lib.hid hlx
          rw [← hlx] at CAN hbits
          have H1 := Lib.hid h1
          have H2 := Lib.hid h2
          have H3 := Lib.hid h3
          have H4 := Lib.hid h4
          have H5 := Lib.hid h5
          have H6 := Lib.hid h6
          clear hcb hlx h1 h2 h3 h4 h5 h6
          gi_wp2_with fail
          refine ⟨trivial, ?_⟩
          refine (CallsIn.inRound l (callsIn_wide.2 CAN.out)).mono ?_
          rintro e X2 ⟨rfl, μ2, hP⟩
          have HP := Lib.hid hP
          have HS2 : Hid (Spare W.heap.size bm W X2) := ⟨hP.cs.os.trans H6.out.os, hP.cs.tape.trans H6.out.tape, hP.cs.output.trans H6.out.output, Nat.le_trans H6.out.size hP.cs.size, fun k hk hl => (hP.spare.block k (by omega) hl).trans (H6.out.block k hk hl)⟩
          have HKF : Hid (KeepsFrom w4.heap.size X X2) := ⟨hP.cs.size, fun k o hk ho _ => (hP.spare.block k (Array.getElem?_eq_some_iff.1 ho).1 (by omega)).trans ho⟩
          have Y1 := Lib.hid (hP.cs.box HX1.out)
          have Y2 := Lib.hid (hP.cs.box HX2.out)
          have Y3 := Lib.hid (hP.cs.box HX3.out)
          clear a0 a1 a2 a3 a4 a5 a6 a7 a8 c0 c1 z1 z2 hbits hpw hP
          rcases cb with _ | _
          · gi_wp2_with fail
            refine ⟨HKF.out, HP.out.cs, μ2, HP.out.map, HP.out.inv, H3.out.trans HP.out.grows, ?_, H5.out.trans HP.out.cs, HS2.out⟩
            intro y hy
            rw [HSUB.out, List.mem_append, List.mem_singleton] at hy
            rcases hy with hy | rfl
            · exact H4.out y hy
            · exact HCB.out.symm
          · obtain ⟨w5, hst, hC5, hcs5, hsz5, hoth5⟩ := store_crew HP.out.map m (p + 1) x
            rw [show crewV m (p + 1) = .agg #[vi m, vi pI] from by rw [HPI.out]] at hst
            have HC5 := Lib.hid hC5
            have HCS5 := Lib.hid hcs5
            have HO5 := Lib.hid hoth5
            have b0 := Y1.out.cell (j := 8) rfl
            have c0 := Y2.out.cell (j := 0) rfl
            have c1 := Y2.out.cell (j := 1) rfl
            have z1 := Y1.out.lt
            have z2 := Y2.out.lt
            have Y5 := hcs5.box Y3.out
            have r0 := Y5.cell (j := 0) rfl
            have q0 := Y5.frozen 0
            have zr := Y5.lt
            have HY5 := Lib.hid Y5
            have hzX2 := HP.out.cs.size
            have hrb : bm ≠ W.heap.size + 1 + 1 := by omega
            clear hC5 hcs5 hoth5 Y5
            gi_wp2_with fail
            refine ⟨?_, rfl, Subs pre, x, μ2, HSUB.out, H4.out, HCB.out.symm, ?_, HP.out.inv, H3.out.trans HP.out.grows, ?_, HY5.out.store 0 (.bool true), ?_, ?_⟩
            · refine ⟨by have := HKF.out.size; simp; omega, fun k o hk ho hc => ?_⟩
              have h1 := HKF.out.same k o hk ho hc
              rw [heap_setCell_other _ _ k _ (by rintro e; have := HX3.out; unfold CellsBox at this; simp only at e; rw [e, this] at ho; cases ho; cases hc), HO5.out k (by omega)]
              exact h1
            · exact HC5.out.keep (heap_setCell_other _ _ bm _ hrb)
            · intro g1 g2
              rw [← HLX.out]
              exact HP.out.known (by rw [HLX.out]; exact g1) g2
            · have hh : CS W w5 := (HCS4.out.trans H5.out).trans (HP.out.cs.trans HCS5.out)
              exact ⟨hh.os, hh.tape, hh.output, by have := hh.size; simpa using this, fun k c t z hk => (heap_setCell_other _ _ k _ (by have := (Array.getElem?_eq_some_iff.1 hk).1; simp only; omega)).trans (hh.boxes k c t z hk)⟩
            · have hh : CS W w5 := (HCS4.out.trans H5.out).trans (HP.out.cs.trans HCS5.out)
              exact ⟨hh.os, hh.tape, hh.output, by have := hh.size; simpa using this, fun k hk hl => ((heap_setCell_other _ _ k _ (by simp only; omega)).trans (HO5.out k hl)).trans (HS2.out.block k hk hl)⟩
        case done =>
          rintro D xs X hD hxs ⟨μ1, h1, h2, h3, h4, h5, h6⟩ hDf
          rw [hxs] at h4
          have hsh : shareF f (p + 1) m = 0 := by
            unfold shareF
            rw [Nat.add_sub_cancel, List.find?_eq_none.2 (fun x hx => by rw [h4 x hx]; simp)]
            rfl
          have hcan : canF f (p + 1) m = false := by rw [can_share (by omega) HM0.out, hsh]; simp
          obtain ⟨hinv, hgr⟩ := HI.out.close HM0.out HK.out h2 h3 0 hsh.symm (fun h => absurd rfl h)
          have heq : setM μ1 m (p + 1) 0 = μ1 := by
            funext m' p'
            unfold setM
            split
            · rename_i h
              obtain ⟨rfl, rfl⟩ := h
              exact (h3.keep m' (p + 1) 0 (by simp [setM])).symm
            · rfl
          rw [heq] at hinv hgr
          have hc := CS.box h5 X3v.out
          have r0 := hc.cell (j := 0) rfl
          have q0 := hc.frozen 0
          have zr := hc.lt
          have HCAN := Lib.hid hcan
          have hzX := h5.size
          obtain ⟨Z, hZ⟩ : ∃ Z, Z = X.setCell ⟨W.heap.size + 1 + 1, 0, none⟩ (.bool false) := ⟨_, rfl⟩
          have hZo : ∀ k, k ≠ W.heap.size + 1 + 1 → Z.heap[k]? = X.heap[k]? := fun k hk => by rw [hZ]; exact heap_setCell_other _ _ k _ hk
          have hZc : CellsBox Z (W.heap.size + 1 + 1) 4 [.bool false] := by rw [hZ]; exact hc.store 0 (.bool false)
          have hZD : Z.heap[D]? = some (.deferred (some [])) := (hZo D (by omega)).trans hDf
          have hZs : Z.heap.size = X.heap.size ∧ Z.os = X.os ∧ Z.tape = X.tape ∧ Z.output = X.output := by rw [hZ]; exact ⟨by simp, rfl, rfl, rfl⟩
          have HP : Hid (CanPost f bm (p + 1) m μ μ1 W (Z.putObj D (.deferred none))) := by
            have hW := HCS4.out.trans h5
            have hk : ∀ k, k ≠ D → k ≠ W.heap.size + 1 + 1 → (Z.putObj D (.deferred none)).heap[k]? = X.heap[k]? := fun k h1 h2 => (World.putObj_heap_other h1).trans (hZo k h2)
            have hbd := h1.lt
            refine ⟨h1.keep (hk bm (by omega) (by omega)), hinv, hgr, fun _ _ => ?_, ⟨hZs.2.1.trans hW.os, hZs.2.2.1.trans hW.tape, hZs.2.2.2.trans hW.output, by have := hW.size; simp; omega, fun k c t z hkc => ?_⟩, ⟨hZs.2.1.trans hW.os, hZs.2.2.1.trans hW.tape, hZs.2.2.2.trans hW.output, by have := hW.size; simp; omega, fun k hk1 hk2 => ?_⟩⟩
            · rw [h3.keep m (p + 1) 0 (by simp [setM])]; simp
            · have := (Array.getElem?_eq_some_iff.1 hkc).1
              exact (hk k (by omega) (by omega)).trans (hW.boxes k c t z hkc)
            · exact (hk k (by omega) (by omega)).trans (h6.block k hk1 hk2)
          have Z0 := hZc.cell (j := 0) rfl
          have HZ := Lib.hid hZ
          have HZD := Lib.hid hZD
          have HZ0 := Lib.hid Z0
          have HDne : Hid (D ≠ W.heap.size + 1 + 1) := by unfold Hid; omega
          clear hinv hgr heq hsh hcan h1 h2 h3 h4 h5 h6 hc hZ hZo hZc hZD hZs Z0
          gi_wp2
          refine (?_ : ∀ Z' : World, Z = Z' → bodyPostM _ _ _ _ _ _ _ Z') _ HZ.out
          rintro _ rfl
          refine ⟨by simp, .inl ⟨_, _, rfl, run_takeDeferred HZD.out, ?_⟩⟩
          have o0 : (Z.putObj D (.deferred none)).cell? ⟨W.heap.size + 1 + 1, 0, none⟩ = some (.bool false) := (World.cell?_of_block (World.putObj_heap_other HDne.out.symm)).trans HZ0.out
          refine ⟨.bool false, by simp [results, Tryd.results76, go_sem, o0], ?_, μ1, HP.out⟩
          rw [HCAN.out]
        case stop =>
          rintro D c pre X hD ⟨d, x, r, hd, hpre⟩ ⟨rfl, d', x', μ1, hpre', g1, g2, g3, g4, g5, g6, g7, g8, g9⟩ hDf
          have hdd : d = d' ∧ x = x' := by
            have := hpre.symm.trans hpre'
            have h1 := List.append_inj' this rfl
            exact ⟨h1.1, by simpa using h1.2⟩
          obtain ⟨rfl, rfl⟩ := hdd
          have hfind : (givenF f m).find? (fun y => canF f p (lessF m y)) = some x := by
            rw [hd, List.find?_append, List.find?_eq_none.2 (fun y hy => by rw [g1 y hy]; simp), List.find?_cons, g2]
            rfl
          have hsh : shareF f (p + 1) m = x := by
            unfold shareF
            rw [Nat.add_sub_cancel, hfind]
            rfl
          have hx0 : x ≠ 0 := given_pos f m _ _ _ x (by have : x ∈ givenF f m := by rw [hd]; simp
                                                        exact this)
          have hcan : canF f (p + 1) m = true := by rw [can_share (by omega) HM0.out, hsh]; simpa using hx0
          obtain ⟨hinv, hgr⟩ := HI.out.close HM0.out HK.out g4 g5 x hsh.symm (fun _ h1 h2 => g6 h1 h2)
          have HCAN := Lib.hid hcan
          have HP : Hid (CanPost f bm (p + 1) m μ (setM μ1 m (p + 1) x) W (X.putObj D (.deferred none))) := by
            have hk : ∀ k, k ≠ D → (X.putObj D (.deferred none)).heap[k]? = X.heap[k]? := fun k h1 => World.putObj_heap_other h1
            refine ⟨g3.keep (hk bm (by omega)), hinv, hgr, fun _ _ => by simp [setM], ⟨g8.os, g8.tape, g8.output, by have := g8.size; simpa using this, fun k c t z hkc => ?_⟩, ⟨g8.os, g8.tape, g8.output, by have := g8.size; simpa using this, fun k hk1 hk2 => ?_⟩⟩
            · have := (Array.getElem?_eq_some_iff.1 hkc).1
              exact (hk k (by omega)).trans (g8.boxes k c t z hkc)
            · exact (hk k (by omega)).trans (g9.block k hk1 hk2)
          have o0 : (X.putObj D (.deferred none)).cell? ⟨W.heap.size + 1 + 1, 0, none⟩ = some (.bool true) := (World.cell?_of_block (World.putObj_heap_other (by simp only; omega))).trans (g7.cell (j := 0) rfl)
          have HO0 := Lib.hid o0
          clear hinv hgr hcan hx0 hsh hfind g1 g2 g3 g4 g5 g6 g7 g8 g9 o0
          gi_wp2
          refine ⟨by simp, .inl ⟨_, _, rfl, run_takeDeferred hDf, ?_⟩⟩
          have o0 := HO0.out
          refine ⟨.bool true, by simp [results, Tryd.results76, go_sem, o0], ?_, _, HP.out⟩
          rw [HCAN.out]
end Go.Proofs.YtomgnpfpaodpiaaDoor

/- Contract of fewest. -/
namespace Go.Proofs.YtomgnpfpaodpiaaDoor
open Go Go.RowKit Go.Shelf
set_option maxHeartbeats 2000000
theorem Lim.cs {a b : World} (h : Lim a) (hc : CS a b) : Lim b :=
  ⟨by have := hc.size; have := h.pos; omega, fun k hk => hc.cell (h.lo k hk), fun k hk => hc.cell (h.hi k hk)⟩
theorem Inv.widen {f : Floor} {p P : Nat} {μ μ' : Nat → Nat → Option Nat} (h : Inv f P μ) (h' : Inv f p μ') (hg : Grows p μ μ') (hp : p ≤ P) : Inv f P μ' := by
  refine ⟨fun m q s hq e => ?_, fun m q s hq e h1 h2 h3 => ?_⟩
  · by_cases hc : q ≤ p
    · exact h'.val m q s hc e
    · rw [hg.above m q (by omega)] at e
      exact h.val m q s hq e
  · by_cases hc : q ≤ p
    · exact h'.rest m q s hc e h1 h2 h3
    · rw [hg.above m q (by omega)] at e
      have := h.rest m q s hq e h1 h2 h3
      cases hr : μ (lessF m s) (q - 1) with
      | none => exact absurd hr this
      | some t => rw [hg.keep _ _ _ hr]; simp
/-- all slips of a floor -/
def allF (f : Floor) : Nat := 2 ^ f.slips.length - 1
theorem allF_lt {f : Floor} (h : f.slips.length ≤ 9) : allF f < 512 := by
  have : 2 ^ f.slips.length ≤ 2 ^ 9 := Nat.pow_le_pow_right (by omega) h
  unfold allF
  omega
/-- how many pickers at least have all in time -/
def fewF (f : Floor) : Option Nat := [1, 2, 3, 4, 5].find? fun p => canF f p (allF f)
theorem few_some {f : Floor} {k : Nat} (h1 : 1 ≤ k) (h5 : k ≤ 5) (hb : ∀ j, 1 ≤ j → j < k → canF f j (allF f) = false) (hk : canF f k (allF f) = true) : fewF f = some k := by
  unfold fewF
  obtain rfl | rfl | rfl | rfl | rfl : k = 1 ∨ k = 2 ∨ k = 3 ∨ k = 4 ∨ k = 5 := by omega
  · simp [List.find?_cons, hk]
  · simp [List.find?_cons, hk, hb 1 (by omega) (by omega)]
  · simp [List.find?_cons, hk, hb 1 (by omega) (by omega), hb 2 (by omega) (by omega)]
  · simp [List.find?_cons, hk, hb 1 (by omega) (by omega), hb 2 (by omega) (by omega), hb 3 (by omega) (by omega)]
  · simp [List.find?_cons, hk, hb 1 (by omega) (by omega), hb 2 (by omega) (by omega), hb 3 (by omega) (by omega), hb 4 (by omega) (by omega)]
theorem few_none {f : Floor} (hb : ∀ j, 1 ≤ j → j < 6 → canF f j (allF f) = false) : fewF f = none := by
  unfold fewF
  simp [List.find?_cons, hb 1 (by omega) (by omega), hb 2 (by omega) (by omega), hb 3 (by omega) (by omega), hb 4 (by omega) (by omega), hb 5 (by omega) (by omega)]
/-- what fewest leaves -/
structure FewPost (f : Floor) (bm : Nat) (μ' : Nat → Nat → Option Nat) (W W' : World) : Prop where
  map : CrewMap W' bm μ'
  inv : Inv f 5 μ'
  cs : CS W W'
  spare : Spare W.heap.size bm W W'
/-- what is so between rounds -/
structure FewI (f : Floor) (bm bd k : Nat) (dc : List Value) (μ' : Nat → Nat → Option Nat) (W X : World) : Prop extends FewPost f bm μ' W X where
  box : CellsBox X bd 108 dc
  none : ∀ j, 1 ≤ j → j < k → canF f j (allF f) = false
set_option maxRecDepth 100000 in
theorem fewest_any (f : Floor) (hv : validB f = true) (oA qA : Option Addr) (oC qC bm : Nat) (W : World) (μ : Nat → Nat → Option Nat) (hL : Lim W) (hD : DeskIn W f oA qA oC) (hM : CrewMap W bm μ) (hI : Inv f 5 μ) :
    Calls Tryd.prog 69 #[.agg (deskC f oA oC qA f.slips.length qC bm).toArray] W fun e W' => e = .returned (.tuple #[vi ((fewF f).getD 0 : Nat), .bool (fewF f).isSome]) ∧ ∃ μ', FewPost f bm μ' W W' ∧ ∀ p, fewF f = some p → allF f ≠ 0 → μ' (allF f) p ≠ none := by
  have h9 : f.slips.length ≤ 9 := (fine hv).slips9
  have HA := Lib.hid (allF_lt h9)
  have HV := Lib.hid hv
  have HD := Lib.hid hD
  have HL := Lib.hid hL
  have H9 := Lib.hid h9
  have zM := hM.lt
  have HW : Hid (FewI f bm W.heap.size 1 (deskC f oA oC qA f.slips.length qC bm) μ W (W.alloc (.cells (deskC f oA oC qA f.slips.length qC bm).toArray 108))) := by
    have hb : Below W.heap.size W (W.alloc (.cells (deskC f oA oC qA f.slips.length qC bm).toArray 108)) := by (repeat (first | exact Below.refl _ _ | refine Below.setCell ?_ (by first | omega | (simp; omega) | (simp; done)) _ | refine Below.alloc ?_ (by first | omega | (simp; omega) | (simp; done)) _ | refine Below.drew ?_ | refine below_drewN ?_ _ | refine Below.trans ?_ (Below.mono (by assumption) (by first | omega | (simp; omega) | (simp; done)))))
    exact ⟨⟨hM.below hb, hI, cs_of_below hb, spare_of_below bm hb (Nat.le_refl _)⟩, CellsBox.new _ _ _, fun j h1 h2 => by omega⟩
  have l0 := (hL.row 9 (by omega) (a := 1) (b := 5) (by decide) (by decide)).1
  have l1 := (hL.row 9 (by omega) (a := 1) (b := 5) (by decide) (by decide)).2
  have zL := hL.pos
  clear hv hD hL h9 hM hI
  show Calls Tryd.prog 69 #[.agg #[.slice f.fA f.far.length f.fC, vi f.slo, vi f.shi, .slice f.pA f.picks.length f.pC, vi f.carry, .slice f.sA f.slips.length f.sC, .slice oA f.slips.length oC, .slice qA f.slips.length qC, .map (some bm)]] W _
  go_enter Tryd.func69, Tryd.ntmps69
  go_wp2_with fail
  go_loopw [4] (fun v wr => ∃ (k : Nat) (μ' : Nat → Nat → Option Nat), 1 ≤ k ∧ k ≤ 6 ∧ v = vi k ∧ FewI f bm W.heap.size k (deskC f oA oC qA f.slips.length qC bm) μ' W wr) (fun v _ => 6 - (intOf v).toNat)
  case atStart => exact ⟨1, μ, by omega, by omega, rfl, HW.out⟩
  obtain ⟨k, μ1, h1, h6, rfl, hF⟩ := hrel
  have HF := Lib.hid hF
  have HCS : Hid (CS W wr) := hF.cs
  have l0 := HCS.out.cell l0
  have l1 := HCS.out.cell l1
  have zL : 0 < wr.heap.size := (HL.out.cs HCS.out).pos
  have a0 := hF.box.cell (j := 0) rfl
  have a1 := hF.box.cell (j := 1) rfl
  have a2 := hF.box.cell (j := 2) rfl
  have a3 := hF.box.cell (j := 3) rfl
  have a4 := hF.box.cell (j := 4) rfl
  have a5 := hF.box.cell (j := 5) rfl
  have a6 := hF.box.cell (j := 6) rfl
  have a7 := hF.box.cell (j := 7) rfl
  have a8 := hF.box.cell (j := 8) rfl
  have z1 := hF.box.lt
  clear hF
  by_cases hk : k ≤ 5
  · have hkI : (k : Int) ≤ 5 := by omega
    have hwr : IntKind.wrap .i64 ((k : Int) + 1) = (k : Int) + 1 := wrapI (by omega) (by omega)
    have BX : Hid (CellsBox wr W.heap.size 108 (deskC f oA oC qA f.slips.length qC bm)) := HF.out.box
    have AL := Lib.hid (fun X => all_any f H9.out X)
    have HDR := Lib.hid (HD.out.cs HCS.out)
    have CAN := Lib.hid (fun X hX hY hZ => can_any f HV.out oA qA oC qC bm k (allF f) hk HA.out X μ1 hX hY hZ)
    obtain ⟨cb, hcb⟩ : ∃ cb, cb = canF f k (allF f) := ⟨_, rfl⟩
    have HCB := Lib.hid hcb
    have E0 : (2 ^ f.slips.length - 1 : Nat) = allF f := rfl
    rw [E0] at AL
    rw [← hcb] at CAN
    obtain ⟨m, hm⟩ : ∃ m, m = allF f := ⟨_, rfl⟩
    have HMM := Lib.hid hm
    rw [← hm] at CAN AL
    clear hcb hm E0
    go_wp2_with fail
    refine' wp_region_box (fun w' => CS wr w') (fun a b h h' => h.trans (cs_of_below h')) [0, 1, 2, 3, 4, 5] 1 23 (by kernel_rfl) (by kernel_rfl) rfl (by kernel_rfl) (by kernel_rfl) rfl (by kernel_rfl) ?hl5 (CS.refl _) ?hq5 ?hr5
    case hl5 =>
      simp only [List.map_cons, List.map_nil, List.getD_cons_zero, List.getD_cons_succ]
      exact rfl
    case hq5 =>
      intro w0 K
      have Y := K.box BX.out
      have f0 := Y.cell (j := 0) rfl
      have f1 := Y.cell (j := 1) rfl
      have f2 := Y.cell (j := 2) rfl
      have f3 := Y.cell (j := 3) rfl
      have f4 := Y.cell (j := 4) rfl
      have f5 := Y.cell (j := 5) rfl
      have f6 := Y.cell (j := 6) rfl
      have f7 := Y.cell (j := 7) rfl
      have f8 := Y.cell (j := 8) rfl
      have zf := Y.lt
      (repeat (go_big_quiet_step ((go_at_call 71; refine Calls.grow_of (AL.out _)))))
      exact wpQuiet_nil rfl
    case hr5 =>
      refine wpUp_one (i := 6) (by kernel_rfl) rfl rfl (fun wa a1 a2 Ka hKa => ?_)
      go_simp
      refine (CAN.out wa (HDR.out.cs a2) (HF.out.map.below a1) (HF.out.inv.less hk)).mono ?_
      rintro e w2 ⟨rfl, μ2, hP⟩
      have HP := Lib.hid hP
      clear hP
      refine hKa _ _ (a2.trans HP.out.cs) (wpUp_done (by kernel_rfl) (fun W8 g1 g2 => NoPanic.normal ?_))
      have H8 : Hid (FewPost f bm μ2 W W8) := by
        have hsa := spare_of_below bm a1 (Nat.le_refl _)
        have hz0 := HCS.out.size
        have hz1 := a1.size
        have hz2 := HP.out.cs.size
        refine ⟨HP.out.map.below g1, HF.out.inv.widen HP.out.inv HP.out.grows hk, (HCS.out.trans a2).trans (HP.out.cs.trans (cs_of_below g1)), ?_⟩
        have s1 : Spare W.heap.size bm wr wa := spare_of_below bm a1 hz0
        have s2 : Spare W.heap.size bm wa w2 := ⟨HP.out.cs.os, HP.out.cs.tape, HP.out.cs.output, HP.out.cs.size, fun k hk hl => HP.out.spare.block k (by omega) hl⟩
        have s3 : Spare W.heap.size bm w2 W8 := spare_of_below bm g1 (by omega)
        exact HF.out.spare.trans (s1.trans (s2.trans s3))
      have HB8 : Hid (CellsBox W8 W.heap.size 108 (deskC f oA oC qA f.slips.length qC bm)) := (a2.trans (HP.out.cs.trans (cs_of_below g1))).box BX.out
      rcases cb with _ | _
      · go_wp2_with fail
        go_roundw
        case rel =>
          refine ⟨k + 1, μ2, by omega, by omega, by go_num, H8.out, HB8.out, fun j h1 h2 => ?_⟩
          by_cases e : j = k
          · subst e; exact HCB.out.symm
          · exact HF.out.none j h1 (by omega)
        case measure => simp [intOf]; omega
      · have hsome := few_some h1 hk HF.out.none HCB.out.symm
        go_wp2_with fail
        go_ret2
        rw [hsome]
        refine ⟨rfl, μ2, H8.out, fun p hp hne => ?_⟩
        cases hp
        have := HP.out.known (by rw [HMM.out]; exact hne) (by omega)
        rwa [HMM.out] at this
  · obtain rfl : k = 6 := by omega
    have HN := few_none HF.out.none
    go_wp2_with fail
    go_ret2
    rw [HN]
    exact ⟨rfl, μ1, HF.out.toFewPost, fun p h => by cases h⟩
end Go.Proofs.YtomgnpfpaodpiaaDoor

/- Contract of desk.sorted. -/
namespace Go.Proofs.YtomgnpfpaodpiaaDoor
open Go Go.RowKit
set_option maxHeartbeats 2000000
def sortedK (m : Nat) (l : List Nat) (k : Nat) : List Nat := (l.take k).filter (fun s => m.testBit s)
def sortedF (m : Nat) (l : List Nat) : List Nat := l.filter (fun s => m.testBit s)
theorem sortedK_succ {m : Nat} {l : List Nat} {k s : Nat} (h : l[k]? = some s) : sortedK m l (k + 1) = sortedK m l k ++ (if m.testBit s then [s] else []) := by
  obtain ⟨hk, rfl⟩ := List.getElem?_eq_some_iff.1 h
  unfold sortedK
  rw [List.take_succ_eq_append_getElem hk, List.filter_append]
  by_cases h : m.testBit l[k] <;> simp [h]
theorem sortedK_le (m : Nat) (l : List Nat) (k : Nat) : (sortedK m l k).length ≤ k := by
  have := List.length_filter_le (fun s => m.testBit s) (l.take k)
  rw [List.length_take] at this
  unfold sortedK
  omega
theorem sorted_any (f0 f1 f2 f3 f4 f5 : Value) (oA : Option Addr) (oC : Nat) (ol : List Nat) (qs mv : Value) (ho : ∀ s ∈ ol, s < 9) (hol : ol.length ≤ 9) (m : Nat) (hm : m < 512) (w : World) (h : IntsAt w w.heap.size oA oC (natsC ol)) (c0 : f0.oneCell' = true) (c1 : f1.oneCell' = true) (c2 : f2.oneCell' = true) (c3 : f3.oneCell' = true) (c4 : f4.oneCell' = true) (c5 : f5.oneCell' = true) (cq : qs.oneCell' = true) (cm : mv.oneCell' = true) :
    Calls Tryd.prog 104 #[.agg #[f0, f1, f2, f3, f4, f5, .slice oA ol.length oC, qs, mv], vi m] w fun e w' => ∃ A, e = .returned (.slice A (sortedF m ol).length (sortedF m ol).length) ∧ IntsAt w' w'.heap.size A (sortedF m ol).length (natsC (sortedF m ol)) ∧ (∀ b, A = some b → w.heap.size ≤ b.block) ∧ Below w.heap.size w w' := by
  have hll := h.lens
  simp only [List.length_map] at hll
  have HH := Lib.hid h
  obtain ⟨i0, hi, hy0, hy1, hy2⟩ := info_parts info_int
  have HX : Hid (∀ (k s : Nat), ol[k]? = some s → s < 9 ∧ ∃ b : Bool, m.testBit s = b ∧ sortedK m ol (k + 1) = sortedK m ol k ++ (if b then [s] else [])) := fun k s hs => ⟨ho s (List.mem_of_getElem? hs), _, rfl, sortedK_succ hs⟩
  have HL : Hid (∀ k, (sortedK m ol k).length ≤ k) := sortedK_le m ol
  have HA : Hid (sortedK m ol ol.length = sortedF m ol) := by unfold Hid sortedK sortedF; rw [List.take_length]
  have E0 : Hid (sortedK m ol 0 = []) := rfl
  obtain ⟨R, hR⟩ : ∃ R, R = sortedF m ol := ⟨_, rfl⟩
  obtain ⟨S, hS⟩ : ∃ S, S = sortedK m ol := ⟨_, rfl⟩
  rw [← hS] at HX HL HA E0
  rw [← hR] at HA ⊢
  clear hR hS h ho
  go_enter Tryd.func104, Tryd.ntmps104
  go_wp2_with fail
  go_loopw [5, 7, 11] (fun v x i wr => ∃ k : Nat, k ≤ ol.length ∧ i = .int .i64 k ∧ Below w.heap.size w wr ∧ wr.ownsRow w.heap.size 3 1 v (S k).length ((natsC (S k)).map vi)) (fun _ _ i _ => ol.length - (intOf i).toNat)
  case atStart => exact ⟨0, Nat.zero_le _, rfl, by (repeat (first | exact Below.refl _ _ | refine Below.setCell ?_ (by first | omega | (simp; omega) | (simp; done)) _ | refine Below.alloc ?_ (by first | omega | (simp; omega) | (simp; done)) _ | refine Below.drew ?_ | refine below_drewN ?_ _ | refine Below.trans ?_ (Below.mono (by assumption) (by first | omega | (simp; omega) | (simp; done))))), by rw [E0.out]; exact World.ownsRow_nil _ _ _ _⟩
  obtain ⟨k, hk, rfl, hB, hown⟩ := hrel
  have hlen := HL.out k
  have hz := hB.size
  by_cases hlt : k < ol.length
  · obtain ⟨s, hs⟩ : ∃ s, ol[k]? = some s := ⟨_, List.getElem?_eq_getElem hlt⟩
    obtain ⟨s9, b, hb, S1⟩ := HX.out k s hs
    obtain ⟨bb, off, rfl, hbb, x0⟩ := ints_at (HH.out.to hB) (k := k) (x := (s : Int)) (by rw [List.getElem?_map, hs]; rfl)
    have hkI : (k : Int) < ol.length := by omega
    have h0k : (0 : Int) ≤ k := by omega
    have HI := Lib.hid (setHas_is hb hm s9)
    have S1 := Lib.hid S1
    have zbb : bb < wr.heap.size := cell_lt x0
    obtain ⟨L, hL⟩ : ∃ L, L = S k := ⟨_, rfl⟩
    rw [← hL] at hown hlen S1
    clear hL hb hs
    obtain ⟨A', c', rfl, h1, h2⟩ := own_form hown
    go_wp2_with fail
    refine (HI.out _).mono ?_
    rintro e W2 ⟨rfl, hb2⟩
    have HB2 : Below w.heap.size w W2 := hB.trans (hb2.mono hz)
    have hown2 := own_keep hown hb2
    have hz2 := HB2.size
    clear hb2 hown x0
    rcases b with _ | _
    · go_wp2_with fail
      go_roundw
      case rel =>
        refine ⟨k + 1, by omega, by go_num, HB2, ?_⟩
        rw [S1.out]
        simpa using hown2
      case measure => simp [intOf]; omega
    · go_wp2_with (at_builtin; go_loud (refine wpList_append_own _ rfl _ _ 22 rfl w.heap.size 3 i0 (.int .i64 0) 1 8 Tryd.underlying22 hi hy0 hy1 hy2 rfl (by decide) _ _ _ rfl (hown2.alloc _) ⟨W2.heap.size, 0, none⟩ 1 1 [vi s] rfl rfl (cell_one_new _ _ _) (by simp [Value.oneCell']) (by unfold maxLen; omega) (by omega) (by simp; omega) ?_; intro v5 w5 hown5 hgrow5 _))
      have HB5 : Below w.heap.size w w5 := Below.grown (HB2.alloc (by omega) _) hgrow5 (by simp; omega) (fun j e => (hown2.lt j e).1)
      obtain ⟨A5, c5, rfl, -, -⟩ := own_form hown5
      go_roundw
      case rel =>
        refine ⟨k + 1, by omega, by go_num, HB5, ?_⟩
        rw [S1.out]
        simpa using hown5
      case measure => simp [intOf]; omega
  · obtain rfl : k = ol.length := by omega
    rw [HA.out] at hown hlen
    rw [← intC_flat] at hown
    obtain ⟨A', c', rfl, h1, h2, h3⟩ := own_rows (m := (natsC R).map intC) (intC_one _) hown (by simp) (by omega)
    go_wp2_with fail
    go_ret
    exact ⟨A', rfl, h3, fun b hb => (hown.lt b.block (by rw [hb]; rfl)).1, hB⟩
end Go.Proofs.YtomgnpfpaodpiaaDoor

/- Contract of roster. -/
namespace Go.Proofs.YtomgnpfpaodpiaaDoor
open Go Go.RowKit Go.Shelf
set_option maxHeartbeats 3000000
theorem info_ints : (Tryd.prog.info? 22).map (fun i => (i.zero, i.size, i.bytes)) = some (some (.slice none 0 0), 1, 24) := by kernel_rfl
/-- what one of so many is given -/
def oneF (f : Floor) (p m : Nat) : Nat := if m = 0 then 0 else shareF f p m
/-- the lists of a crew -/
def rosterF (f : Floor) : Nat → Nat → List (List Nat)
  | 0, _ => []
  | p + 1, m => sortedF (oneF f (p + 1) m) (ordN f) :: rosterF f p (lessF m (oneF f (p + 1) m))
theorem roster_len (f : Floor) : ∀ p m : Nat, (rosterF f p m).length = p
  | 0, _ => rfl
  | p + 1, m => by rw [rosterF, List.length_cons, roster_len f p]
/-- an int row that does not lie in a block -/
def FreeI (t : SRow) (g : Nat) : Prop := 0 < t.slips.length → ∀ b, t.ad = some b → b.block ≠ g
theorem ints_apart {w w' : World} {B cap g : Nat} {A : Option Addr} {l : List Int} (h : IntsAt w B A cap l) (ha : 0 < l.length → ∀ b, A = some b → b.block ≠ g) (hk : ∀ p : Addr, p.block < B → p.block ≠ g → w'.cell? p = w.cell? p) : IntsAt w' B A cap l := by
  refine ⟨h.len, h.cap, h.few, fun hl => ?_⟩
  obtain ⟨b, off, hA, hb, hc⟩ := h.row hl
  have hne := ha (by simpa using hl) _ hA
  exact ⟨b, off, hA, hb, fun i r hr j u hj hu => (hk ⟨b, off + i * 1 + j, none⟩ hb hne).trans (hc i r hr j u hj hu)⟩
theorem ints_more {w : World} {B B' cap : Nat} {A : Option Addr} {l : List Int} (h : IntsAt w B A cap l) (hB : B ≤ B') : IntsAt w B' A cap l := by
  refine ⟨h.len, h.cap, h.few, fun hl => ?_⟩
  obtain ⟨b, off, hA, hb, hc⟩ := h.row hl
  exact ⟨b, off, hA, Nat.lt_of_lt_of_le hb hB, hc⟩
/-- a crew that can have its slips in time, and that the map knows -/
structure Crew (f : Floor) (μ : Nat → Nat → Option Nat) (p m : Nat) : Prop where
  many : p ≤ 5
  lt : m < 512
  can : canF f p m = true
  known : m ≠ 0 → p ≠ 0 → μ m p ≠ none
theorem Crew.share {f : Floor} (h9 : f.slips.length ≤ 9) {μ : Nat → Nat → Option Nat} {p m : Nat} (h : Crew f μ (p + 1) m) (hI : Inv f 5 μ) : (μ m (p + 1)).getD 0 = oneF f (p + 1) m ∧ oneF f (p + 1) m < 512 := by
  have hs : oneF f (p + 1) m < 512 := by
    unfold oneF
    split
    · omega
    · unfold shareF
      cases hf : (givenF f m).find? fun x => canF f (p + 1 - 1) (lessF m x) with
      | none => simp
      | some x => exact given_lt f m (ordN f) 0 0 (by omega) (fun s hs => Nat.lt_of_lt_of_le (ordN_mem h9 s hs) h9) x (List.mem_of_find?_eq_some hf)
  refine ⟨?_, hs⟩
  by_cases h0 : m = 0
  · subst h0
    cases hk : μ 0 (p + 1) with
    | none => simp [oneF]
    | some s => exact absurd rfl (hI.val 0 (p + 1) s h.many hk).1
  · cases hk : μ m (p + 1) with
    | none => exact absurd hk (h.known h0 (by omega))
    | some s =>
      have := (hI.val m (p + 1) s h.many hk).2.2
      simp [oneF, h0, this]
theorem Crew.next {f : Floor} {μ : Nat → Nat → Option Nat} {p m : Nat} (h : Crew f μ (p + 1) m) (hI : Inv f 5 μ) : Crew f μ p (lessF m (oneF f (p + 1) m)) := by
  have hm := h.many
  refine ⟨by omega, less_lt h.lt _, ?_, ?_⟩
  · by_cases h0 : m = 0
    · subst h0
      have : lessF 0 (oneF f (p + 1) 0) = 0 := by simp [lessF]
      rw [this, can_zero]
    · have hc := h.can
      rw [can_share (by omega) h0, decide_eq_true_eq] at hc
      simp only [oneF, h0, if_false]
      unfold shareF at hc ⊢
      cases hf : (givenF f m).find? fun x => canF f (p + 1 - 1) (lessF m x) with
      | none => rw [hf] at hc; exact absurd rfl hc
      | some x =>
        have := List.find?_some (p := fun x => canF f (p + 1 - 1) (lessF m x)) hf
        exact this
  · intro h1 h2
    have h0 : m ≠ 0 := by
      rintro rfl
      exact h1 (by simp [lessF])
    have hc := h.can
    rw [can_share (by omega) h0, decide_eq_true_eq] at hc
    cases hk : μ m (p + 1) with
    | none => exact absurd hk (h.known h0 (by omega))
    | some s =>
      have hv := (hI.val m (p + 1) s h.many hk).2.2
      have := hI.rest m (p + 1) s h.many hk (by rw [hv]; exact hc) (by rw [hv]; simpa [oneF, h0] using h1) (by omega)
      rw [hv] at this
      simpa [oneF, h0] using this
end Go.Proofs.YtomgnpfpaodpiaaDoor

