/- Rules by which a run of that machine is computed. Conditions: none. -/
import Derived.Test.YtcmkngajdckndaaGreatDoorZ04
set_option linter.unusedVariables false
set_option linter.unusedSimpArgs false
noncomputable section
namespace Go
namespace Lm
variable {P : Program} {nv : Nat} {ih : Rec} {vs : Vs} {h : Hp} {nx : Nat}
def plc (place : Nat → Option (Nat × Nat)) : List Nat → Option (List (Nat × Nat))
  | [] => some []
  | k :: l => (match place k, plc place l with | some q, some r => bif Nat.blt 0 q.2 then some (q :: r) else none | _, _ => none)
theorem places_eq (place : Nat → Option (Nat × Nat)) : ∀ (ps : List (Nat × Operand)) (fs : List OpV), dXs nv (ps.map Prod.snd) = .mk fs →
    placesL place nv ps = match plc place (ps.map Prod.fst) with | some l => .mk (l.zip fs) | none => .bad := by
  intro ps
  induction ps with
  | nil => intro fs hf; cases hf; rfl
  | cons p ps ihp =>
    intro fs hf
    obtain ⟨f, h1⟩ := dX_some nv p.2
    obtain ⟨k, h2⟩ := dXs_some nv (ps.map Prod.snd)
    have e : dXs nv ((p :: ps).map Prod.snd) = match dX nv p.2, dXs nv (ps.map Prod.snd) with | .mk f, .mk l => .mk (f :: l) := rfl
    rw [e, h1, h2] at hf
    cases hf
    have e2 : placesL place nv (p :: ps) = match place p.1, dX nv p.2, placesL place nv ps with | some q, .mk f, .mk r => Bool.rec .bad (.mk ((q, f) :: r)) (Nat.blt 0 q.2) | _, _, _ => .bad := rfl
    rw [e2, h1, ihp k h2]
    show _ = match (match place p.1, plc place (ps.map Prod.fst) with | some q, some r => bif Nat.blt 0 q.2 then some (q :: r) else none | _, _ => none) with | some l => PL.mk (l.zip (f :: k)) | none => PL.bad
    cases place p.1 with
    | none => rfl
    | some q =>
      cases plc place (ps.map Prod.fst) with
      | none => rfl
      | some r => simp only; cases Nat.blt 0 q.2 <;> rfl
theorem evP_zip : ∀ (l : List (Nat × Nat)) (fs : List OpV), l.length = fs.length → evP (l.zip fs) vs [] = match evs fs vs [] with | some us => some (l.zip us) | none => none := by
  intro l
  induction l with
  | nil => intro fs hl; cases fs with
    | nil => rfl
    | cons _ _ => simp at hl
  | cons q l ihl =>
    intro fs hl
    cases fs with
    | nil => simp at hl
    | cons f fs =>
      have e : evP ((q :: l).zip (f :: fs)) vs [] = match f vs [] with | some v => (match evP (l.zip fs) vs [] with | some us => some ((q, v) :: us) | none => none) | none => none := rfl
      have e2 : evs (f :: fs) vs [] = match f vs [] with | some v => (match evs fs vs [] with | some us => some (v :: us) | none => none) | none => none := rfl
      rw [e, e2, ihl fs (by simpa using hl)]
      cases f vs [] with
      | none => rfl
      | some v => simp only; cases evs fs vs [] <;> rfl
theorem plc_len {place : Nat → Option (Nat × Nat)} : ∀ {is : List Nat} {l : List (Nat × Nat)}, plc place is = some l → l.length = is.length := by
  intro is
  induction is with
  | nil => intro l h; cases h; rfl
  | cons k is ihk =>
    intro l h
    unfold plc at h
    split at h
    · rename_i q r h1 h2
      cases hb : Nat.blt 0 q.2 with
      | false => rw [hb] at h; cases h
      | true => rw [hb] at h; cases h; simp [ihk h2]
    · cases h
theorem dXs_len : ∀ {l : List Operand} {fs : List OpV}, dXs nv l = .mk fs → fs.length = l.length := by
  intro l
  induction l with
  | nil => intro fs h; cases h; rfl
  | cons x l ihl =>
    intro fs h
    obtain ⟨f, h1⟩ := dX_some nv x
    obtain ⟨k, h2⟩ := dXs_some nv l
    have e : dXs nv (x :: l) = match dX nv x, dXs nv l with | .mk f, .mk l => .mk (f :: l) := rfl
    rw [e, h1, h2] at h
    cases h
    simp [ihl h2]
def plB (P : Program) (t : TypeId) (is : List Nat) : Option (List (Nat × Nat) × List Value) := match ty P t with
  | some i => (match i.zero, i.desc with
    | some (.agg cs), .struct fs => (match plc (fieldAtP P fs) is with | some l => bif ground (.agg cs) && (fs.toList.all fun f => (ty P f.type).isSome) then some (l, cs.toList) else none | none => none)
    | some (.agg cs), .array _ e => (match ty P e with
      | some j => (match plc (fun k => some (k * j.size, j.size)) is with | some l => bif ground (.agg cs) then some (l, cs.toList) else none | none => none)
      | none => none)
    | _, _ => none)
  | none => none
def buildO (pl : Option (List (Nat × Nat) × List Value)) (us : Option (List Value)) : Out := match pl, us with
  | some (l, z), some us => outP (match fillL (l.zip us) z with | some cs => some (.agg cs.toArray) | none => none)
  | _, _ => .bad
theorem oBuild_run {l : List (Nat × Nat)} {z : List Value} {xs : List Operand} {fs : List OpV} (hf : dXs nv xs = .mk fs) (hl : l.length = xs.length) : outP (oBuild z (l.zip fs) vs []) = buildO (some (l, z)) (opVs nv vs xs) := by
  unfold oBuild buildO
  rw [evP_zip l fs (by rw [hl, dXs_len hf]), opVs_eq hf]
  cases opVs nv vs xs <;> rfl
theorem o_build (t : TypeId) (ps : Array (Nat × Operand)) : rOp P nv ih (.build t ps) vs h nx = buildO (plB P t (ps.toList.map Prod.fst)) (opVs nv vs (ps.toList.map Prod.snd)) := by
  unfold rOp
  show runO (dBuild P nv t ps) ih vs [] h nx = _
  obtain ⟨fs', hfs⟩ := dXs_some nv (ps.toList.map Prod.snd)
  unfold dBuild plB
  cases ty P t with
  | none => rfl
  | some i =>
    simp only
    cases i.zero with
    | none => cases i.desc <;> rfl
    | some z =>
      cases i.desc with
      | struct fs =>
        simp only
        rw [places_eq _ _ _ hfs]
        cases z with
        | agg cs =>
          cases hp : plc (fieldAtP P fs) (ps.toList.map Prod.fst) with
          | none => simp only [hp]; rfl
          | some l =>
            simp only [hp]
            cases (ground (.agg cs) && (fs.toList.all fun f => (ty P f.type).isSome)) with
            | false => rfl
            | true => exact oBuild_run hfs (by rw [plc_len hp]; simp)
        | _ => cases plc (fieldAtP P fs) (ps.toList.map Prod.fst) <;> rfl
      | array n e =>
        simp only
        cases he : ty P e with
        | none => cases z <;> first | rfl | (simp only [he]; rfl)
        | some j =>
          simp only
          rw [places_eq _ _ _ hfs]
          cases z with
          | agg cs =>
            cases hp : plc (fun k => some (k * j.size, j.size)) (ps.toList.map Prod.fst) with
            | none => simp only [he, hp]; rfl
            | some l =>
              simp only [he, hp]
              cases ground (.agg cs) with
              | false => rfl
              | true => exact oBuild_run hfs (by rw [plc_len hp]; simp)
          | _ => cases plc (fun k => some (k * j.size, j.size)) (ps.toList.map Prod.fst) <;> first | rfl | (simp only [he]; rfl)
      | _ => cases z <;> rfl
def plS (P : Program) (t : TypeId) (n : Nat) (is : List Nat) : Option (List (Nat × Nat) × List Value) := match ty P t with
  | some i => (match i.desc with
    | .slice e => (match ty P e with
      | some j => (match j.zero, plc (fun k => some (k * j.size, j.size)) is with
        | some z, some l => (match cellsL z with | some cs => bif Nat.ble (n * j.size) 16777216 && Nat.beq cs.length j.size && Nat.blt 0 j.size && ground z then some (l, repL n cs []) else none | none => none)
        | _, _ => none)
      | none => none)
    | _ => none)
  | none => none
def buildSO (h : Hp) (nx n : Nat) (pl : Option (List (Nat × Nat) × List Value)) (us : Option (List Value)) : Out := match pl, us with
  | some (l, z), some us => (match fillL (l.zip us) z with | some cs => .new (.slice (some ⟨nx, 0, none⟩) n n) (hset h nx (.cells cs none)) (nx + 1) | none => .bad)
  | _, _ => .bad
theorem o_buildSlice (t : TypeId) (n : Nat) (ps : Array (Nat × Operand)) : rOp P nv ih (.buildSlice t n ps) vs h nx = buildSO h nx n (plS P t n (ps.toList.map Prod.fst)) (opVs nv vs (ps.toList.map Prod.snd)) := by
  unfold rOp
  show runO (dBuildSlice P nv t n ps) ih vs [] h nx = _
  obtain ⟨fs', hfs⟩ := dXs_some nv (ps.toList.map Prod.snd)
  unfold dBuildSlice plS
  cases ty P t with
  | none => rfl
  | some i =>
    simp only
    cases i.desc with
    | slice e =>
      simp only
      cases ty P e with
      | none => rfl
      | some j =>
        simp only
        rw [places_eq _ _ _ hfs]
        cases j.zero with
        | none => cases plc (fun k => some (k * j.size, j.size)) (ps.toList.map Prod.fst) <;> rfl
        | some z =>
          cases hp : plc (fun k => some (k * j.size, j.size)) (ps.toList.map Prod.fst) with
          | none => simp only [hp]; rfl
          | some l =>
            simp only [hp]
            cases cellsL z with
            | none => rfl
            | some cs =>
              simp only
              cases (Nat.ble (n * j.size) 16777216 && Nat.beq cs.length j.size && Nat.blt 0 j.size && ground z) with
              | false => rfl
              | true =>
                show oBuildSlice (repL n cs []) n (l.zip fs') ih vs [] h nx = buildSO h nx n (some (l, repL n cs [])) (opVs nv vs (ps.toList.map Prod.snd))
                unfold oBuildSlice buildSO
                rw [evP_zip l fs' (by rw [plc_len hp, dXs_len hfs]; simp), opVs_eq hfs]
                cases opVs nv vs (ps.toList.map Prod.snd) with
                | none => rfl
                | some us =>
                  simp only
                  cases fillL (l.zip us) (repL n cs []) with
                  | none => rfl
                  | some c => exact newSlice_eq c n n
    | _ => rfl
theorem fill_nil (cs : List Value) : fillL [] cs = some cs := rfl
theorem fill_cons (q : Nat × Nat) (v : Value) (l : List ((Nat × Nat) × Value)) (cs : List Value) : fillL ((q, v) :: l) cs = match cellsL v with
    | some u => bif Nat.beq u.length q.2 then (match splice cs q.1 u with | some cs' => fillL l cs' | none => none) else none
    | none => none := rfl
theorem buildO_some (l : List (Nat × Nat)) (z us : List Value) : buildO (some (l, z)) (some us) = outP (match fillL (l.zip us) z with | some cs => some (.agg cs.toArray) | none => none) := rfl
theorem buildSO_some (n : Nat) (l : List (Nat × Nat)) (z us : List Value) : buildSO h nx n (some (l, z)) (some us) = match fillL (l.zip us) z with | some cs => .new (.slice (some ⟨nx, 0, none⟩) n n) (hset h nx (.cells cs none)) (nx + 1) | none => .bad := rfl
end Lm
end Go
namespace Go
namespace Lm
variable {P : Program}
theorem bin_slow (op : BinOp) (t : TypeId) (x y : Operand) (k k' : IntKind) (a b : Int) (ho : fastOp op = false) (he : (op matches .eql | .neq) = false) : binV P op t x y (.int k a) (.int k' b) = gr (pureOf P (binOp op t (.int k a) (.int k' b))) := by
  have e : eqGuard op t x y (.int k a) (.int k' b) = pure () := by
    unfold eqGuard
    cases op <;> first | rfl | cases he
  unfold binV
  simp only [ho, Bool.false_and, cond_false]
  unfold ground2
  rw [e]
  rfl
theorem bin_quo (t : TypeId) (x y : Operand) (a b : Int) (hb : b ≠ 0) : binV P .quo t x y (.int .i64 a) (.int .i64 b) = some (.int .i64 (IntKind.wrap .i64 (a.tdiv b))) := by
  rw [bin_slow .quo t x y _ _ a b rfl rfl]
  show gr (pureOf P (Op.intDiv .quo .i64 a b)) = _
  unfold Op.intDiv
  rw [if_neg hb]
  rfl
theorem bin_rem (t : TypeId) (x y : Operand) (a b : Int) (hb : b ≠ 0) : binV P .rem t x y (.int .i64 a) (.int .i64 b) = some (.int .i64 (a.tmod b)) := by
  rw [bin_slow .rem t x y _ _ a b rfl rfl]
  show gr (pureOf P (Op.intDiv .rem .i64 a b)) = _
  unfold Op.intDiv
  rw [if_neg hb]
  rfl
end Lm
end Go
namespace Go
namespace Lm
variable {P : Program} {nv n : Nat} {ih : Rec} {z : Z} {vs : Vs} {h : Hp} {nx : Nat}
def lastOk (b : List Nat) (k : Nat) : Bool := Nat.beq (b.getD k 0) (2 ^ k - 1)
variable (P nv ih) in
def qOps (b : List Nat) : Nat → List SOp → Z → Vs → Hp → Nat → RO
  | _, [], z, vs, h, nx => .st z vs h nx
  | k, o :: l, z, vs, h, nx => (match sOne P nv ih o z vs h nx with
    | .st z' vs' h' nx' => (match (sRec P nv ih o vs h nx).M with
      | [] => qOps b (k + 1) l z' vs' h' nx'
      | _ => (match l with | [] => bif lastOk b k then .st z' vs' h' nx' else .no | _ => .no))
    | .no => .no)
theorem apart_quiet {b : List Nat} {rs : List Rec1} (hq : ∀ r, r ∈ rs → r.M = []) : apartB b rs = true := by
  unfold apartB
  rw [List.all_eq_true]
  rintro ⟨r, k⟩ hr
  have := hq r (List.fst_mem_of_mem_zipIdx hr)
  simp only [this]
theorem apart_last {b : List Nat} {rs : List Rec1} {rc : Rec1} (hq : ∀ r, r ∈ rs → r.M = []) (hl : lastOk b rs.length = true) : apartB b (rs ++ [rc]) = true := by
  unfold apartB
  rw [List.all_eq_true]
  rintro ⟨r, k⟩ hr
  by_cases hk : k < rs.length
  · have h1 := List.mem_zipIdx hr
    have : r ∈ rs := by
      have h2 := h1.2.2
      simp only [Nat.zero_add, Nat.sub_zero] at h2
      rw [h2, List.getElem_append_left hk]
      exact List.getElem_mem hk
    simp only [hq r this]
  · have hk2 : k = rs.length := by
      have h1 := List.mem_zipIdx hr
      have := h1.2.1
      simp at this
      omega
    subst hk2
    dsimp only
    split
    · rfl
    · rw [List.all_eq_true]
      rintro ⟨q, j⟩ hj
      have h1 := List.mem_zipIdx hj
      have hjl : j ≤ rs.length := by have := h1.2.1; simp at this; omega
      by_cases he : j = rs.length
      · subst he; simp
      · have hlt : j < rs.length := by omega
        have hb : b.getD rs.length 0 = 2 ^ rs.length - 1 := Nat.eq_of_beq_eq_true hl
        have ht : (b.getD (max j rs.length) 0).testBit (min j rs.length) = true := by
          rw [Nat.max_eq_right (by omega), Nat.min_eq_left (by omega), hb, Nat.testBit_two_pow_sub_one]
          simpa using hlt
        dsimp only
        rw [ht]
        simp
theorem qOps_ok {b : List Nat} : ∀ (l : List SOp) (rs : List Rec1) (z : Z) (vs : Vs) (h : Hp) (nx : Nat), (∀ r, r ∈ rs → r.M = []) → ∀ {z' vs' h' nx'}, qOps P nv ih b rs.length l z vs h nx = .st z' vs' h' nx' → sOpsD P nv ih b l rs z vs h nx = .st z' vs' h' nx' := by
  intro l
  induction l with
  | nil =>
    intro rs z vs h nx hq z' vs' h' nx' e
    show (bif apartB b rs.reverse then RO.st z vs h nx else .no) = _
    rw [apart_quiet (fun r hr => hq r (List.mem_reverse.1 hr))]
    exact e
  | cons o l ihl =>
    intro rs z vs h nx hq z' vs' h' nx' e
    rw [qOps] at e
    show (match sOne P nv ih o z vs h nx with
      | .st z' vs' h' nx' => sOpsD P nv ih b l (sRec P nv ih o vs h nx :: rs) z' vs' h' nx'
      | .no => RO.no) = _
    cases hs : sOne P nv ih o z vs h nx with
    | no => rw [hs] at e; exact e
    | st z1 vs1 h1 n1 =>
      rw [hs] at e
      simp only at e ⊢
      cases hM : (sRec P nv ih o vs h nx).M with
      | nil =>
        rw [hM] at e
        refine ihl (sRec P nv ih o vs h nx :: rs) z1 vs1 h1 n1 (fun r hr => ?_) e
        rcases List.mem_cons.1 hr with rfl | hr
        · exact hM
        · exact hq r hr
      | cons x M =>
        rw [hM] at e
        cases l with
        | cons _ _ => cases e
        | nil =>
          simp only at e
          cases hl : lastOk b rs.length with
          | false => rw [hl] at e; cases e
          | true =>
            rw [hl] at e
            show (bif apartB b (sRec P nv ih o vs h nx :: rs).reverse then RO.st z1 vs1 h1 n1 else .no) = _
            rw [List.reverse_cons, apart_last (fun r hr => hq r (List.mem_reverse.1 hr)) (by rw [List.length_reverse]; exact hl)]
            exact e
variable (P nv n ih) in
def fallD (l : List SOp) (b : List Nat) (z : Z) (vs : Vs) (h : Hp) (nx : Nat) : R := roR (sOpsD P nv ih b l [] z vs h nx)
def orQ (q : RO) (r : R) : R := match q with | .st z vs h nx => .nor z vs h nx | .no => r
theorem s_regQ (l : List SOp) (b : List Nat) : sC P nv n ih (.regD l b) z vs h nx = orQ (qOps P nv ih b 0 l z vs h nx) (fallD P nv ih l b z vs h nx) := by
  show roR (sOpsD P nv ih b l [] z vs h nx) = _
  cases hq : qOps P nv ih b 0 l z vs h nx with
  | no => rfl
  | st z' vs' h' nx' => rw [qOps_ok l [] z vs h nx (fun r hr => by cases hr) hq]; rfl
theorem or_st (r : R) : orQ (.st z vs h nx) r = .nor z vs h nx := rfl
theorem q_nil (b : List Nat) (k : Nat) : qOps P nv ih b k [] z vs h nx = .st z vs h nx := rfl
variable (P nv ih) in
def contQ (b : List Nat) (k : Nat) (l : List SOp) (d : Option Nat) (z : Z) (vs : Vs) (h : Hp) (nx : Nat) (o : Out) : RO := match o with
  | .bad => .no
  | .pur v => qOps P nv ih b (k + 1) l z (put d v vs) h nx
  | .rd v _ => qOps P nv ih b (k + 1) l z (put d v vs) h nx
  | .new v h nx => qOps P nv ih b (k + 1) l z (put d v vs) h nx
  | .wr h r => (match l with | [] => bif lastOk b k then .st (logZ z [r]) (put d undef vs) h nx else .no | _ => .no)
  | .gen v h nx [] => qOps P nv ih b (k + 1) l z (put d v vs) h nx
  | .gen v h nx (x :: M) => (match l with | [] => bif lastOk b k then .st (logZ z (x :: M)) (put d v vs) h nx else .no | _ => .no)
theorem q_plain (b : List Nat) (k : Nat) (d : Option Nat) (op : Op) (l : List SOp) : qOps P nv ih b k (⟨d, op, none⟩ :: l) z vs h nx = contQ P nv ih b k l d z vs h nx (rOp P nv ih op vs h nx) := by
  show (match rOut d z vs h nx (rOp P nv ih op vs h nx) with
    | .st z' vs' h' nx' => (match (recOf (altO (dOp P nv op) vs [] h) h (rOp P nv ih op vs h nx)).M with
      | [] => qOps P nv ih b (k + 1) l z' vs' h' nx'
      | _ => (match l with | [] => bif lastOk b k then .st z' vs' h' nx' else .no | _ => .no))
    | .no => RO.no) = _
  unfold contQ
  cases rOp P nv ih op vs h nx with
  | gen v h' n' M => cases M <;> rfl
  | _ => rfl
variable (P nv ih) in
def guardQ (b : List Nat) (k : Nat) (l : List SOp) (d : Option Nat) (op : Op) (y : Bool) (z : Z) (vs : Vs) (h : Hp) (nx : Nat) (v : Option Value) : RO := match v with
  | some (.bool x) => bif x == y then contQ P nv ih b k l d z vs h nx (rOp P nv ih op vs h nx) else qOps P nv ih b (k + 1) l z (put d undef vs) h nx
  | some _ => qOps P nv ih b (k + 1) l z (put d undef vs) h nx
  | none => .no
theorem q_guard (b : List Nat) (k : Nat) (d : Option Nat) (op : Op) (t : Nat) (y : Bool) (l : List SOp) : qOps P nv ih b k (⟨d, op, some (t, y)⟩ :: l) z vs h nx = guardQ P nv ih b k l d op y z vs h nx (opV nv (.tmp t) vs) := by
  show (match sOne P nv ih ⟨d, op, some (t, y)⟩ z vs h nx with
    | .st z' vs' h' nx' => (match (sRec P nv ih ⟨d, op, some (t, y)⟩ vs h nx).M with
      | [] => qOps P nv ih b (k + 1) l z' vs' h' nx'
      | _ => (match l with | [] => bif lastOk b k then .st z' vs' h' nx' else .no | _ => .no))
    | .no => RO.no) = _
  unfold guardQ sRec sOne
  simp only
  cases hv : opV nv (.tmp t) vs with
  | none => rfl
  | some v =>
    cases v with
    | bool x =>
      simp only
      cases hxy : x == y with
      | true =>
        simp only [cond_true]
        exact q_plain b k d op l
      | false => rfl
    | _ => rfl
theorem gq_tt (b : List Nat) (k : Nat) (l : List SOp) (d : Option Nat) (op : Op) : guardQ P nv ih b k l d op true z vs h nx (some (.bool true)) = contQ P nv ih b k l d z vs h nx (rOp P nv ih op vs h nx) := rfl
theorem gq_ff (b : List Nat) (k : Nat) (l : List SOp) (d : Option Nat) (op : Op) : guardQ P nv ih b k l d op false z vs h nx (some (.bool false)) = contQ P nv ih b k l d z vs h nx (rOp P nv ih op vs h nx) := rfl
theorem gq_tf (b : List Nat) (k : Nat) (l : List SOp) (d : Option Nat) (op : Op) : guardQ P nv ih b k l d op true z vs h nx (some (.bool false)) = qOps P nv ih b (k + 1) l z (put d undef vs) h nx := rfl
theorem gq_ft (b : List Nat) (k : Nat) (l : List SOp) (d : Option Nat) (op : Op) : guardQ P nv ih b k l d op false z vs h nx (some (.bool true)) = qOps P nv ih b (k + 1) l z (put d undef vs) h nx := rfl
theorem cq_pur (b : List Nat) (k : Nat) (l : List SOp) (d : Option Nat) (v : Value) : contQ P nv ih b k l d z vs h nx (.pur v) = qOps P nv ih b (k + 1) l z (put d v vs) h nx := rfl
theorem cq_rd (b : List Nat) (k : Nat) (l : List SOp) (d : Option Nat) (v : Value) (r : Nat) : contQ P nv ih b k l d z vs h nx (.rd v r) = qOps P nv ih b (k + 1) l z (put d v vs) h nx := rfl
theorem cq_new (b : List Nat) (k : Nat) (l : List SOp) (d : Option Nat) (v : Value) (h' : Hp) (n' : Nat) : contQ P nv ih b k l d z vs h nx (.new v h' n') = qOps P nv ih b (k + 1) l z (put d v vs) h' n' := rfl
theorem cq_gen (b : List Nat) (k : Nat) (l : List SOp) (d : Option Nat) (v : Value) (h' : Hp) (n' : Nat) : contQ P nv ih b k l d z vs h nx (.gen v h' n' []) = qOps P nv ih b (k + 1) l z (put d v vs) h' n' := rfl
theorem cq_wr (b : List Nat) (k : Nat) (d : Option Nat) (h' : Hp) (r : Nat) : contQ P nv ih b k [] d z vs h nx (.wr h' r) = bif lastOk b k then .st (logZ z [r]) (put d undef vs) h' nx else .no := rfl
end Lm
end Go
namespace Go
namespace Lm
variable {P : Program} {nvs : List (Nat × Nat)}
def oldV (nx : Nat) (v : Value) : Prop := match v with
  | .slice (some ⟨r, _, none⟩) _ _ => r < nx
  | v => ground v = true
theorem cmp1_old {h1 : Hp} {nx : Nat} {v : Value} (hv : oldV nx v) (s : CS) : cmp1 h1 nx v s = some (v, s) := by
  unfold oldV at hv
  unfold cmp1
  split at hv
  · rename_i r o n c
    simp only [blt_eq, hv, decide_true, cond_true]
  · rename_i hne
    split
    · rename_i r o n c
      exact absurd rfl (hne r o n c)
    · rw [hv]; rfl
theorem cmpL_old {h1 : Hp} {nx : Nat} : ∀ {l : List Value}, (∀ v, v ∈ l → oldV nx v) → ∀ (s : CS), cmpL (cmp1 h1 nx) l s = some (l, s) := by
  intro l
  induction l with
  | nil => intro _ s; rfl
  | cons v l ih =>
    intro hl s
    unfold cmpL
    rw [cmp1_old (hl v List.mem_cons_self)]
    simp only
    rw [ih fun x hx => hl x (List.mem_cons_of_mem _ hx)]
theorem cmp3_agg {h1 : Hp} {nx : Nat} {l : List Value} (hl : ∀ v, v ∈ l → oldV nx v) (s : CS) : cmp3 h1 nx (.agg l.toArray) s = some (.agg l.toArray, s) := by
  show (match cmpL (cmp1 h1 nx) l.toArray.toList s with | some (l, s) => some (Value.agg l.toArray, s) | none => none) = _
  rw [List.toList_toArray, cmpL_old hl]
theorem callF_same {f : FuncId} {us : List Value} {ih : Rec} {h : Hp} {nx : Nat} {v : Value} {h1 : Hp} {n1 : Nat} (hc : cmp3 h1 nx v ⟨h, nx, []⟩ = some (v, ⟨h, nx, []⟩)) (hv : ih (.call f us) h nx = .val v h1 n1 []) : callF f us ih h nx = .gen v h nx [] := by
  unfold callF
  rw [hv]
  show (Bool.rec (match cmp3 h1 nx v ⟨h, nx, []⟩ with | some (u, s) => Out.gen u s.h s.nx [] | none => Out.gen v h1 n1 []) (Out.gen v h nx []) (ground v) : Out) = _
  rw [hc]
  cases ground v <;> rfl
theorem callF_new {f : FuncId} {us : List Value} {ih : Rec} {h : Hp} {nx : Nat} {v u : Value} {h1 : Hp} {n1 : Nat} {s : CS} (hg : ground v = false) (hc : cmp3 h1 nx v ⟨h, nx, []⟩ = some (u, s)) (hv : ih (.call f us) h nx = .val v h1 n1 []) : callF f us ih h nx = .gen u s.h s.nx [] := by
  unfold callF
  rw [hv]
  show (Bool.rec (match cmp3 h1 nx v ⟨h, nx, []⟩ with | some (u, s) => Out.gen u s.h s.nx [] | none => Out.gen v h1 n1 []) (Out.gen v h nx []) (ground v) : Out) = _
  rw [hg, hc]
theorem cmp3_slice {h1 h : Hp} {nx r o n c : Nat} {cs : List Value} {b : Option Nat} (hr : nx ≤ r) (hc : hget h1 r = some (.cells cs b)) (hf : groundL flat cs = true) :
    cmp3 h1 nx (.slice (some ⟨r, o, none⟩) n c) ⟨h, nx, []⟩ = some (.slice (some ⟨nx, o, none⟩) n c, ⟨hset h nx (.cells cs b), nx + 1, [r]⟩) := by
  show cmp1 h1 nx (.slice (some ⟨r, o, none⟩) n c) ⟨h, nx, []⟩ = _
  unfold cmp1
  have h1' : Nat.blt r nx = false := by rw [blt_eq]; simp; omega
  simp only [h1', cond_false]
  show (bif nomem r [] then _ else none) = _
  have h2 : nomem r [] = true := rfl
  rw [h2]
  simp only [cond_true, hc, hf]
theorem Fun.same {f : FuncId} {n : Nat} {rs : List ResultVar} {s : SC} (F : Fun P nvs f n rs s) {S : Kn} {m : Nat} {us : List Value} {h : Hp} {nx : Nat} {v : Value} (hn : S f us h nx = none) (hm : 1 ≤ m) (hg : ∀ h1, cmp3 h1 nx v ⟨h, nx, []⟩ = some (v, ⟨h, nx, []⟩)) (ha : us.length ≤ n)
    (hx : ∃ h1 n1, doneR P n rs (sC P n n (execL P nvs S (m - 1)) s ⟨nx, none, [], []⟩ (enum us 0) h nx) = .val v h1 n1 []) : callF f us (execL P nvs S m) h nx = .gen v h nx [] := by
  obtain ⟨k, rfl⟩ : ∃ k, m = k + 1 := ⟨m - 1, by omega⟩
  obtain ⟨h1, n1, hx⟩ := hx
  rw [Nat.add_sub_cancel] at hx
  exact callF_same (hg h1) ((execL_call hn).trans ((F.run _ us h nx ha).trans hx))
theorem Fun.fresh {f : FuncId} {n : Nat} {rs : List ResultVar} {s : SC} (F : Fun P nvs f n rs s) {S : Kn} {m : Nat} {us : List Value} {h : Hp} {nx k c : Nat} {cs : List Value} {b : Option Nat} (hn : S f us h nx = none) (hm : 1 ≤ m) (ha : us.length ≤ n) (hf : groundL flat cs = true)
    (hx : ∃ h1 n1 r, nx ≤ r ∧ hget h1 r = some (.cells cs b) ∧ doneR P n rs (sC P n n (execL P nvs S (m - 1)) s ⟨nx, none, [], []⟩ (enum us 0) h nx) = .val (.slice (some ⟨r, 0, none⟩) k c) h1 n1 []) :
    callF f us (execL P nvs S m) h nx = .gen (.slice (some ⟨nx, 0, none⟩) k c) (hset h nx (.cells cs b)) (nx + 1) [] := by
  obtain ⟨q, rfl⟩ : ∃ k, m = k + 1 := ⟨m - 1, by omega⟩
  obtain ⟨h1, n1, r, hr, hg, hx⟩ := hx
  rw [Nat.add_sub_cancel] at hx
  exact callF_new rfl (cmp3_slice hr hg hf) ((execL_call hn).trans ((F.run _ us h nx ha).trans hx))
variable {nv : Nat} {ih : Rec} {vs : Vs} {h : Hp} {nx : Nat}
def zeroE (P : Program) (t : TypeId) : Option (List Value) := match ty P t with
  | some i => (match i.desc with
    | .slice e => (match ty P e with
      | some j => (match j.zero with
        | some z => (match cellsL z with | some cs => bif Nat.ble j.bytes 65536 && Nat.beq cs.length j.size && Nat.blt 0 j.size && ground z then some cs else none | none => none)
        | none => none)
      | none => none)
    | _ => none)
  | none => none
def makeO (h : Hp) (nx : Nat) (z : Option (List Value)) (x y : Option Value) : Out := match z, x, y with
  | some z, some x, some y => (match natOf x, natOf y with
    | some n, some k => bif Nat.ble n k && Nat.ble k 65536 then .new (.slice (some ⟨nx, 0, none⟩) n k) (hset h nx (.cells (repL k z []) none)) (nx + 1) else .bad
    | _, _ => .bad)
  | _, _, _ => .bad
theorem o_makeSlice (t : TypeId) (x y : Operand) : rOp P nv ih (.makeSlice t x y) vs h nx = makeO h nx (zeroE P t) (opV nv x vs) (opV nv y vs) := by
  unfold rOp
  show runO (dMakeSlice P nv t x y) ih vs [] h nx = _
  unfold dMakeSlice zeroE ge2 opV
  cases ty P t with
  | none => rfl
  | some i =>
    simp only
    cases i.desc with
    | slice e =>
      simp only
      cases ty P e with
      | none => rfl
      | some j =>
        simp only
        cases j.zero with
        | none => rfl
        | some z =>
          simp only
          cases cellsL z with
          | none => rfl
          | some cs =>
            simp only
            cases (Nat.ble j.bytes 65536 && Nat.beq cs.length j.size && Nat.blt 0 j.size && ground z) with
            | false => rfl
            | true =>
              simp only [cond_true]
              cases dX nv x with
              | mk f => cases dX nv y with
                | mk g =>
                  show oMakeSlice cs f g ih vs [] h nx = makeO h nx (some cs) (f vs []) (g vs [])
                  unfold oMakeSlice makeO
                  cases f vs [] with
                  | none => rfl
                  | some u =>
                    cases g vs [] with
                    | none => rfl
                    | some v =>
                      simp only
                      cases natOf u with
                      | none => rfl
                      | some a =>
                        cases natOf v with
                        | none => rfl
                        | some c =>
                          simp only
                          cases (Nat.ble a c && Nat.ble c 65536) with
                          | false => rfl
                          | true => simp only [cond_true, forceN_eq]; exact newSlice_eq _ a c
    | _ => rfl
end Lm
end Go
namespace Go
namespace Lm
variable {P : Program} {nv : Nat} {ih : Rec} {vs : Vs} {h : Hp} {nx : Nat}
def appF (P : Program) (t u : TypeId) : Option Nat := match ty P t, ty P u with
  | some i, some k => (match i.desc, k.desc with
    | .slice e, .slice _ => (match ty P e with | some j => (match j.zero with | some z => bif Nat.ble 1 j.size && Nat.beq z.cells.size j.size && Nat.ble j.bytes 65536 && Nat.ble 1 j.bytes then some j.size else none | none => none) | none => none)
    | _, _ => none)
  | _, _ => none
def appO (h : Hp) (nx : Nat) (sz : Option Nat) (s x : Option Value) : Out := match sz, s, x with
  | some size, some s, some x => (match appended h size x with
    | some (n, new) => Nat.rec (sameSl h nx s) (fun _ _ => Bool.rec .bad (appTo h nx size s n new) (room nx)) n
    | none => .bad)
  | _, _, _ => .bad
theorem o_append (s x : Operand) (t u : TypeId) : rOp P nv ih (.call { callee := .builtin .append, args := #[s, x], argTypes := #[t, u] }) vs h nx = appO h nx (appF P t u) (opV nv s vs) (opV nv x vs) := by
  unfold rOp
  show runO (dCall P nv { callee := .builtin .append, args := #[s, x], argTypes := #[t, u] }) ih vs [] h nx = _
  obtain ⟨f, hf⟩ := dX_some nv s
  obtain ⟨g, hg⟩ := dX_some nv x
  have hm : dXs nv [s, x] = .mk [f, g] := by
    have e : dXs nv [s, x] = match dX nv s, (match dX nv x, dXs nv [] with | .mk f, .mk l => XL.mk (f :: l)) with | .mk f, .mk l => XL.mk (f :: l) := rfl
    rw [e, hf, hg]; rfl
  unfold dCall
  simp only [hm]
  rw [← opV_of hf, ← opV_of hg]
  unfold dBuiltin appF
  simp only
  cases ty P t with
  | none => cases ty P u <;> rfl
  | some i =>
    cases ty P u with
    | none => rfl
    | some k =>
      simp only
      cases i.desc with
      | slice e =>
        cases k.desc with
        | slice e' =>
          simp only
          cases ty P e with
          | none => rfl
          | some j =>
            simp only
            cases j.zero with
            | none => rfl
            | some z =>
              simp only
              cases (Nat.ble 1 j.size && Nat.beq z.cells.size j.size && Nat.ble j.bytes 65536 && Nat.ble 1 j.bytes) with
              | false => rfl
              | true =>
                show oAppend j.size f g ih vs [] h nx = appO h nx (some j.size) (f vs []) (g vs [])
                unfold oAppend appO
                cases f vs [] with
                | none => rfl
                | some a => cases g vs [] <;> rfl
        | _ => rfl
      | _ => cases k.desc <;> rfl
theorem app_in {r o len cap size : Nat} {cs cs' new : List Value} {b : Option Nat} {x : Value} (hr : hget h r = some (.cells cs b)) (hx : appended h size x = some (1, new)) (hc : cap < HALF) (hfit : len + 1 ≤ cap) (hsm : len + 1 ≤ 65536) (hsp : splice cs (o + len * size) new = some cs') :
    appO h nx (some size) (some (.slice (some ⟨r, o, none⟩) len cap)) (some x) = .gen (.slice (some ⟨r, o, none⟩) (len + 1) cap) (hset h r (.cells cs' b)) nx [r] := by
  unfold appO
  simp only [hx, room_true]
  show appTo h nx size (.slice (some ⟨r, o, none⟩) len cap) 1 new = _
  unfold appTo
  simp only [hr, forceN_eq]
  unfold small
  have e1 : Nat.ble (Nat.add len 1) 65536 = true := by rw [ble_eq']; simpa using hsm
  have e2 : Nat.blt cap HALF = true := by rw [blt_eq]; simpa using hc
  have e3 : Nat.blt cap (Nat.add len 1) = false := by rw [blt_eq]; simpa using hfit
  rw [e1, e2, e3]
  simp only [cond_true, cond_false]
  have e4 : splice cs (Nat.add o (Nat.mul len size)) new = some cs' := hsp
  rw [e4]
theorem appended_row {size r : Nat} {cs : List Value} (hc : rowL h r = some cs) (hl : cs.length = size) : appended h size (.slice (some ⟨r, 0, none⟩) 1 1) = some (1, cs) := by
  unfold appended
  simp only [hc]
  have e : Nat.mul 1 size = size := Nat.one_mul size
  rw [e, dropL_eq, List.drop_zero]
  have : ∀ (l : List Value), takeL l.length l = some l := fun l => by
    induction l with
    | nil => rfl
    | cons y l ih => rw [List.length_cons, takeL_cons, ih]
  rw [← hl, this cs]
def slice3O (size : Nat) (x y w : Option Value) : Option Value := match x, y, w with
  | some (.slice (some ⟨r, o, none⟩) n c), some hv, some mv => sliceOf size r o n c (Bool.rec n c (Nat.blt c HALF)) none (some hv) (some mv)
  | some (.slice none 0 0), some hv, some mv => (match bound 0 none 0, bound 0 (some hv) 0, bound 0 (some mv) 0 with | some _, some _, some _ => some (.slice none 0 0) | _, _, _ => none)
  | _, _, _ => none
theorem o_slice3 (t : TypeId) (x y w : Operand) : rOp P nv ih (.slice t x none (some y) (some w)) vs h nx = match elemF P t with
    | some (none, _, size) => outP (slice3O size (opV nv x vs) (opV nv y vs) (opV nv w vs))
    | _ => rOp P nv ih (.slice t x none (some y) (some w)) vs h nx := by
  cases he : elemF P t with
  | none => rfl
  | some q =>
    obtain ⟨n, agg, size⟩ := q
    cases n with
    | some n => rfl
    | none =>
      simp only
      unfold rOp
      show runO (dSlice P nv t x none (some y) (some w)) ih vs [] h nx = _
      unfold elemF at he
      unfold dSlice XO
      obtain ⟨f, hf⟩ := dX_some nv y
      obtain ⟨g, hg⟩ := dX_some nv w
      obtain ⟨k, hk⟩ := dX_some nv x
      simp only [hf, hg]
      cases hi : ty P t with
      | none => rw [hi] at he; cases he
      | some i =>
        rw [hi] at he
        simp only at he ⊢
        cases hd : i.desc with
        | slice e =>
          rw [hd] at he
          simp only at he ⊢
          cases hj : ty P e with
          | none => rw [hj] at he; cases he
          | some j =>
            rw [hj] at he
            cases he
            simp only
            unfold pv1
            rw [hk]
            show outP (oSliceSl j.size k none (some f) (some g) vs []) = _
            rw [← opV_of hk, ← opV_of hf, ← opV_of hg]
            unfold oSliceSl evO slice3O
            dsimp only
            generalize k vs [] = u
            generalize f vs [] = v2
            generalize g vs [] = v3
            cases u with
            | none => cases v2 <;> cases v3 <;> rfl
            | some u =>
              cases u with
              | slice a n c =>
                cases a with
                | none => cases n <;> cases c <;> cases v2 <;> cases v3 <;> rfl
                | some a => obtain ⟨r, o, sp⟩ := a; cases sp <;> cases v2 <;> cases v3 <;> rfl
              | _ => cases v2 <;> cases v3 <;> rfl
        | array n e =>
          rw [hd] at he
          simp only at he
          cases hj : ty P e with
          | none => rw [hj] at he; cases he
          | some j => rw [hj] at he; cases he
        | _ => rw [hd] at he; cases he
end Lm
end Go
