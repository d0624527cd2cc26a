/- How the arguments of the laws read: racks, lists of lines, lists of numbers. -/
import Derived.Test.YtpcajmkmmkmekaaGreatDoorChecked
import Derived.Test.YtpcajmkmmkmekaaGreatDoorGa
import Derived.Deep.Slices
import Derived.Lib.SmallJoins
import Derived.SizedLaws
import Derived.ChangeArms
import Derived.OpenShut
import Derived.Test.YtpcajmkmmkmekaaGreatDoorCards
import Derived.Test.YtpcajmkmmkmekaaGreatDoorTie
import Derived.WalkKit
import Derived.ProofKit
import Derived.ReadAgain
import Derived.Deep.DeepHandedRow
import Derived.Lib.LaidTab
set_option linter.unusedVariables false
set_option linter.unusedSimpArgs false
namespace Go.Proofs.YtpcajmkmmkmekaaGreatDoor
open Go Go.RowKit Go.Deep Go.ChangeShapes Go.WideShapes
set_option maxHeartbeats 1000000
theorem weightsAll_mem {H : Type} {P : Program} {e : TypeId} {l : List (DataW H)} {d : DataW H} (h : d ∈ l) : ∀ n ∈ d.weights P e, n ∈ DataW.weightsAll P e l := by
  induction l with
  | nil => cases h
  | cons x r ih =>
    intro n hn
    simp only [DataW.weightsAll, List.mem_append]
    rcases List.mem_cons.1 h with rfl | h1
    · exact .inl hn
    · exact .inr (ih h1 n hn)
abbrev Fair {H : Type} (P : Program) (t : TypeId) (d : DataW H) : Prop := ∀ n ∈ d.weights P t, n ≤ reachBytes
theorem cell_none {w : World} {a : Addr} {v : Value} (h : w.cell? a = some v) : a.spot = none ∧ a.block < w.heap.size := by
  unfold World.cell? at h
  split at h
  · rename_i ho
    refine ⟨?_, (Array.getElem?_eq_some_iff.1 ho).1⟩
    split at h
    · cases h
    · rename_i hs; simpa using hs
  · cases h
section
variable {H : Type} {enc : TypeId × Value → H} {P : Program} {w : World}
theorem open_rows {α : Type} [Inhabited α] {t e : TypeId} (code : α → List Value) (Q : α → Prop) {sz : Nat} (ht : P.underlying t = some (.slice e)) (hsz : P.cellsOf e = sz) (h0 : 0 < sz)
    (dec : ∀ (n : Nat) (cs : List Value) (y : DataW H × List MemPlace), DataW.trod enc P w 0 (fun _ => true) true n e cs = some y → Fair P e y.1 → ∃ x : α, cs = code x ∧ Q x)
    {fuel : Nat} {cs : List Value} {x : DataW H × List MemPlace} (h : DataW.trod enc P w 0 (fun _ => true) true fuel t cs = some x) (hw : Fair P t x.1) :
    ∃ (A : Option Addr) (cap : Nat) (l : List α), cs = [.slice A l.length cap] ∧ l.length ≤ cap ∧ cap * P.bytesOf e ≤ reachBytes ∧ cap ≤ maxLen ∧ RowAt w w.heap.size sz A (l.map code) ∧ ∀ x ∈ l, Q x := by
  rcases open_slice ht h with ⟨rfl, rfl⟩ | ⟨a, len, cap, m, n, D, Pl, rfl, _, hl, hm, hmm, rfl, hx⟩
  · exact ⟨none, 0, [], rfl, by simp, by simp, by simp, fun hl => absurd hl (by simp), fun x hx => by cases hx⟩
  · simp only [if_true] at hmm
    subst hmm
    have hwt : (len + (m - len)) * P.bytesOf e ≤ reachBytes := by
      refine hw _ ?_
      simp [DataW.weights, ht]
    have hfair : ∀ i, i < len → Fair P e (D i) := by
      intro i hi k hk
      refine hw k ?_
      simp only [DataW.weights, ht, List.mem_cons, List.mem_append]
      exact .inr (.inl (weightsAll_mem (List.mem_map.2 ⟨i, List.mem_range.2 hi, rfl⟩) k hk))
    obtain ⟨f, hf⟩ := choose_lt (n := len) (p := fun i (x : α) => w.cells? 0 (a.add (i * P.cellsOf e)) (P.cellsOf e) = some (code x) ∧ Q x) (fun i hi => by
      obtain ⟨cs', h1, h2⟩ := hx i (by omega)
      obtain ⟨x, rfl, hq⟩ := dec n cs' _ h2 (hfair i hi)
      exact ⟨x, h1, hq⟩)
    refine ⟨some a, m, (List.range len).map f, by simp, by simpa using hl, by rwa [show len + (m - len) = m by omega] at hwt, hm, ?_, ?_⟩
    · intro hpos
      rw [List.length_map, List.length_map, List.length_range] at hpos
      obtain ⟨_, hcl, hc0⟩ := World.cells?_some (hf 0 hpos).1
      have hz := hc0 0 (by omega)
      rw [Nat.zero_mul] at hz
      have hz' : w.cell? a = (code (f 0))[0]? := by simpa [Addr.add] using hz
      rw [List.getElem?_eq_getElem (by omega)] at hz'
      obtain ⟨hs, hb⟩ := cell_none hz'
      obtain ⟨b, off, spot⟩ := a
      simp only at hs hb
      subst hs
      refine ⟨b, off, rfl, hb, fun i r hr j u hj hu => ?_⟩
      rw [List.getElem?_map, List.getElem?_map] at hr
      by_cases hi : i < len
      · simp only [List.getElem?_range hi, Option.map_some, Option.some.injEq] at hr
        subst hr
        obtain ⟨_, _, hcj⟩ := World.cells?_some (hf i hi).1
        have := hcj j (by omega)
        rw [add_add, hu, hsz] at this
        rw [← this]
        congr 1
        unfold Addr.add
        split
        · simp_all
        · simp [Nat.add_assoc]
      · rw [List.getElem?_eq_none (by simpa using hi)] at hr
        cases hr
    · intro x hx
      obtain ⟨i, hi, rfl⟩ := List.mem_map.1 hx
      exact (hf i (List.mem_range.1 hi)).2
end
end Go.Proofs.YtpcajmkmmkmekaaGreatDoor

/- How a rack, and arrays of numbers, read as data. -/
namespace Go.Proofs.YtpcajmkmmkmekaaGreatDoor
open Go Go.RowKit Go.Deep Go.ChangeShapes Go.WideShapes
set_option maxHeartbeats 1000000
instance : Inhabited Fit := ⟨⟨0, 0, 0, 0⟩⟩
instance : Inhabited Entry := ⟨⟨0, 0, 0, none, 0, []⟩⟩
instance : Inhabited Issue := ⟨⟨0, 0, 0, none, 0, []⟩⟩
section
variable {H : Type} {enc : TypeId × Value → H} {w : World}
abbrev Rd (P : Program) (enc : TypeId × Value → H) (w : World) (n : Nat) (t : TypeId) (cs : List Value) : Option (DataW H × List MemPlace) := DataW.trod enc P w 0 (fun _ => true) true n t cs
theorem read_fields {t : TypeId} {L : List (TypeId × Nat)} (hu : Tryz.prog.underlying t = some (.struct (Tryz.prog.fieldsOf t))) (hL : ((Tryz.prog.fieldsOf t).toList.map fun f => (f.type, f.offset)) = L)
    {n : Nat} {cs : List Value} {y : DataW H × List MemPlace} (h : Rd Tryz.prog enc w n t cs = some y) (hy : Fair Tryz.prog t y.1) :
    cs.length = Tryz.prog.cellsOf t ∧ ∃ m, ∀ (i : Nat) (ty : TypeId) (off : Nat), L[i]? = some (ty, off) → ∃ z, Rd Tryz.prog enc w m ty ((cs.drop off).take (Tryz.prog.cellsOf ty)) = some z ∧ Fair Tryz.prog ty z.1 := by
  obtain ⟨xs, m, _, rfl, hl, hlen, hf⟩ := DataW.trod_struct hu h
  refine ⟨hl, m, fun i ty off hi => ?_⟩
  rw [← hL, List.getElem?_map] at hi
  cases hfi : (Tryz.prog.fieldsOf t).toList[i]? with
  | none => rw [hfi] at hi; cases hi
  | some f =>
    rw [hfi] at hi
    simp only [Option.map_some, Option.some.injEq, Prod.mk.injEq] at hi
    obtain ⟨rfl, rfl⟩ := hi
    have h1 := hf i f (by simpa using hfi)
    have hilt : i < xs.length := by
      have := (List.getElem?_eq_some_iff.1 hfi).1
      rw [hlen]; simpa using this
    rw [List.getElem?_eq_getElem hilt] at h1
    refine ⟨_, h1, fun k hk => hy k ?_⟩
    simp only [DataW.weights, hu]
    exact DataW.weights_mem_each (j := i) (by rw [List.getElem?_map, hfi]; rfl) (by rw [List.getElem?_map, List.getElem?_eq_getElem hilt]; rfl) k hk
theorem read_int {n : Nat} {cs : List Value} {y : DataW H × List MemPlace} (h : Rd Tryz.prog enc w n 3 cs = some y) : ∃ k, cs = [vi k] := by
  obtain ⟨k, h1, _⟩ := DataW.trod_int Tryz.underlying3 h
  exact ⟨k, h1⟩
theorem list4 {α : Type} {l : List α} (h : l.length = 4) : ∃ a b c d, l = [a, b, c, d] := by
  match l, h with
  | [a, b, c, d], _ => exact ⟨a, b, c, d, rfl⟩
theorem list2 {α : Type} {l : List α} (h : l.length = 2) : ∃ a b, l = [a, b] := by
  match l, h with
  | [a, b], _ => exact ⟨a, b, rfl⟩
theorem list3 {α : Type} {l : List α} (h : l.length = 3) : ∃ a b c, l = [a, b, c] := by
  match l, h with
  | [a, b, c], _ => exact ⟨a, b, c, rfl⟩
theorem us : Tryz.prog.underlying 26 = some (.struct (Tryz.prog.fieldsOf 26)) := by kernel_rfl
theorem ls : ((Tryz.prog.fieldsOf 26).toList.map fun f => (f.type, f.offset)) = [(3, 0), (3, 1)] := by kernel_rfl
theorem uf : Tryz.prog.underlying 118 = some (.struct (Tryz.prog.fieldsOf 118)) := by kernel_rfl
theorem lf : ((Tryz.prog.fieldsOf 118).toList.map fun f => (f.type, f.offset)) = [(3, 0), (26, 1), (3, 3)] := by kernel_rfl
theorem ue : Tryz.prog.underlying 68 = some (.struct (Tryz.prog.fieldsOf 68)) := by kernel_rfl
theorem le' : ((Tryz.prog.fieldsOf 68).toList.map fun f => (f.type, f.offset)) = [(3, 0), (3, 1), (3, 2), (66, 3)] := by kernel_rfl
theorem ux : Tryz.prog.underlying 63 = some (.struct (Tryz.prog.fieldsOf 63)) := by kernel_rfl
theorem lx : ((Tryz.prog.fieldsOf 63).toList.map fun f => (f.type, f.offset)) = [(26, 0), (3, 2), (61, 3)] := by kernel_rfl
theorem ur : Tryz.prog.underlying 24 = some (.struct (Tryz.prog.fieldsOf 24)) := by kernel_rfl
theorem lr : ((Tryz.prog.fieldsOf 24).toList.map fun f => (f.type, f.offset)) = [(3, 0), (22, 1)] := by kernel_rfl
theorem ki : Tryz.prog.cellsOf 3 = 1 := by kernel_rfl
theorem ks : Tryz.prog.cellsOf 26 = 2 := by kernel_rfl
theorem kf : Tryz.prog.cellsOf 118 = 4 := by kernel_rfl
theorem ke : Tryz.prog.cellsOf 68 = 4 := by kernel_rfl
theorem kx : Tryz.prog.cellsOf 63 = 4 := by kernel_rfl
theorem kr : Tryz.prog.cellsOf 24 = 2 := by kernel_rfl
theorem kl1 : Tryz.prog.cellsOf 66 = 1 := by kernel_rfl
theorem kl2 : Tryz.prog.cellsOf 61 = 1 := by kernel_rfl
theorem kl3 : Tryz.prog.cellsOf 22 = 1 := by kernel_rfl
theorem bf : Tryz.prog.bytesOf 118 = 32 := by kernel_rfl
theorem be : Tryz.prog.bytesOf 68 = 48 := by kernel_rfl
theorem bx : Tryz.prog.bytesOf 63 = 48 := by kernel_rfl
theorem read_span {n : Nat} {cs : List Value} {y : DataW H × List MemPlace} (h : Rd Tryz.prog enc w n 26 cs = some y) (hy : Fair Tryz.prog 26 y.1) : ∃ a b, cs = [vi a, vi b] := by
  obtain ⟨hl, m, hm⟩ := read_fields us ls h hy
  obtain ⟨c0, c1, rfl⟩ := list2 (hl.trans ks)
  obtain ⟨z0, h0, _⟩ := hm 0 _ _ rfl
  obtain ⟨z1, h1, _⟩ := hm 1 _ _ rfl
  rw [ki] at h0 h1
  obtain ⟨a, e0⟩ := read_int h0
  obtain ⟨b, e1⟩ := read_int h1
  simp at e0 e1
  exact ⟨a, b, by rw [e0, e1]⟩
theorem read_fit (n : Nat) (cs : List Value) (y : DataW H × List MemPlace) (h : Rd Tryz.prog enc w n 118 cs = some y) (hy : Fair Tryz.prog 118 y.1) : ∃ f : Fit, cs = f.cells ∧ True := by
  obtain ⟨hl, m, hm⟩ := read_fields uf lf h hy
  obtain ⟨c0, c1, c2, c3, rfl⟩ := list4 (hl.trans kf)
  obtain ⟨z0, h0, _⟩ := hm 0 _ _ rfl
  obtain ⟨z1, h1, y1⟩ := hm 1 _ _ rfl
  obtain ⟨z2, h2, _⟩ := hm 2 _ _ rfl
  rw [ki] at h0 h2
  rw [ks] at h1
  obtain ⟨a, e0⟩ := read_int h0
  obtain ⟨b, c, e1⟩ := read_span h1 y1
  obtain ⟨d, e2⟩ := read_int h2
  simp at e0 e1 e2
  obtain ⟨e1, e3⟩ := e1
  exact ⟨⟨a, b, c, d⟩, by rw [e0, e1, e2, e3]; rfl, trivial⟩
theorem read_fits {n : Nat} {cs : List Value} {y : DataW H × List MemPlace} (h : Rd Tryz.prog enc w n 66 cs = some y) (hy : Fair Tryz.prog 66 y.1) : ∃ (A : Option Addr) (cap : Nat) (l : List Fit), cs = [.slice A l.length cap] ∧ FitsAt w w.heap.size A cap l := by
  obtain ⟨A, cap, l, h1, h2, h3, h4, h5, _⟩ := open_rows (α := Fit) Fit.cells (fun _ => True) Tryz.underlying66 kf (by omega) read_fit h hy
  refine ⟨A, cap, l, h1, h2, ?_, h5⟩
  rw [bf] at h3
  unfold reachBytes at h3
  omega
theorem read_entry (n : Nat) (cs : List Value) (y : DataW H × List MemPlace) (h : Rd Tryz.prog enc w n 68 cs = some y) (hy : Fair Tryz.prog 68 y.1) : ∃ e : Entry, cs = e.cells ∧ FitsAt w w.heap.size e.ad e.cap e.sizes := by
  obtain ⟨hl, m, hm⟩ := read_fields ue le' h hy
  obtain ⟨c0, c1, c2, c3, rfl⟩ := list4 (hl.trans ke)
  obtain ⟨z0, h0, _⟩ := hm 0 _ _ rfl
  obtain ⟨z1, h1, _⟩ := hm 1 _ _ rfl
  obtain ⟨z2, h2, _⟩ := hm 2 _ _ rfl
  obtain ⟨z3, h3, y3⟩ := hm 3 _ _ rfl
  rw [ki] at h0 h1 h2
  rw [kl1] at h3
  obtain ⟨a, e0⟩ := read_int h0
  obtain ⟨b, e1⟩ := read_int h1
  obtain ⟨c, e2⟩ := read_int h2
  obtain ⟨A, cap, l, e3, hl⟩ := read_fits h3 y3
  simp at e0 e1 e2 e3
  exact ⟨⟨a, b, c, A, cap, l⟩, by rw [e0, e1, e2, e3]; rfl, hl⟩
theorem read_entries {n : Nat} {cs : List Value} {y : DataW H × List MemPlace} (h : Rd Tryz.prog enc w n 61 cs = some y) (hy : Fair Tryz.prog 61 y.1) : ∃ (A : Option Addr) (cap : Nat) (l : List Entry), cs = [.slice A l.length cap] ∧ EntriesAt w w.heap.size A cap l := by
  obtain ⟨A, cap, l, h1, h2, h3, h4, h5, h6⟩ := open_rows (α := Entry) Entry.cells (fun e => FitsAt w w.heap.size e.ad e.cap e.sizes) Tryz.underlying61 ke (by omega) read_entry h hy
  refine ⟨A, cap, l, h1, h2, ?_, h5, h6⟩
  rw [be] at h3
  unfold reachBytes at h3
  omega
theorem read_issue (n : Nat) (cs : List Value) (y : DataW H × List MemPlace) (h : Rd Tryz.prog enc w n 63 cs = some y) (hy : Fair Tryz.prog 63 y.1) : ∃ x : Issue, cs = x.cells ∧ EntriesAt w w.heap.size x.ad x.cap x.entries := by
  obtain ⟨hl, m, hm⟩ := read_fields ux lx h hy
  obtain ⟨c0, c1, c2, c3, rfl⟩ := list4 (hl.trans kx)
  obtain ⟨z0, h0, y0⟩ := hm 0 _ _ rfl
  obtain ⟨z1, h1, _⟩ := hm 1 _ _ rfl
  obtain ⟨z2, h2, y2⟩ := hm 2 _ _ rfl
  rw [ks] at h0
  rw [ki] at h1
  rw [kl2] at h2
  obtain ⟨a, b, e0⟩ := read_span h0 y0
  obtain ⟨c, e1⟩ := read_int h1
  obtain ⟨A, cap, l, e2, hl⟩ := read_entries h2 y2
  simp at e0 e1 e2
  obtain ⟨e0, e3⟩ := e0
  exact ⟨⟨a, b, c, A, cap, l⟩, by rw [e0, e1, e2, e3]; rfl, hl⟩
set_option maxRecDepth 100000 in
theorem read_rack {v : Value} {d : DataW H} {ps : List MemPlace} {base : Nat} (hv : Value.okWide Tryz.prog w .any base 24 v) (h : DataW.Trod enc Tryz.prog w 0 (fun _ => true) true 24 v d ps) (hd : Fair Tryz.prog 24 d) : ∃ r : Rack, v = r.val ∧ RackAt w w.heap.size r := by
  obtain ⟨cs, rfl, hsz⟩ := okWide_struct ur hv
  obtain ⟨n, h⟩ := h
  obtain ⟨hl, m, hm⟩ := read_fields (y := (d, ps)) ur lr h hd
  obtain ⟨c0, c1, hc⟩ := list2 (l := cs.toList) (by rw [Array.length_toList]; exact hsz.trans kr)
  obtain rfl : cs = #[c0, c1] := by rw [← Array.toArray_toList (xs := cs), hc]
  obtain ⟨z0, h0, _⟩ := hm 0 _ _ rfl
  obtain ⟨z1, h1, y1⟩ := hm 1 _ _ rfl
  rw [ki] at h0
  rw [kl3] at h1
  obtain ⟨a, e0⟩ := read_int h0
  obtain ⟨A, cap, l, e1, k2, k3, k4, k5, k6⟩ := open_rows (α := Issue) Issue.cells (fun x => EntriesAt w w.heap.size x.ad x.cap x.entries) Tryz.underlying22 kx (by omega) read_issue h1 y1
  simp [Value.cells] at e0 e1
  rw [bx] at k3
  unfold reachBytes at k3
  have k7 : cap ≤ 4398046511104 := by omega
  exact ⟨⟨a, A, cap, l⟩, by rw [e0, e1], k2, Nat.le_trans k7 (by omega), Nat.le_trans k2 k7, k5, k6⟩
end
end Go.Proofs.YtpcajmkmmkmekaaGreatDoor

/- What is left to say when a law has answered true: each argument reads as it did. -/
namespace Go.Proofs.YtpcajmkmmkmekaaGreatDoor
open Go Go.RowKit Go.Deep Go.ChangeShapes Go.WideShapes Go.ChangeAt
set_option maxHeartbeats 1000000
theorem own_knob : ownKnob Tryz.prog.godebug = none := by kernel_rfl
theorem kids : Kids Tryz.prog (· < Tryz.prog.types.size) := kids_rows (by kernel_rfl) (by kernel_rfl)
theorem full : ∀ t e, t < Tryz.prog.types.size → Tryz.prog.underlying t = some (.slice e) → 0 < Tryz.prog.cellsOf e := slices_full_of Tryz.prog (by kernel_rfl)
section
variable {H : Type} {enc : TypeId × Value → H}
theorem carry_all {P : Program} {w w' : World} {b : Nat} {sp : Nat → Bool} {hd : Bool} : ∀ {ts : List TypeId} {vs : List Value} {ds : List (DataW H)} {ps : List MemPlace}, DataW.TrodAll enc P w b sp hd ts vs ds ps → (∀ p ∈ ps, w.sameAt w' p) → DataW.TrodAll enc P w' b sp hd ts vs ds ps
  | [], [], [], _, h, _ => h
  | _ :: _, _ :: _, _ :: _, _, ⟨p, q, ⟨n, h1⟩, h2, e⟩, hs =>
    ⟨p, q, ⟨n, DataW.trod_carry n _ _ _ h1 fun x hx => hs x (by rw [e]; exact List.mem_append_left _ hx)⟩, carry_all h2 fun x hx => hs x (by rw [e]; exact List.mem_append_right _ hx), e⟩
theorem post_true {s : ChangeSpec} {fn : Func} {W W' : World} {args : Array Value} {ds gs : List (DataW H)} {before : List MemPlace}
    (hW : DataW.Whole enc Tryz.prog fn.params.toList s.vars false W args.toList ds gs before) (hv : s.vars = []) (hs : s.fn H ds = { results := [.lit (.bool true)], args := ds })
    (ht : fn.resultTypes = #[4]) (hp : ∀ t ∈ fn.params.toList, t < Tryz.prog.types.size) (hb : Below W.heap.size W W') :
    s.post enc Tryz.prog fn false true false false W args (.bool true) W' := by
  have hW0 := hW
  obtain ⟨p, q, hA, hV, rfl, hfz, hnd⟩ := hW
  rw [hv] at hV
  obtain ⟨rfl, rfl⟩ := trodVars_none hV
  have hlt : ∀ x ∈ p, x.block < W.heap.size := fun x hx => hW0.lt x (by simpa using hx)
  refine ⟨ds, [], p ++ [], [], p, [], hW0, ?_, ?_, ?_, ?_, fun h => by cases h⟩
  · rw [ht, List.append_nil, hs]
    exact trodAll_cons_mk (shut_bool Tryz.underlying4 true) trodAll_mk0
  · rw [List.append_nil, hs]
    exact DataW.TrodAll.respare kids full hp (carry_all hA fun x hx => hb.same (hlt x hx)) fun x hx => by simpa using hlt x hx
  · rw [hv, List.append_nil, hs]
    rfl
  · exact World.keptBut_mono (fun _ h => h.elim) (hb.frame fun _ => False)
end
end Go.Proofs.YtpcajmkmmkmekaaGreatDoor

/- The table of limits, out of what the row lists. -/
namespace Go.Proofs.YtpcajmkmmkmekaaGreatDoor
open Go Go.RowKit Go.Deep Go.ChangeShapes Go.WideShapes
set_option maxHeartbeats 1000000
section
variable {H : Type} {enc : TypeId × Value → H} {w : World} {sp : Nat → Bool} {hd : Bool} {base : Nat}
theorem told_int {n : Nat} {cs : List Value} {y : DataW H × List MemPlace} (h : DataW.trod enc Tryz.prog w base sp hd n 3 cs = some y) : ∃ k, cs = [vi k] ∧ y.1 = .lit (.int .i64 k) := by
  obtain ⟨k, h1, h2, _⟩ := DataW.trod_int Tryz.underlying3 h
  exact ⟨k, h1, by rw [h2]⟩
theorem told_span {n : Nat} {cs : List Value} {y : DataW H × List MemPlace} (h : DataW.trod enc Tryz.prog w base sp hd n 26 cs = some y) : ∃ a b, cs = [vi a, vi b] ∧ y.1 = .agg [.lit (.int .i64 a), .lit (.int .i64 b)] := by
  obtain ⟨xs, m, _, rfl, hl, hlen, hf⟩ := DataW.trod_struct us h
  obtain ⟨c0, c1, rfl⟩ := list2 (hl.trans ks)
  have hsz : (Tryz.prog.fieldsOf 26).size = 2 := by kernel_rfl
  rw [hsz] at hlen
  obtain ⟨x0, x1, rfl⟩ := list2 hlen
  have key : ∀ (i ty off : Nat), ((Tryz.prog.fieldsOf 26).toList.map fun f => (f.type, f.offset))[i]? = some (ty, off) → DataW.trod enc Tryz.prog w base sp hd m ty (([c0, c1].drop off).take (Tryz.prog.cellsOf ty)) = [x0, x1][i]? := by
    intro i ty off hi
    rw [List.getElem?_map] at hi
    cases hfi : (Tryz.prog.fieldsOf 26).toList[i]? with
    | none => rw [hfi] at hi; cases hi
    | some f =>
      rw [hfi] at hi
      simp only [Option.map_some, Option.some.injEq, Prod.mk.injEq] at hi
      obtain ⟨rfl, rfl⟩ := hi
      exact hf i f (by simpa using hfi)
  have h0 := key 0 3 0 (by rw [ls]; rfl)
  have h1 := key 1 3 1 (by rw [ls]; rfl)
  rw [ki] at h0 h1
  obtain ⟨a, e0, d0⟩ := told_int h0
  obtain ⟨b, e1, d1⟩ := told_int h1
  simp at e0 e1
  exact ⟨a, b, by rw [e0, e1], by simp [d0, d1]⟩
end
theorem gLim : Tryz.prog.globalNamed "wishbook/book.limits" = some 0 := by kernel_rfl
theorem gLimType : (Tryz.prog.globals[0]?).map (·.type) = some 112 := by kernel_rfl
theorem uL : Tryz.prog.underlying 112 = some (.array 12 26) := by kernel_rfl
theorem lim_of {W : World} (h : laidMet Tryz.prog [("wishbook/book.limits", Rows.laid_wishbook_book_limits)] W) : Lim W := by
  obtain ⟨ps, ⟨g, t, cs, fuel, p, q, hg, ht, hvar, hd, _, _⟩, _⟩ := h
  obtain rfl := Option.some.inj (gLim.symm.trans hg)
  obtain rfl := Option.some.inj (gLimType.symm.trans ht)
  obtain ⟨xs, m, _, hx, hl, hlen, hf⟩ := DataW.trod_array uL hd
  have hcell := World.var?_cell gLim hvar
  have hxs : xs.map (·.1) = [.agg [.lit (.int .i64 1), .lit (.int .i64 24)], .agg [.lit (.int .i64 1), .lit (.int .i64 4)], .agg [.lit (.int .i64 0), .lit (.int .i64 24)], .agg [.lit (.int .i64 0), .lit (.int .i64 20000)], .agg [.lit (.int .i64 1), .lit (.int .i64 9999)], .agg [.lit (.int .i64 1), .lit (.int .i64 8)], .agg [.lit (.int .i64 1), .lit (.int .i64 99)], .agg [.lit (.int .i64 1), .lit (.int .i64 400)], .agg [.lit (.int .i64 1), .lit (.int .i64 100000)], .agg [.lit (.int .i64 0), .lit (.int .i64 3)], .agg [.lit (.int .i64 0), .lit (.int .i64 20)], .agg [.lit (.int .i64 1), .lit (.int .i64 1000)]] := by
    have := congrArg Prod.fst hx
    simpa [Rows.laid_wishbook_book_limits] using this.symm
  have key : ∀ (k : Nat) (a b : Int), k < 12 → (xs.map (·.1))[k]? = some (.agg [.lit (.int .i64 a), .lit (.int .i64 b)]) → W.cell? ⟨0, k * 2, none⟩ = some (vi a) ∧ W.cell? ⟨0, k * 2 + 1, none⟩ = some (vi b) := by
    intro k a b hk hkx
    have h1 := hf k hk
    rw [ks] at h1
    rw [List.getElem?_map] at hkx
    cases hxk : xs[k]? with
    | none => rw [hxk] at hkx; cases hkx
    | some z =>
      rw [hxk] at h1 hkx
      obtain ⟨a', b', e, hz⟩ := told_span h1
      simp only [Option.map_some, Option.some.injEq] at hkx
      rw [hz] at hkx
      simp only [DataW.agg.injEq, List.cons.injEq, DataW.lit.injEq, Lit.int.injEq, true_and, and_true] at hkx
      obtain ⟨rfl, rfl⟩ := hkx
      have e0 := congrArg (fun l : List Value => l[0]?) e
      have e1 := congrArg (fun l : List Value => l[1]?) e
      simp only [List.getElem?_take, List.getElem?_drop, List.getElem?_cons_zero, List.getElem?_cons_succ] at e0 e1
      refine ⟨(hcell _).trans ?_, (hcell _).trans ?_⟩
      · simpa using e0
      · simpa using e1
  have hpos : 0 < W.heap.size := by
    have := (key 0 1 24 (by omega) (by rw [hxs]; rfl)).1
    exact (cell_none this).2
  have all : ∀ k : Nat, k < 12 → W.cell? ⟨0, k * 2, none⟩ = some (vi (limLo k)) ∧ W.cell? ⟨0, k * 2 + 1, none⟩ = some (vi (limHi k)) := by
    intro k hk
    have : k = 0 ∨ k = 1 ∨ k = 2 ∨ k = 3 ∨ k = 4 ∨ k = 5 ∨ k = 6 ∨ k = 7 ∨ k = 8 ∨ k = 9 ∨ k = 10 ∨ k = 11 := by omega
    rcases this with rfl | rfl | rfl | rfl | rfl | rfl | rfl | rfl | rfl | rfl | rfl | rfl
    all_goals exact key _ _ _ (by omega) (by rw [hxs]; rfl)
  exact ⟨hpos, fun k hk => (all k hk).1, fun k hk => (all k hk).2⟩
end Go.Proofs.YtpcajmkmmkmekaaGreatDoor

/- A world for the witnesses: the table of limits as the program's text lays it. Arrays of numbers as arguments. -/
namespace Go.Proofs.YtpcajmkmmkmekaaGreatDoor
open Go Go.RowKit Go.Deep Go.ChangeShapes Go.WideShapes
set_option maxHeartbeats 1000000
noncomputable def laidWorld (os : Os) : World :=
  { World.holding Tryz.prog os ⟨#[], #[], []⟩ with heap := (World.holding Tryz.prog os ⟨#[], #[], []⟩).heap.modify 0 fun
      | .cells _ t frozen => .cells #[vi 1, vi 24, vi 1, vi 4, vi 0, vi 24, vi 0, vi 20000, vi 1, vi 9999, vi 1, vi 8, vi 1, vi 99, vi 1, vi 400, vi 1, vi 100000, vi 0, vi 3, vi 0, vi 20, vi 1, vi 1000] t frozen
      | o => o }
set_option maxRecDepth 100000 in
theorem wf_range {n : Int} (h : (Lit.int .i64 n).wf = true) : -9223372036854775808 ≤ n ∧ n ≤ 9223372036854775807 := by
  simpa [Lit.wf, IntKind.min, IntKind.max, IntKind.signed, IntKind.bits] using h
section
variable {H : Type} {enc : TypeId × Value → H} {w : World}
set_option maxRecDepth 100000 in
theorem read_array {t : TypeId} {n : Nat} (hu : Tryz.prog.underlying t = some (.array n 3)) (hk : Tryz.prog.cellsOf t = n) {v : Value} {d : DataW H} {ps : List MemPlace} {base : Nat} (hv : Value.okWide Tryz.prog w .any base t v)
    (h : DataW.Trod enc Tryz.prog w 0 (fun _ => true) true t v d ps) : ∃ l : List Int, l.length = n ∧ v = .agg (l.map vi).toArray ∧ ∀ k ∈ l, -9223372036854775808 ≤ k ∧ k ≤ 9223372036854775807 := by
  unfold Value.okWide at hv
  rw [hu] at hv
  obtain ⟨cs, rfl, hsz, _⟩ := hv
  obtain ⟨m, h⟩ := h
  obtain ⟨xs, m', _, hx, hl, hlen, hf⟩ := DataW.trod_array hu h
  have key : ∀ i, i < n → ∃ k : Int, cs.toList[i]? = some (vi k) ∧ -9223372036854775808 ≤ k ∧ k ≤ 9223372036854775807 := by
    intro i hi
    have h1 := hf i hi
    rw [ki, List.getElem?_eq_getElem (by omega)] at h1
    obtain ⟨k, e, _, hwf⟩ := DataW.trod_int Tryz.underlying3 h1
    have e0 := congrArg (fun l : List Value => l[0]?) e
    simp only [List.getElem?_take, List.getElem?_drop, List.getElem?_cons_zero] at e0
    exact ⟨k, by simpa [Value.cells] using e0, wf_range hwf⟩
  obtain ⟨f, hf2⟩ := choose_lt (n := n) (p := fun i (k : Int) => cs.toList[i]? = some (vi k) ∧ -9223372036854775808 ≤ k ∧ k ≤ 9223372036854775807) key
  refine ⟨(List.range n).map f, by simp, ?_, fun k hk => ?_⟩
  · congr 1
    rw [← Array.toArray_toList (xs := cs)]
    congr 1
    apply List.ext_getElem?
    intro i
    by_cases hi : i < n
    · rw [(hf2 i hi).1]
      simp [hi]
    · rw [List.getElem?_eq_none (by rw [Array.length_toList, hsz, hk]; omega), List.getElem?_eq_none (by simp; omega)]
  · obtain ⟨i, hi, rfl⟩ := List.mem_map.1 hk
    exact (hf2 i (List.mem_range.1 hi)).2
end
end Go.Proofs.YtpcajmkmmkmekaaGreatDoor

/- How a list of numbers reads as an argument. -/
namespace Go.Proofs.YtpcajmkmmkmekaaGreatDoor
open Go Go.RowKit Go.Deep Go.ChangeShapes Go.WideShapes
set_option maxHeartbeats 1000000
theorem bi : Tryz.prog.bytesOf 3 = 8 := by kernel_rfl
set_option maxRecDepth 100000 in
theorem read_bits {H : Type} {enc : TypeId × Value → H} {w : World} {v : Value} {d : DataW H} {ps : List MemPlace} {base : Nat} (hv : Value.okWide Tryz.prog w .any base 36 v)
    (h : DataW.Trod enc Tryz.prog w 0 (fun _ => true) true 36 v d ps) (hy : Fair Tryz.prog 36 d) :
    ∃ (A : Option Addr) (cap : Nat) (l : List Int), v = .slice A l.length cap ∧ IntsAt w w.heap.size A cap l ∧ ∀ k ∈ l, -9223372036854775808 ≤ k ∧ k ≤ 9223372036854775807 := by
  obtain ⟨a, n, c, rfl⟩ := okWide_slice Tryz.underlying36 hv
  obtain ⟨m, h⟩ := h
  obtain ⟨A, cap, l, h1, h2, h3, h4, h5, h6⟩ := open_rows (α := Int) (fun n => [vi n]) (fun n => -9223372036854775808 ≤ n ∧ n ≤ 9223372036854775807) Tryz.underlying36 ki (by omega) (fun n cs y hn _ => by
    obtain ⟨k, e, _, hwf⟩ := DataW.trod_int Tryz.underlying3 hn
    exact ⟨k, e, wf_range hwf⟩) h hy
  simp [Value.cells] at h1
  obtain ⟨rfl, rfl, rfl⟩ := h1
  refine ⟨a, c, l, rfl, ⟨h2, ?_, h5⟩, h6⟩
  rw [bi] at h3
  unfold reachBytes at h3
  omega
end Go.Proofs.YtpcajmkmmkmekaaGreatDoor

