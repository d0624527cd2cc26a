/- Reading arguments: an item, lines. -/
import Derived.Test.YtpcajmkmmkmekaaGreatDoorXO7
import Derived.Test.YtpcajmkmmkmekaaGreatDoorGr
set_option linter.unusedVariables false
set_option linter.unusedSimpArgs false
namespace Go.Proofs.YtpcajmkmmkmekaaGreatDoor
open Go Go.RowKit Go.Deep Go.ChangeShapes Go.WideShapes
set_option maxHeartbeats 1000000
section
variable {H : Type} {enc : TypeId × Value → H} {w : World}
theorem uit : Tryz.prog.underlying 43 = some (.struct (Tryz.prog.fieldsOf 43)) := by kernel_rfl
theorem lit' : ((Tryz.prog.fieldsOf 43).toList.map fun f => (f.type, f.offset)) = [(3, 0), (3, 1), (3, 2)] := by kernel_rfl
theorem kit : Tryz.prog.cellsOf 43 = 3 := by kernel_rfl
theorem read_item {n : Nat} {cs : List Value} {y : DataW H × List MemPlace} (h : Rd Tryz.prog enc w n 43 cs = some y) (hy : Fair Tryz.prog 43 y.1) : ∃ a b c, cs = [vi a, vi b, vi c] := by
  obtain ⟨hl, m, hm⟩ := read_fields uit lit' h hy
  obtain ⟨c0, c1, c2, rfl⟩ := list3 (hl.trans kit)
  obtain ⟨z0, h0, _⟩ := hm 0 _ _ rfl
  obtain ⟨z1, h1, _⟩ := hm 1 _ _ rfl
  obtain ⟨z2, h2, _⟩ := hm 2 _ _ rfl
  rw [ki] at h0 h1 h2
  obtain ⟨a, e0⟩ := read_int h0
  obtain ⟨b, e1⟩ := read_int h1
  obtain ⟨c, e2⟩ := read_int h2
  simp at e0 e1 e2
  exact ⟨a, b, c, by rw [e0, e1, e2]⟩
set_option maxRecDepth 100000 in
theorem read_itemV {v : Value} {d : DataW H} {ps : List MemPlace} {base : Nat} (hv : Value.okWide Tryz.prog w .any base 43 v) (h : DataW.Trod enc Tryz.prog w 0 (fun _ => true) true 43 v d ps) (hd : Fair Tryz.prog 43 d) : ∃ it : Item, v = it.val := by
  obtain ⟨cs, rfl, hsz⟩ := okWide_struct uit hv
  obtain ⟨n, h⟩ := h
  obtain ⟨c0, c1, c2, hc⟩ := list3 (l := cs.toList) (by rw [Array.length_toList]; exact hsz.trans kit)
  obtain rfl : cs = #[c0, c1, c2] := by rw [← Array.toArray_toList (xs := cs), hc]
  obtain ⟨a, b, c, e⟩ := read_item (y := (d, ps)) h hd
  have e' : [c0, c1, c2] = [vi a, vi b, vi c] := e
  simp only [List.cons.injEq, and_true] at e'
  obtain ⟨rfl, rfl, rfl⟩ := e'
  exact ⟨⟨a, b, c⟩, rfl⟩
theorem uln : Tryz.prog.underlying 126 = some (.struct (Tryz.prog.fieldsOf 126)) := by kernel_rfl
theorem lln : ((Tryz.prog.fieldsOf 126).toList.map fun f => (f.type, f.offset)) = [(43, 0), (3, 3)] := by kernel_rfl
theorem kln : Tryz.prog.cellsOf 126 = 4 := by kernel_rfl
theorem read_line (n : Nat) (cs : List Value) (y : DataW H × List MemPlace) (h : Rd Tryz.prog enc w n 126 cs = some y) (hy : Fair Tryz.prog 126 y.1) : ∃ l : Line, cs = l.cells ∧ True := by
  obtain ⟨hl, m, hm⟩ := read_fields uln lln h hy
  obtain ⟨c0, c1, c2, c3, rfl⟩ := list4 (hl.trans kln)
  obtain ⟨z0, h0, y0⟩ := hm 0 _ _ rfl
  obtain ⟨z1, h1, _⟩ := hm 1 _ _ rfl
  rw [kit] at h0
  rw [ki] at h1
  obtain ⟨a, b, c, e0⟩ := read_item h0 y0
  obtain ⟨d, e1⟩ := read_int h1
  simp at e0 e1
  obtain ⟨e0, e2, e3⟩ := e0
  exact ⟨⟨⟨a, b, c⟩, d⟩, by rw [e0, e1, e2, e3]; rfl, trivial⟩
set_option maxRecDepth 100000 in
theorem read_linesV {v : Value} {d : DataW H} {ps : List MemPlace} {base : Nat} (hv : Value.okWide Tryz.prog w .any base 48 v)
    (h : DataW.Trod enc Tryz.prog w 0 (fun _ => true) true 48 v d ps) (hy : Fair Tryz.prog 48 d) :
    ∃ (A : Option Addr) (cap : Nat) (l : List Line), v = .slice A l.length cap ∧ LinesAt w w.heap.size A cap l := by
  obtain ⟨a, n, c, rfl⟩ := okWide_slice Tryz.underlying48 hv
  obtain ⟨m, h⟩ := h
  haveI : Inhabited Line := ⟨⟨⟨0, 0, 0⟩, 0⟩⟩
  obtain ⟨A, cap, l, h1, h2, h3, h4, h5, h6⟩ := open_rows (α := Line) Line.cells (fun _ => True) Tryz.underlying48 kln (by omega) read_line h hy
  simp [Value.cells] at h1
  obtain ⟨rfl, rfl, rfl⟩ := h1
  unfold maxLen at h4
  exact ⟨a, c, l, rfl, ⟨h2, h4, h5⟩⟩
end
end Go.Proofs.YtpcajmkmmkmekaaGreatDoor

