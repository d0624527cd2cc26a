/- Reading arguments: a span, a book. -/
import Derived.Test.YtpcajmkmmkmekaaGreatDoorGr
set_option linter.unusedVariables false
set_option linter.unusedSimpArgs false
namespace Go.Proofs.YtpcajmkmmkmekaaGreatDoor
open Go Go.RowKit Go.Deep Go.ChangeShapes Go.WideShapes
set_option maxHeartbeats 1000000
section
variable {H : Type} {enc : TypeId × Value → H} {w : World}
set_option maxRecDepth 100000 in
theorem read_spanV {v : Value} {d : DataW H} {ps : List MemPlace} {base : Nat} (hv : Value.okWide Tryz.prog w .any base 26 v) (h : DataW.Trod enc Tryz.prog w 0 (fun _ => true) true 26 v d ps) (hd : Fair Tryz.prog 26 d) : ∃ a b, v = .agg #[vi a, vi b] := by
  obtain ⟨cs, rfl, hsz⟩ := okWide_struct us hv
  obtain ⟨n, h⟩ := h
  obtain ⟨c0, c1, hc⟩ := list2 (l := cs.toList) (by rw [Array.length_toList]; exact hsz.trans ks)
  obtain rfl : cs = #[c0, c1] := by rw [← Array.toArray_toList (xs := cs), hc]
  obtain ⟨a, b, e⟩ := read_span (y := (d, ps)) h hd
  have e' : [c0, c1] = [vi a, vi b] := e
  simp only [List.cons.injEq, and_true] at e'
  obtain ⟨rfl, rfl⟩ := e'
  exact ⟨a, b, rfl⟩
set_option maxRecDepth 100000 in
theorem read_issueV {v : Value} {d : DataW H} {ps : List MemPlace} {base : Nat} (hv : Value.okWide Tryz.prog w .any base 63 v) (h : DataW.Trod enc Tryz.prog w 0 (fun _ => true) true 63 v d ps) (hd : Fair Tryz.prog 63 d) : ∃ x : Issue, v = x.val ∧ IssueAt w w.heap.size x := by
  obtain ⟨cs, rfl, hsz⟩ := okWide_struct ux hv
  obtain ⟨n, h⟩ := h
  obtain ⟨c0, c1, c2, c3, hc⟩ := list4 (l := cs.toList) (by rw [Array.length_toList]; exact hsz.trans kx)
  obtain rfl : cs = #[c0, c1, c2, c3] := by rw [← Array.toArray_toList (xs := cs), hc]
  obtain ⟨x, e, hx⟩ := read_issue _ _ (d, ps) h hd
  have e' : [c0, c1, c2, c3] = x.cells := e
  simp only [Issue.cells, List.cons.injEq, and_true] at e'
  obtain ⟨rfl, rfl, rfl, rfl⟩ := e'
  exact ⟨x, rfl, hx⟩
end
end Go.Proofs.YtpcajmkmmkmekaaGreatDoor

