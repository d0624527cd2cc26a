/- What the chapter's functions answer of the chapter's rack, where they are asked amiss, or find none: plain calculation. -/
import Derived.Test.YtpcajmkmmkmekaaDoorGp
import Derived.Test.YtpcajmkmmkmekaaDoorXR16
set_option linter.unusedVariables false
set_option linter.unusedSimpArgs false
namespace Go.Proofs.YtpcajmkmmkmekaaDoor
open Go Go.RowKit
def line21 : List Line := [⟨⟨0,0,0⟩,0⟩,⟨⟨0,0,0⟩,0⟩,⟨⟨0,0,0⟩,0⟩,⟨⟨0,0,0⟩,0⟩,⟨⟨0,0,0⟩,0⟩,⟨⟨0,0,0⟩,0⟩,⟨⟨0,0,0⟩,0⟩,⟨⟨0,0,0⟩,0⟩,⟨⟨0,0,0⟩,0⟩,⟨⟨0,0,0⟩,0⟩,⟨⟨0,0,0⟩,0⟩,⟨⟨0,0,0⟩,0⟩,⟨⟨0,0,0⟩,0⟩,⟨⟨0,0,0⟩,0⟩,⟨⟨0,0,0⟩,0⟩,⟨⟨0,0,0⟩,0⟩,⟨⟨0,0,0⟩,0⟩,⟨⟨0,0,0⟩,0⟩,⟨⟨0,0,0⟩,0⟩,⟨⟨0,0,0⟩,0⟩,⟨⟨0,0,0⟩,0⟩]
section
variable (f1 f2 f3 f4 e1 e2 i1 : Option Addr)
theorem k31 : meansErr (chap f1 f2 f3 f4 e1 e2 i1) 1 0 12 = 11 := by kernel_rfl
theorem k32 : meansErr (chap f1 f2 f3 f4 e1 e2 i1) 1 2 10000 = 11 := by kernel_rfl
theorem k33 : numErr (chap f1 f2 f3 f4 e1 e2 i1) 2 11 0 = 11 ∧ numV (chap f1 f2 f3 f4 e1 e2 i1) 2 11 0 = 0 := ⟨by kernel_rfl, by kernel_rfl⟩
theorem k34 : twinsErr (chap f1 f2 f3 f4 e1 e2 i1) 20001 = 11 := by kernel_rfl
theorem k35 : priceErr (chap f1 f2 f3 f4 e1 e2 i1) 0 ⟨3, 1, 0⟩ = 11 ∧ priceV (chap f1 f2 f3 f4 e1 e2 i1) 0 ⟨3, 1, 0⟩ = 0 := ⟨by kernel_rfl, by kernel_rfl⟩
theorem k36 : priceErr (chap f1 f2 f3 f4 e1 e2 i1) 0 ⟨0, 100, 0⟩ = 11 ∧ priceV (chap f1 f2 f3 f4 e1 e2 i1) 0 ⟨0, 100, 0⟩ = 0 := ⟨by kernel_rfl, by kernel_rfl⟩
theorem k37 : pricesErr (chap f1 f2 f3 f4 e1 e2 i1) 0 1 ⟨0, 40, 4⟩ = 11 := by kernel_rfl
theorem k38 : lastErr (chap f1 f2 f3 f4 e1 e2 i1) ⟨0, 0, 0⟩ = 11 ∧ lastV (chap f1 f2 f3 f4 e1 e2 i1) ⟨0, 0, 0⟩ = 0 := ⟨by kernel_rfl, by kernel_rfl⟩
theorem k39 : sumErr (chap f1 f2 f3 f4 e1 e2 i1) 270 [⟨⟨0, 40, 0⟩, 1001⟩] = 11 ∧ sumV (chap f1 f2 f3 f4 e1 e2 i1) 270 [⟨⟨0, 40, 0⟩, 1001⟩] = 0 := ⟨by kernel_rfl, by kernel_rfl⟩
theorem k40 : cheapErr (chap f1 f2 f3 f4 e1 e2 i1) 0 1 line21 = 11 ∧ cheapD (chap f1 f2 f3 f4 e1 e2 i1) 0 1 line21 = 0 ∧ cheapN (chap f1 f2 f3 f4 e1 e2 i1) 0 1 line21 = 0 := ⟨by kernel_rfl, by kernel_rfl, by kernel_rfl⟩
theorem k41 : lookErr (chap f1 f2 f3 f4 e1 e2 i1) 0 11 255 401 = 11 := by kernel_rfl
theorem k42 : sureErr (chap f1 f2 f3 f4 e1 e2 i1) 0 0 255 256 = 11 ∧ sureV (chap f1 f2 f3 f4 e1 e2 i1) 0 0 255 256 = 0 := ⟨by kernel_rfl, by kernel_rfl⟩
theorem k45 : numErr (chap f1 f2 f3 f4 e1 e2 i1) 0 12 1 = 4 ∧ numV (chap f1 f2 f3 f4 e1 e2 i1) 0 12 1 = 0 := ⟨by kernel_rfl, by kernel_rfl⟩
theorem k46 : numErr (chap f1 f2 f3 f4 e1 e2 i1) 0 13 1 = 4 ∧ numV (chap f1 f2 f3 f4 e1 e2 i1) 0 13 1 = 0 := ⟨by kernel_rfl, by kernel_rfl⟩
theorem k47 : priceErr (chap f1 f2 f3 f4 e1 e2 i1) 99 ⟨0, 40, 0⟩ = 4 ∧ priceV (chap f1 f2 f3 f4 e1 e2 i1) 99 ⟨0, 40, 0⟩ = 0 := ⟨by kernel_rfl, by kernel_rfl⟩
theorem k48 : priceErr (chap f1 f2 f3 f4 e1 e2 i1) 301 ⟨0, 40, 1⟩ = 4 ∧ priceV (chap f1 f2 f3 f4 e1 e2 i1) 301 ⟨0, 40, 1⟩ = 0 := ⟨by kernel_rfl, by kernel_rfl⟩
theorem k49 : lastErr (chap f1 f2 f3 f4 e1 e2 i1) ⟨2, 1, 0⟩ = 4 ∧ lastV (chap f1 f2 f3 f4 e1 e2 i1) ⟨2, 1, 0⟩ = 0 := ⟨by kernel_rfl, by kernel_rfl⟩
theorem k50 : sumErr (chap f1 f2 f3 f4 e1 e2 i1) 259 orderL = 4 ∧ sumV (chap f1 f2 f3 f4 e1 e2 i1) 259 orderL = 0 := ⟨by kernel_rfl, by kernel_rfl⟩
theorem k51 : cheapErr (chap f1 f2 f3 f4 e1 e2 i1) 0 259 orderL = 4 ∧ cheapD (chap f1 f2 f3 f4 e1 e2 i1) 0 259 orderL = 0 ∧ cheapN (chap f1 f2 f3 f4 e1 e2 i1) 0 259 orderL = 0 := ⟨by kernel_rfl, by kernel_rfl, by kernel_rfl⟩
theorem k52 : lookErr (chap f1 f2 f3 f4 e1 e2 i1) 0 13 255 256 = 4 := by kernel_rfl
theorem k53 : sureErr (chap f1 f2 f3 f4 e1 e2 i1) 0 11 255 260 = 4 ∧ sureV (chap f1 f2 f3 f4 e1 e2 i1) 0 11 255 260 = 0 := ⟨by kernel_rfl, by kernel_rfl⟩
theorem k56 : meansErr (chap f1 f2 f3 f4 e1 e2 i1) 290 300 12 = 0 ∧ meansL (chap f1 f2 f3 f4 e1 e2 i1) 290 300 12 = [(1, 0)] := ⟨by kernel_rfl, by kernel_rfl⟩
theorem k57 : numErr (chap f1 f2 f3 f4 e1 e2 i1) 1 12 0 = 0 ∧ numV (chap f1 f2 f3 f4 e1 e2 i1) 1 12 0 = 11 := ⟨by kernel_rfl, by kernel_rfl⟩
theorem k59 : priceErr (chap f1 f2 f3 f4 e1 e2 i1) 301 ⟨0, 40, 0⟩ = 0 ∧ priceV (chap f1 f2 f3 f4 e1 e2 i1) 301 ⟨0, 40, 0⟩ = 980 := ⟨by kernel_rfl, by kernel_rfl⟩
theorem k60 : lastErr (chap f1 f2 f3 f4 e1 e2 i1) ⟨0, 40, 0⟩ = 0 ∧ lastV (chap f1 f2 f3 f4 e1 e2 i1) ⟨0, 40, 0⟩ = 450 := ⟨by kernel_rfl, by kernel_rfl⟩
theorem k61 : lookErr (chap f1 f2 f3 f4 e1 e2 i1) 0 11 259 270 = 0 ∧ lookL (fitsP 259 270) (chap f1 f2 f3 f4 e1 e2 i1) 0 11 259 270 = [41] := ⟨by kernel_rfl, by kernel_rfl⟩
theorem k62 : lookErr (chap f1 f2 f3 f4 e1 e2 i1) 0 11 100 200 = 0 ∧ lookL (fitsP 100 200) (chap f1 f2 f3 f4 e1 e2 i1) 0 11 100 200 = [] := ⟨by kernel_rfl, by kernel_rfl⟩
theorem k63 : sumErr (chap f1 f2 f3 f4 e1 e2 i1) 5 [] = 0 ∧ sumV (chap f1 f2 f3 f4 e1 e2 i1) 5 [] = 0 := ⟨by kernel_rfl, by kernel_rfl⟩
theorem k64 : sureErr (chap f1 f2 f3 f4 e1 e2 i1) 0 11 257 258 = 0 ∧ sureV (chap f1 f2 f3 f4 e1 e2 i1) 0 11 257 258 = 40 := ⟨by kernel_rfl, by kernel_rfl⟩
theorem k65 : cheapErr (chap f1 f2 f3 f4 e1 e2 i1) 7 9 [] = 0 ∧ cheapD (chap f1 f2 f3 f4 e1 e2 i1) 7 9 [] = 7 ∧ cheapN (chap f1 f2 f3 f4 e1 e2 i1) 7 9 [] = 0 := ⟨by kernel_rfl, by kernel_rfl, by kernel_rfl⟩
theorem k58 : twinsErr (chap f1 f2 f3 f4 e1 e2 i1) 200 = 0 ∧ twinsL (chap f1 f2 f3 f4 e1 e2 i1) 200 = [] := by
  refine ⟨by kernel_rfl, ?_⟩
  have h1 : twinsL (chap f1 f2 f3 f4 e1 e2 i1) 200 = Lib.compact (sorted []) := by kernel_rfl
  rw [h1, sorted_up (l := []) (by decide)]
  exact (show Lib.compact ([] : List Int) = [] from rfl)
end
theorem mk21 (w : World) : (Instr.makeSlice 75 (.int .i64 21) (.int .i64 21)).run Tryd.prog w = .ok (.slice (some ⟨w.heap.size, 0, none⟩) 21 21) (w.alloc (.cells (line21.map Line.cells).flatten.toArray 79)) := by
  obtain ⟨i0, hi, hy0, hy1, hy2⟩ := info_parts info_line0
  have := run_makeSlice (P := Tryd.prog) w 75 79 i0 _ Tryd.underlying75 hi hy0 .i64 .i64 21 21 (by omega) (by omega) (by rw [hy1]; decide) (by rw [hy2]; decide) (by decide)
  rw [hy1] at this
  rw [show madeCells (Value.agg #[vi 0, vi 0, vi 0, vi 0]).cells (Int.toNat 21 * 4) = (line21.map Line.cells).flatten.toArray from by kernel_rfl] at this
  exact this
end Go.Proofs.YtpcajmkmmkmekaaDoor
