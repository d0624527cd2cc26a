/- The parts of function 3 put together. Conditions: the variable of limits holds what the text lays. -/
import Derived.Test.YtnidhhcofhpbiafGreatDoorP3x0
import Derived.Test.YtnidhhcofhpbiafGreatDoorP3x1
import Derived.Test.YtnidhhcofhpbiafGreatDoorP3x2
import Derived.Test.YtnidhhcofhpbiafGreatDoorP3x3
namespace Go.Proofs.YtnidhhcofhpbiafGreatDoor
open Go Go.Proofs Go.Vm
theorem known3 : Known Tryz.prog 3 vmH := by
  have hd : ∀ f, f ∈ ([17] : List FuncId) → Known Tryz.prog f vmH := fun f hf => by simp at hf; subst hf; exact known17
  exact ⟨by kernel_rfl, fun F w hF hs hl => run_parts hF Tryz.func3 hb3 hs hl (seg hF (draw_ok mixed) (execK_ok (draw_ok mixed) hd 200) (by decide) (by decide) (by kernel_rfl) (by kernel_rfl) (by kernel_rfl) run3_0 (seg hF (draw_ok mixed) (execK_ok (draw_ok mixed) hd 200) (by decide) (by decide) (by kernel_rfl) (by kernel_rfl) (by kernel_rfl) run3_1 (seg hF (draw_ok mixed) (execK_ok (draw_ok mixed) hd 200) (by decide) (by decide) (by kernel_rfl) (by kernel_rfl) (by kernel_rfl) run3_2 (seg_end hF (draw_ok mixed) (execK_ok (draw_ok mixed) hd 200) (by decide) (by decide) (by kernel_rfl) run3_3))))⟩
end Go.Proofs.YtnidhhcofhpbiafGreatDoor
