/- The parts of function 17 put together. Conditions: the variable of limits holds what the text lays. -/
import Derived.Test.YtnidhhcofhpbiafGreatDoorP17x0
import Derived.Test.YtnidhhcofhpbiafGreatDoorP17x1
namespace Go.Proofs.YtnidhhcofhpbiafGreatDoor
open Go Go.Proofs Go.Vm
theorem known17 : Known Tryz.prog 17 vmH := by
  have hd : ∀ f, f ∈ ([] : List FuncId) → Known Tryz.prog f vmH := fun f hf => by simp at hf
  exact ⟨by kernel_rfl, fun F w hF hs hl => run_parts hF Tryz.func17 hb17 hs hl (seg hF (draw_ok mixed) (execK_ok (draw_ok mixed) hd 200) (by decide) (by decide) (by kernel_rfl) (by kernel_rfl) (by kernel_rfl) run17_0 (seg_end hF (draw_ok mixed) (execK_ok (draw_ok mixed) hd 200) (by decide) (by decide) (by kernel_rfl) run17_1))⟩
end Go.Proofs.YtnidhhcofhpbiafGreatDoor
