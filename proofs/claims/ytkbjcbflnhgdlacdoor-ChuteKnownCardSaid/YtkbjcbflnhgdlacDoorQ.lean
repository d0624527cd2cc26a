/- The parts of the run put together. Conditions: none. -/
import Derived.Test.YtkbjcbflnhgdlacDoorR0
import Derived.Test.YtkbjcbflnhgdlacDoorR1
import Derived.Test.YtkbjcbflnhgdlacDoorR2
import Derived.Test.YtkbjcbflnhgdlacDoorR3
import Derived.Test.YtkbjcbflnhgdlacDoorR4
import Derived.Test.YtkbjcbflnhgdlacDoorR5
import Derived.Test.YtkbjcbflnhgdlacDoorR6
import Derived.Test.YtkbjcbflnhgdlacDoorR7
import Derived.Test.YtkbjcbflnhgdlacDoorR8
import Derived.Test.YtkbjcbflnhgdlacDoorR9
import Derived.Test.YtkbjcbflnhgdlacDoorR10
import Derived.Test.YtkbjcbflnhgdlacDoorR11
import Derived.Test.YtkbjcbflnhgdlacDoorR12
import Derived.Test.YtkbjcbflnhgdlacDoorR13
import Derived.Test.YtkbjcbflnhgdlacDoorR14
import Derived.Test.YtkbjcbflnhgdlacDoorR15
import Derived.Test.YtkbjcbflnhgdlacDoorR16
import Derived.Test.YtkbjcbflnhgdlacDoorR17
import Derived.Test.YtkbjcbflnhgdlacDoorR18
namespace Go.Proofs.YtkbjcbflnhgdlacDoor
open Go Go.Proofs Go.Vm
section
variable {F : Fence} {w : World} {Q : Exit → Act → World → Prop}
theorem part0 (hF : Wd F.plain) (hB : Base.Ok ⟨R00, vmH, NG, w⟩) (hb : Bare ⟨R00, vmH, NG, w⟩ NG) (h : ∀ x v, AtH ⟨R00, vmH, NG, w⟩ F.plain 61 551 l1 r1 n1 x v → c15.wpIn F.plain 0 Tryd.prog Q x v) : ∀ x v, AtH ⟨R00, vmH, NG, w⟩ F.plain 61 551 l0 r0 n0 x v → c0.wpIn F.plain 0 Tryd.prog Q x v :=
  segH hB hb hF (draw_ok mixed) (execC_ok (draw_ok mixed) bare none_done (okAll_nil) 200) (by kernel_rfl) run0 h
theorem part1 (hF : Wd F.plain) (hB : Base.Ok ⟨R00, vmH, NG, w⟩) (hb : Bare ⟨R00, vmH, NG, w⟩ NG) (h : ∀ x v, AtH ⟨R00, vmH, NG, w⟩ F.plain 61 551 l12 r12 n12 x v → c16.wpIn F.plain 0 Tryd.prog Q x v) : ∀ x v, AtH ⟨R00, vmH, NG, w⟩ F.plain 61 551 l1 r1 n1 x v → c15.wpIn F.plain 0 Tryd.prog Q x v :=
  seq_in hc15 (segH hB hb hF (draw_ok mixed) (execC_ok (draw_ok mixed) bare none_done (okAll_nil) 200) (by kernel_rfl) run1 (loop_in hb15 (fun _ hq => rnds hB hb hF (draw_ok mixed) (execC_ok (draw_ok mixed) bare none_done (okAll_nil) 200) run2 (rnds hB hb hF (draw_ok mixed) (execC_ok (draw_ok mixed) bare none_done (okAll_nil) 200) run3 (rnds hB hb hF (draw_ok mixed) (execC_ok (draw_ok mixed) bare none_done (okAll_nil) 200) run4 (rnds hB hb hF (draw_ok mixed) (execC_ok (draw_ok mixed) bare none_done (okAll_nil) 200) run5 (rnds hB hb hF (draw_ok mixed) (execC_ok (draw_ok mixed) bare none_done (okAll_nil) 200) run6 (rnds hB hb hF (draw_ok mixed) (execC_ok (draw_ok mixed) bare none_done (okAll_nil) 200) run7 (rnds hB hb hF (draw_ok mixed) (execC_ok (draw_ok mixed) bare none_done (okAll_nil) 200) run8 (rnds hB hb hF (draw_ok mixed) (execC_ok (draw_ok mixed) bare none_done (okAll_nil) 200) run9 (rnds hB hb hF (draw_ok mixed) (execC_ok (draw_ok mixed) bare none_done (okAll_nil) 200) run10 (outs hB hb hF (draw_ok mixed) (execC_ok (draw_ok mixed) bare none_done (okAll_nil) 200) run11 hq)))))))))) h))
theorem part12 (hF : Wd F.plain) (hB : Base.Ok ⟨R00, vmH, NG, w⟩) (hb : Bare ⟨R00, vmH, NG, w⟩ NG) (h : ∀ x v, AtH ⟨R00, vmH, NG, w⟩ F.plain 61 551 l13 r13 n13 x v → c17.wpIn F.plain 0 Tryd.prog Q x v) : ∀ x v, AtH ⟨R00, vmH, NG, w⟩ F.plain 61 551 l12 r12 n12 x v → c16.wpIn F.plain 0 Tryd.prog Q x v :=
  segH hB hb hF (draw_ok mixed) (execC_ok (draw_ok mixed) bare none_done (okAll_nil) 200) (by kernel_rfl) run12 h
theorem part13 (hF : Wd F.plain) (hB : Base.Ok ⟨R00, vmH, NG, w⟩) (hb : Bare ⟨R00, vmH, NG, w⟩ NG) (h : ∀ x v, AtH ⟨R00, vmH, NG, w⟩ F.plain 61 551 l18 r18 n18 x v → c18.wpIn F.plain 0 Tryd.prog Q x v) : ∀ x v, AtH ⟨R00, vmH, NG, w⟩ F.plain 61 551 l13 r13 n13 x v → c17.wpIn F.plain 0 Tryd.prog Q x v :=
  seq_in hc17 (segH hB hb hF (draw_ok mixed) (execC_ok (draw_ok mixed) bare none_done (okAll_nil) 200) (by kernel_rfl) run13 (loop_in hb17 (fun _ hq => rnds hB hb hF (draw_ok mixed) (execC_ok (draw_ok mixed) bare none_done (okAll_nil) 200) run14 (rnds hB hb hF (draw_ok mixed) (execC_ok (draw_ok mixed) bare none_done (okAll_nil) 200) run15 (rnds hB hb hF (draw_ok mixed) (execC_ok (draw_ok mixed) bare none_done (okAll_nil) 200) run16 (outs hB hb hF (draw_ok mixed) (execC_ok (draw_ok mixed) bare none_done (okAll_nil) 200) run17 hq)))) h))
theorem part18 (hF : Wd F.plain) (hB : Base.Ok ⟨R00, vmH, NG, w⟩) (hb : Bare ⟨R00, vmH, NG, w⟩ NG) (h : ∀ x v, AtH ⟨R00, vmH, NG, w⟩ F.plain 61 551 l19 r19 n19 x v → c29.wpIn F.plain 0 Tryd.prog Q x v) : ∀ x v, AtH ⟨R00, vmH, NG, w⟩ F.plain 61 551 l18 r18 n18 x v → c18.wpIn F.plain 0 Tryd.prog Q x v :=
  segH hB hb hF (draw_ok mixed) (execC_ok (draw_ok mixed) bare none_done (okAll_nil) 200) (by kernel_rfl) run18 h
theorem part19 (hF : Wd F.plain) (hB : Base.Ok ⟨R00, vmH, NG, w⟩) (hb : Bare ⟨R00, vmH, NG, w⟩ NG) (h : ∀ x v, AtH ⟨R00, vmH, NG, w⟩ F.plain 61 551 l20 r20 n20 x v → c34.wpIn F.plain 0 Tryd.prog Q x v) : ∀ x v, AtH ⟨R00, vmH, NG, w⟩ F.plain 61 551 l19 r19 n19 x v → c29.wpIn F.plain 0 Tryd.prog Q x v :=
  segH hB hb hF (draw_ok mixed) (execC_ok (draw_ok mixed) bare none_done (okAll_nil) 200) (by kernel_rfl) run19 h
theorem part20 (hF : Wd F.plain) (hB : Base.Ok ⟨R00, vmH, NG, w⟩) (hb : Bare ⟨R00, vmH, NG, w⟩ NG) (h : ∀ x v, AtH ⟨R00, vmH, NG, w⟩ F.plain 61 551 l21 r21 n21 x v → c39.wpIn F.plain 0 Tryd.prog Q x v) : ∀ x v, AtH ⟨R00, vmH, NG, w⟩ F.plain 61 551 l20 r20 n20 x v → c34.wpIn F.plain 0 Tryd.prog Q x v :=
  segH hB hb hF (draw_ok mixed) (execC_ok (draw_ok mixed) bare none_done (okAll_nil) 200) (by kernel_rfl) run20 h
theorem part21 (hF : Wd F.plain) (hB : Base.Ok ⟨R00, vmH, NG, w⟩) (hb : Bare ⟨R00, vmH, NG, w⟩ NG) (h : ∀ x v, AtH ⟨R00, vmH, NG, w⟩ F.plain 61 551 l22 r22 n22 x v → c40.wpIn F.plain 0 Tryd.prog Q x v) : ∀ x v, AtH ⟨R00, vmH, NG, w⟩ F.plain 61 551 l21 r21 n21 x v → c39.wpIn F.plain 0 Tryd.prog Q x v :=
  segH hB hb hF (draw_ok mixed) (execC_ok (draw_ok mixed) bare none_done (okAll_nil) 200) (by kernel_rfl) run21 h
end
theorem knownF : Known Tryd.prog 3 vmH :=
  known_parts (by decide) (nv := 61) (by decide) Tryd.func3 hbF (by kernel_rfl) bare fun F w hF hB hb a hat => (part0 hF hB hb (part1 hF hB hb (part12 hF hB hb (part13 hF hB hb (part18 hF hB hb (part19 hF hB hb (part20 hF hB hb (part21 hF hB hb (endH (fn := Tryd.f3) hB hb hF (draw_ok mixed) (execC_ok (draw_ok mixed) bare none_done (okAll_cons ok0 (okAll_cons ok1 (okAll_cons ok4 (okAll_cons ok3 (okAll_cons ok2 (okAll_nil)))))) 200) run22))))))))) a w hat
end Go.Proofs.YtkbjcbflnhgdlacDoor
