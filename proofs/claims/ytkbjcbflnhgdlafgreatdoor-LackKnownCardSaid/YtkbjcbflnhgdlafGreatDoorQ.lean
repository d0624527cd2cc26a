/- The parts of the run put together. Conditions: none. -/
import Derived.Test.YtkbjcbflnhgdlafGreatDoorK0
import Derived.Test.YtkbjcbflnhgdlafGreatDoorK1
import Derived.Test.YtkbjcbflnhgdlafGreatDoorK2
import Derived.Test.YtkbjcbflnhgdlafGreatDoorK3
import Derived.Test.YtkbjcbflnhgdlafGreatDoorK4
import Derived.Test.YtkbjcbflnhgdlafGreatDoorK5
import Derived.Test.YtkbjcbflnhgdlafGreatDoorK6
import Derived.Test.YtkbjcbflnhgdlafGreatDoorK7
import Derived.Test.YtkbjcbflnhgdlafGreatDoorK8
import Derived.Test.YtkbjcbflnhgdlafGreatDoorK9
import Derived.Test.YtkbjcbflnhgdlafGreatDoorK10
import Derived.Test.YtkbjcbflnhgdlafGreatDoorK11
import Derived.Test.YtkbjcbflnhgdlafGreatDoorK12
import Derived.Test.YtkbjcbflnhgdlafGreatDoorK13
import Derived.Test.YtkbjcbflnhgdlafGreatDoorK14
import Derived.Test.YtkbjcbflnhgdlafGreatDoorK15
import Derived.Test.YtkbjcbflnhgdlafGreatDoorK16
import Derived.Test.YtkbjcbflnhgdlafGreatDoorK17
import Derived.Test.YtkbjcbflnhgdlafGreatDoorK18
import Derived.Test.YtkbjcbflnhgdlafGreatDoorK19
import Derived.Test.YtkbjcbflnhgdlafGreatDoorK20
import Derived.Test.YtkbjcbflnhgdlafGreatDoorK21
import Derived.Test.YtkbjcbflnhgdlafGreatDoorK22
import Derived.Test.YtkbjcbflnhgdlafGreatDoorK23
import Derived.Test.YtkbjcbflnhgdlafGreatDoorR0
import Derived.Test.YtkbjcbflnhgdlafGreatDoorR1
import Derived.Test.YtkbjcbflnhgdlafGreatDoorR2
import Derived.Test.YtkbjcbflnhgdlafGreatDoorR3
import Derived.Test.YtkbjcbflnhgdlafGreatDoorR4
import Derived.Test.YtkbjcbflnhgdlafGreatDoorR5
import Derived.Test.YtkbjcbflnhgdlafGreatDoorR6
import Derived.Test.YtkbjcbflnhgdlafGreatDoorR7
import Derived.Test.YtkbjcbflnhgdlafGreatDoorR8
namespace Go.Proofs.YtkbjcbflnhgdlafGreatDoor
open Go Go.Proofs Go.Vm
section
variable {F : Fence} {w : World} {Q : Exit → Act → World → Prop}
theorem part0 (hF : Wd F.plain) (hB : Base.Ok ⟨R00, vmH, NG, w⟩) (hb : Bare ⟨R00, vmH, NG, w⟩ NG) (h : ∀ x v, AtH ⟨R00, vmH, NG, w⟩ F.plain 50 483 l1 r1 n1 x v → c13.wpIn F.plain 0 Tryz.prog Q x v) : ∀ x v, AtH ⟨R00, vmH, NG, w⟩ F.plain 50 483 l0 r0 n0 x v → c0.wpIn F.plain 0 Tryz.prog Q x v :=
  segH hB hb hF (draw_ok mixed) (execC_ok (draw_ok mixed) bare none_done (okAll_nil) 200) (by kernel_rfl) run0 h
theorem part1 (hF : Wd F.plain) (hB : Base.Ok ⟨R00, vmH, NG, w⟩) (hb : Bare ⟨R00, vmH, NG, w⟩ NG) (h : ∀ x v, AtH ⟨R00, vmH, NG, w⟩ F.plain 50 483 l5 r5 n5 x v → c14.wpIn F.plain 0 Tryz.prog Q x v) : ∀ x v, AtH ⟨R00, vmH, NG, w⟩ F.plain 50 483 l1 r1 n1 x v → c13.wpIn F.plain 0 Tryz.prog Q x v :=
  seq_in hc13 (segH hB hb hF (draw_ok mixed) (execC_ok (draw_ok mixed) bare none_done (okAll_nil) 200) (by kernel_rfl) run1 (loop_in hb13 (fun _ hq => rnds hB hb hF (draw_ok mixed) (execC_ok (draw_ok mixed) bare none_done (okAll_nil) 200) run2 (rnds hB hb hF (draw_ok mixed) (execC_ok (draw_ok mixed) bare none_done (okAll_nil) 200) run3 (outs hB hb hF (draw_ok mixed) (execC_ok (draw_ok mixed) bare none_done (okAll_nil) 200) run4 hq))) h))
theorem part5 (hF : Wd F.plain) (hB : Base.Ok ⟨R00, vmH, NG, w⟩) (hb : Bare ⟨R00, vmH, NG, w⟩ NG) (h : ∀ x v, AtH ⟨R00, vmH, NG, w⟩ F.plain 50 483 l6 r6 n6 x v → c26.wpIn F.plain 0 Tryz.prog Q x v) : ∀ x v, AtH ⟨R00, vmH, NG, w⟩ F.plain 50 483 l5 r5 n5 x v → c14.wpIn F.plain 0 Tryz.prog Q x v :=
  segH hB hb hF (draw_ok mixed) (execC_ok (draw_ok mixed) bare none_done (okAll_nil) 200) (by kernel_rfl) run5 h
theorem part6 (hF : Wd F.plain) (hB : Base.Ok ⟨R00, vmH, NG, w⟩) (hb : Bare ⟨R00, vmH, NG, w⟩ NG) (h : ∀ x v, AtH ⟨R00, vmH, NG, w⟩ F.plain 50 483 l7 r7 n7 x v → c27.wpIn F.plain 0 Tryz.prog Q x v) : ∀ x v, AtH ⟨R00, vmH, NG, w⟩ F.plain 50 483 l6 r6 n6 x v → c26.wpIn F.plain 0 Tryz.prog Q x v :=
  segH hB hb hF (draw_ok mixed) (execC_ok (draw_ok mixed) bare none_done (okAll_nil) 200) (by kernel_rfl) run6 h
theorem part7 (hF : Wd F.plain) (hB : Base.Ok ⟨R00, vmH, NG, w⟩) (hb : Bare ⟨R00, vmH, NG, w⟩ NG) (h : ∀ x v, AtH ⟨R00, vmH, NG, w⟩ F.plain 50 483 l8 r8 n8 x v → c31.wpIn F.plain 0 Tryz.prog Q x v) : ∀ x v, AtH ⟨R00, vmH, NG, w⟩ F.plain 50 483 l7 r7 n7 x v → c27.wpIn F.plain 0 Tryz.prog Q x v :=
  segH hB hb hF (draw_ok mixed) (execC_ok (draw_ok mixed) bare none_done (okAll_nil) 200) (by kernel_rfl) run7 h
theorem part8 (hF : Wd F.plain) (hB : Base.Ok ⟨R00, vmH, NG, w⟩) (hb : Bare ⟨R00, vmH, NG, w⟩ NG) (h : ∀ x v, AtH ⟨R00, vmH, NG, w⟩ F.plain 50 483 l9 r9 n9 x v → c32.wpIn F.plain 0 Tryz.prog Q x v) : ∀ x v, AtH ⟨R00, vmH, NG, w⟩ F.plain 50 483 l8 r8 n8 x v → c31.wpIn F.plain 0 Tryz.prog Q x v :=
  segH hB hb hF (draw_ok mixed) (execC_ok (draw_ok mixed) bare none_done (okAll_nil) 200) (by kernel_rfl) run8 h
theorem part9 (hF : Wd F.plain) (hB : Base.Ok ⟨R00, vmH, NG, w⟩) (hb : Bare ⟨R00, vmH, NG, w⟩ NG) (h : ∀ x v, AtH ⟨R00, vmH, NG, w⟩ F.plain 50 483 l10 r10 n10 x v → c35.wpIn F.plain 0 Tryz.prog Q x v) : ∀ x v, AtH ⟨R00, vmH, NG, w⟩ F.plain 50 483 l9 r9 n9 x v → c32.wpIn F.plain 0 Tryz.prog Q x v :=
  segH hB hb hF (draw_ok mixed) (execC_ok (draw_ok mixed) bare none_done (okAll_cons ok155 (okAll_cons ok80 (okAll_cons ok79 (okAll_cons ok81 (okAll_cons ok83 (okAll_cons ok78 (okAll_cons ok1 (okAll_cons ok0 (okAll_cons ok2 (okAll_cons ok4 (okAll_nil))))))))))) 200) (by kernel_rfl) run9 h
theorem part10 (hF : Wd F.plain) (hB : Base.Ok ⟨R00, vmH, NG, w⟩) (hb : Bare ⟨R00, vmH, NG, w⟩ NG) (h : ∀ x v, AtH ⟨R00, vmH, NG, w⟩ F.plain 50 483 l11 r11 n11 x v → c36.wpIn F.plain 0 Tryz.prog Q x v) : ∀ x v, AtH ⟨R00, vmH, NG, w⟩ F.plain 50 483 l10 r10 n10 x v → c35.wpIn F.plain 0 Tryz.prog Q x v :=
  segH hB hb hF (draw_ok mixed) (execC_ok (draw_ok mixed) bare none_done (okAll_nil) 200) (by kernel_rfl) run10 h
theorem part11 (hF : Wd F.plain) (hB : Base.Ok ⟨R00, vmH, NG, w⟩) (hb : Bare ⟨R00, vmH, NG, w⟩ NG) (h : ∀ x v, AtH ⟨R00, vmH, NG, w⟩ F.plain 50 483 l12 r12 n12 x v → c40.wpIn F.plain 0 Tryz.prog Q x v) : ∀ x v, AtH ⟨R00, vmH, NG, w⟩ F.plain 50 483 l11 r11 n11 x v → c36.wpIn F.plain 0 Tryz.prog Q x v :=
  segH hB hb hF (draw_ok mixed) (execC_ok (draw_ok mixed) bare none_done (okAll_nil) 200) (by kernel_rfl) run11 h
end
theorem knownF : Known Tryz.prog 3 vmH :=
  known_parts (by decide) (nv := 50) (by decide) Tryz.func3 hbF (by kernel_rfl) bare fun F w hF hB hb a hat => (part0 hF hB hb (part1 hF hB hb (part5 hF hB hb (part6 hF hB hb (part7 hF hB hb (part8 hF hB hb (part9 hF hB hb (part10 hF hB hb (part11 hF hB hb (endH (fn := Tryz.f3) hB hb hF (draw_ok mixed) (execC_ok (draw_ok mixed) bare none_done (okAll_cons ok184 (okAll_cons ok185 (okAll_cons ok170 (okAll_cons ok163 (okAll_cons ok176 (okAll_cons ok183 (okAll_cons ok241 (okAll_cons ok169 (okAll_cons ok162 (okAll_cons ok175 (okAll_cons ok182 (okAll_cons ok156 (okAll_cons ok157 (okAll_cons ok168 (okAll_cons ok161 (okAll_cons ok174 (okAll_cons ok181 (okAll_cons ok167 (okAll_cons ok160 (okAll_cons ok173 (okAll_cons ok180 (okAll_cons ok166 (okAll_cons ok159 (okAll_cons ok172 (okAll_cons ok179 (okAll_cons ok165 (okAll_cons ok158 (okAll_cons ok171 (okAll_cons ok178 (okAll_cons ok164 (okAll_nil))))))))))))))))))))))))))))))) 200) run12)))))))))) a w hat
end Go.Proofs.YtkbjcbflnhgdlafGreatDoor
