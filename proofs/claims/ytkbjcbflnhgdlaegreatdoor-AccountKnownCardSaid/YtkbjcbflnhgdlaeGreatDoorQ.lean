/- The parts of the run put together. Conditions: none. -/
import Derived.Test.YtkbjcbflnhgdlaeGreatDoorK0
import Derived.Test.YtkbjcbflnhgdlaeGreatDoorK1
import Derived.Test.YtkbjcbflnhgdlaeGreatDoorK2
import Derived.Test.YtkbjcbflnhgdlaeGreatDoorK3
import Derived.Test.YtkbjcbflnhgdlaeGreatDoorK4
import Derived.Test.YtkbjcbflnhgdlaeGreatDoorK5
import Derived.Test.YtkbjcbflnhgdlaeGreatDoorK6
import Derived.Test.YtkbjcbflnhgdlaeGreatDoorK7
import Derived.Test.YtkbjcbflnhgdlaeGreatDoorK8
import Derived.Test.YtkbjcbflnhgdlaeGreatDoorK9
import Derived.Test.YtkbjcbflnhgdlaeGreatDoorK10
import Derived.Test.YtkbjcbflnhgdlaeGreatDoorK11
import Derived.Test.YtkbjcbflnhgdlaeGreatDoorK12
import Derived.Test.YtkbjcbflnhgdlaeGreatDoorK13
import Derived.Test.YtkbjcbflnhgdlaeGreatDoorK14
import Derived.Test.YtkbjcbflnhgdlaeGreatDoorK15
import Derived.Test.YtkbjcbflnhgdlaeGreatDoorR0
import Derived.Test.YtkbjcbflnhgdlaeGreatDoorR1
import Derived.Test.YtkbjcbflnhgdlaeGreatDoorR2
import Derived.Test.YtkbjcbflnhgdlaeGreatDoorR3
import Derived.Test.YtkbjcbflnhgdlaeGreatDoorR4
import Derived.Test.YtkbjcbflnhgdlaeGreatDoorR5
import Derived.Test.YtkbjcbflnhgdlaeGreatDoorR6
import Derived.Test.YtkbjcbflnhgdlaeGreatDoorR7
import Derived.Test.YtkbjcbflnhgdlaeGreatDoorR8
import Derived.Test.YtkbjcbflnhgdlaeGreatDoorR9
import Derived.Test.YtkbjcbflnhgdlaeGreatDoorR10
import Derived.Test.YtkbjcbflnhgdlaeGreatDoorR11
import Derived.Test.YtkbjcbflnhgdlaeGreatDoorR12
import Derived.Test.YtkbjcbflnhgdlaeGreatDoorR13
import Derived.Test.YtkbjcbflnhgdlaeGreatDoorR14
import Derived.Test.YtkbjcbflnhgdlaeGreatDoorR15
import Derived.Test.YtkbjcbflnhgdlaeGreatDoorR16
import Derived.Test.YtkbjcbflnhgdlaeGreatDoorR17
import Derived.Test.YtkbjcbflnhgdlaeGreatDoorR18
import Derived.Test.YtkbjcbflnhgdlaeGreatDoorR19
import Derived.Test.YtkbjcbflnhgdlaeGreatDoorR20
namespace Go.Proofs.YtkbjcbflnhgdlaeGreatDoor
open Go Go.Proofs Go.Vm
section
variable {F : Fence} {w : World} {Q : Exit → Act → World → Prop}
theorem part0 (hF : Wd F.plain) (hB : Base.Ok ⟨R00, vmH, NG, w⟩) (hb : Bare ⟨R00, vmH, NG, w⟩ NG) (h : ∀ x v, AtH ⟨R00, vmH, NG, w⟩ F.plain 50 511 l1 r1 n1 x v → c6.wpIn F.plain 0 Tryz.prog Q x v) : ∀ x v, AtH ⟨R00, vmH, NG, w⟩ F.plain 50 511 l0 r0 n0 x v → c0.wpIn F.plain 0 Tryz.prog Q x v :=
  segH hB hb hF (draw_ok mixed) (execC_ok (draw_ok mixed) bare none_done (okAll_nil) 200) (by kernel_rfl) run0 h
theorem part1 (hF : Wd F.plain) (hB : Base.Ok ⟨R00, vmH, NG, w⟩) (hb : Bare ⟨R00, vmH, NG, w⟩ NG) (h : ∀ x v, AtH ⟨R00, vmH, NG, w⟩ F.plain 50 511 l16 r16 n16 x v → c7.wpIn F.plain 0 Tryz.prog Q x v) : ∀ x v, AtH ⟨R00, vmH, NG, w⟩ F.plain 50 511 l1 r1 n1 x v → c6.wpIn F.plain 0 Tryz.prog Q x v :=
  seq_in hc6 (segH hB hb hF (draw_ok mixed) (execC_ok (draw_ok mixed) bare none_done (okAll_nil) 200) (by kernel_rfl) run1 (loop_in hb6 (fun _ hq => rnds hB hb hF (draw_ok mixed) (execC_ok (draw_ok mixed) bare none_done (okAll_nil) 200) run2 (rnds hB hb hF (draw_ok mixed) (execC_ok (draw_ok mixed) bare none_done (okAll_nil) 200) run3 (rnds hB hb hF (draw_ok mixed) (execC_ok (draw_ok mixed) bare none_done (okAll_nil) 200) run4 (rnds hB hb hF (draw_ok mixed) (execC_ok (draw_ok mixed) bare none_done (okAll_cons ok0 (okAll_nil)) 200) run5 (rnds hB hb hF (draw_ok mixed) (execC_ok (draw_ok mixed) bare none_done (okAll_nil) 200) run6 (rnds hB hb hF (draw_ok mixed) (execC_ok (draw_ok mixed) bare none_done (okAll_nil) 200) run7 (rnds hB hb hF (draw_ok mixed) (execC_ok (draw_ok mixed) bare none_done (okAll_nil) 200) run8 (rnds hB hb hF (draw_ok mixed) (execC_ok (draw_ok mixed) bare none_done (okAll_nil) 200) run9 (rnds hB hb hF (draw_ok mixed) (execC_ok (draw_ok mixed) bare none_done (okAll_nil) 200) run10 (rnds hB hb hF (draw_ok mixed) (execC_ok (draw_ok mixed) bare none_done (okAll_nil) 200) run11 (rnds hB hb hF (draw_ok mixed) (execC_ok (draw_ok mixed) bare none_done (okAll_nil) 200) run12 (rnds hB hb hF (draw_ok mixed) (execC_ok (draw_ok mixed) bare none_done (okAll_nil) 200) run13 (rnds hB hb hF (draw_ok mixed) (execC_ok (draw_ok mixed) bare none_done (okAll_nil) 200) run14 (outs hB hb hF (draw_ok mixed) (execC_ok (draw_ok mixed) bare none_done (okAll_nil) 200) run15 hq)))))))))))))) h))
theorem part16 (hF : Wd F.plain) (hB : Base.Ok ⟨R00, vmH, NG, w⟩) (hb : Bare ⟨R00, vmH, NG, w⟩ NG) (h : ∀ x v, AtH ⟨R00, vmH, NG, w⟩ F.plain 50 511 l17 r17 n17 x v → c19.wpIn F.plain 0 Tryz.prog Q x v) : ∀ x v, AtH ⟨R00, vmH, NG, w⟩ F.plain 50 511 l16 r16 n16 x v → c7.wpIn F.plain 0 Tryz.prog Q x v :=
  segH hB hb hF (draw_ok mixed) (execC_ok (draw_ok mixed) bare none_done (okAll_nil) 200) (by kernel_rfl) run16 h
theorem part17 (hF : Wd F.plain) (hB : Base.Ok ⟨R00, vmH, NG, w⟩) (hb : Bare ⟨R00, vmH, NG, w⟩ NG) (h : ∀ x v, AtH ⟨R00, vmH, NG, w⟩ F.plain 50 511 l18 r18 n18 x v → c23.wpIn F.plain 0 Tryz.prog Q x v) : ∀ x v, AtH ⟨R00, vmH, NG, w⟩ F.plain 50 511 l17 r17 n17 x v → c19.wpIn F.plain 0 Tryz.prog Q x v :=
  segH hB hb hF (draw_ok mixed) (execC_ok (draw_ok mixed) bare none_done (okAll_nil) 200) (by kernel_rfl) run17 h
theorem part18 (hF : Wd F.plain) (hB : Base.Ok ⟨R00, vmH, NG, w⟩) (hb : Bare ⟨R00, vmH, NG, w⟩ NG) (h : ∀ x v, AtH ⟨R00, vmH, NG, w⟩ F.plain 50 511 l19 r19 n19 x v → c25.wpIn F.plain 0 Tryz.prog Q x v) : ∀ x v, AtH ⟨R00, vmH, NG, w⟩ F.plain 50 511 l18 r18 n18 x v → c23.wpIn F.plain 0 Tryz.prog Q x v :=
  segH hB hb hF (draw_ok mixed) (execC_ok (draw_ok mixed) bare none_done (okAll_cons ok3 (okAll_cons ok2 (okAll_cons ok1 (okAll_cons ok6 (okAll_cons ok5 (okAll_cons ok4 (okAll_cons ok15 (okAll_cons ok10 (okAll_cons ok9 (okAll_cons ok14 (okAll_cons ok12 (okAll_cons ok8 (okAll_cons ok13 (okAll_cons ok11 (okAll_cons ok7 (okAll_cons ok17 (okAll_cons ok16 (okAll_nil)))))))))))))))))) 200) (by kernel_rfl) run18 h
theorem part19 (hF : Wd F.plain) (hB : Base.Ok ⟨R00, vmH, NG, w⟩) (hb : Bare ⟨R00, vmH, NG, w⟩ NG) (h : ∀ x v, AtH ⟨R00, vmH, NG, w⟩ F.plain 50 511 l20 r20 n20 x v → c26.wpIn F.plain 0 Tryz.prog Q x v) : ∀ x v, AtH ⟨R00, vmH, NG, w⟩ F.plain 50 511 l19 r19 n19 x v → c25.wpIn F.plain 0 Tryz.prog Q x v :=
  segH hB hb hF (draw_ok mixed) (execC_ok (draw_ok mixed) bare none_done (okAll_cons ok20 (okAll_cons ok19 (okAll_cons ok18 (okAll_cons ok23 (okAll_cons ok22 (okAll_cons ok21 (okAll_nil))))))) 200) (by kernel_rfl) run19 h
theorem part20 (hF : Wd F.plain) (hB : Base.Ok ⟨R00, vmH, NG, w⟩) (hb : Bare ⟨R00, vmH, NG, w⟩ NG) (h : ∀ x v, AtH ⟨R00, vmH, NG, w⟩ F.plain 50 511 l21 r21 n21 x v → c28.wpIn F.plain 0 Tryz.prog Q x v) : ∀ x v, AtH ⟨R00, vmH, NG, w⟩ F.plain 50 511 l20 r20 n20 x v → c26.wpIn F.plain 0 Tryz.prog Q x v :=
  segH hB hb hF (draw_ok mixed) (execC_ok (draw_ok mixed) bare none_done (okAll_cons ok35 (okAll_nil)) 200) (by kernel_rfl) run20 h
theorem part21 (hF : Wd F.plain) (hB : Base.Ok ⟨R00, vmH, NG, w⟩) (hb : Bare ⟨R00, vmH, NG, w⟩ NG) (h : ∀ x v, AtH ⟨R00, vmH, NG, w⟩ F.plain 50 511 l22 r22 n22 x v → c29.wpIn F.plain 0 Tryz.prog Q x v) : ∀ x v, AtH ⟨R00, vmH, NG, w⟩ F.plain 50 511 l21 r21 n21 x v → c28.wpIn F.plain 0 Tryz.prog Q x v :=
  segH hB hb hF (draw_ok mixed) (execC_ok (draw_ok mixed) bare none_done (okAll_cons ok47 (okAll_cons ok46 (okAll_cons ok45 (okAll_cons ok44 (okAll_cons ok43 (okAll_cons ok42 (okAll_cons ok41 (okAll_cons ok40 (okAll_cons ok39 (okAll_cons ok38 (okAll_cons ok37 (okAll_cons ok36 (okAll_nil))))))))))))) 200) (by kernel_rfl) run21 h
theorem part22 (hF : Wd F.plain) (hB : Base.Ok ⟨R00, vmH, NG, w⟩) (hb : Bare ⟨R00, vmH, NG, w⟩ NG) (h : ∀ x v, AtH ⟨R00, vmH, NG, w⟩ F.plain 50 511 l23 r23 n23 x v → c33.wpIn F.plain 0 Tryz.prog Q x v) : ∀ x v, AtH ⟨R00, vmH, NG, w⟩ F.plain 50 511 l22 r22 n22 x v → c29.wpIn F.plain 0 Tryz.prog Q x v :=
  segH hB hb hF (draw_ok mixed) (execC_ok (draw_ok mixed) bare none_done (okAll_nil) 200) (by kernel_rfl) run22 h
end
theorem knownF : Known Tryz.prog 3 vmH :=
  known_parts (by decide) (nv := 50) (by decide) Tryz.func3 hbF (by kernel_rfl) bare fun F w hF hB hb a hat => (part0 hF hB hb (part1 hF hB hb (part16 hF hB hb (part17 hF hB hb (part18 hF hB hb (part19 hF hB hb (part20 hF hB hb (part21 hF hB hb (part22 hF hB hb (endH (fn := Tryz.f3) hB hb hF (draw_ok mixed) (execC_ok (draw_ok mixed) bare none_done (okAll_cons ok48 (okAll_cons ok62 (okAll_cons ok49 (okAll_cons ok51 (okAll_cons ok50 (okAll_nil)))))) 200) run23)))))))))) a w hat
end Go.Proofs.YtkbjcbflnhgdlaeGreatDoor
