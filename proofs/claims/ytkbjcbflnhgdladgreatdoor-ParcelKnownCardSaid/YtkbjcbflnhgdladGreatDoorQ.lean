/- The parts of the run put together. Conditions: none. -/
import Derived.Test.YtkbjcbflnhgdladGreatDoorK0
import Derived.Test.YtkbjcbflnhgdladGreatDoorK1
import Derived.Test.YtkbjcbflnhgdladGreatDoorK2
import Derived.Test.YtkbjcbflnhgdladGreatDoorK3
import Derived.Test.YtkbjcbflnhgdladGreatDoorK4
import Derived.Test.YtkbjcbflnhgdladGreatDoorR0
import Derived.Test.YtkbjcbflnhgdladGreatDoorR1
import Derived.Test.YtkbjcbflnhgdladGreatDoorR2
import Derived.Test.YtkbjcbflnhgdladGreatDoorR3
import Derived.Test.YtkbjcbflnhgdladGreatDoorR4
namespace Go.Proofs.YtkbjcbflnhgdladGreatDoor
open Go Go.Proofs Go.Vm
section
variable {F : Fence} {w : World} {Q : Exit → Act → World → Prop}
theorem part0 (hF : Wd F.plain) (hB : Base.Ok ⟨R00, vmH, NG, w⟩) (hb : Bare ⟨R00, vmH, NG, w⟩ NG) (h : ∀ x v, AtH ⟨R00, vmH, NG, w⟩ F.plain 55 540 l1 r1 n1 x v → c13.wpIn F.plain 0 Tryz.prog Q x v) : ∀ x v, AtH ⟨R00, vmH, NG, w⟩ F.plain 55 540 l0 r0 n0 x v → c0.wpIn F.plain 0 Tryz.prog Q x v :=
  segH hB hb hF (draw_ok mixed) (execC_ok (draw_ok mixed) bare none_done (okAll_nil) 200) (by kernel_rfl) run0 h
theorem part1 (hF : Wd F.plain) (hB : Base.Ok ⟨R00, vmH, NG, w⟩) (hb : Bare ⟨R00, vmH, NG, w⟩ NG) (h : ∀ x v, AtH ⟨R00, vmH, NG, w⟩ F.plain 55 540 l4 r4 n4 x v → c14.wpIn F.plain 0 Tryz.prog Q x v) : ∀ x v, AtH ⟨R00, vmH, NG, w⟩ F.plain 55 540 l1 r1 n1 x v → c13.wpIn F.plain 0 Tryz.prog Q x v :=
  seq_in hc13 (segH hB hb hF (draw_ok mixed) (execC_ok (draw_ok mixed) bare none_done (okAll_nil) 200) (by kernel_rfl) run1 (loop_in hb13 (fun _ hq => rnds hB hb hF (draw_ok mixed) (execC_ok (draw_ok mixed) bare none_done (okAll_nil) 200) run2 (outs hB hb hF (draw_ok mixed) (execC_ok (draw_ok mixed) bare none_done (okAll_nil) 200) run3 hq)) h))
theorem part4 (hF : Wd F.plain) (hB : Base.Ok ⟨R00, vmH, NG, w⟩) (hb : Bare ⟨R00, vmH, NG, w⟩ NG) (h : ∀ x v, AtH ⟨R00, vmH, NG, w⟩ F.plain 55 540 l5 r5 n5 x v → c33.wpIn F.plain 0 Tryz.prog Q x v) : ∀ x v, AtH ⟨R00, vmH, NG, w⟩ F.plain 55 540 l4 r4 n4 x v → c14.wpIn F.plain 0 Tryz.prog Q x v :=
  segH hB hb hF (draw_ok mixed) (execC_ok (draw_ok mixed) bare none_done (okAll_nil) 200) (by kernel_rfl) run4 h
theorem part5 (hF : Wd F.plain) (hB : Base.Ok ⟨R00, vmH, NG, w⟩) (hb : Bare ⟨R00, vmH, NG, w⟩ NG) (h : ∀ x v, AtH ⟨R00, vmH, NG, w⟩ F.plain 55 540 l6 r6 n6 x v → c35.wpIn F.plain 0 Tryz.prog Q x v) : ∀ x v, AtH ⟨R00, vmH, NG, w⟩ F.plain 55 540 l5 r5 n5 x v → c33.wpIn F.plain 0 Tryz.prog Q x v :=
  segH hB hb hF (draw_ok mixed) (execC_ok (draw_ok mixed) bare none_done (okAll_nil) 200) (by kernel_rfl) run5 h
theorem part6 (hF : Wd F.plain) (hB : Base.Ok ⟨R00, vmH, NG, w⟩) (hb : Bare ⟨R00, vmH, NG, w⟩ NG) (h : ∀ x v, AtH ⟨R00, vmH, NG, w⟩ F.plain 55 540 l7 r7 n7 x v → c41.wpIn F.plain 0 Tryz.prog Q x v) : ∀ x v, AtH ⟨R00, vmH, NG, w⟩ F.plain 55 540 l6 r6 n6 x v → c35.wpIn F.plain 0 Tryz.prog Q x v :=
  segH hB hb hF (draw_ok mixed) (execC_ok (draw_ok mixed) bare none_done (okAll_nil) 200) (by kernel_rfl) run6 h
end
theorem knownF : Known Tryz.prog 3 vmH :=
  known_parts (by decide) (nv := 55) (by decide) Tryz.func3 hbF (by kernel_rfl) bare fun F w hF hB hb a hat => (part0 hF hB hb (part1 hF hB hb (part4 hF hB hb (part5 hF hB hb (part6 hF hB hb (endH (fn := Tryz.f3) hB hb hF (draw_ok mixed) (execC_ok (draw_ok mixed) bare none_done (okAll_cons ok7 (okAll_cons ok41 (okAll_cons ok59 (okAll_cons ok18 (okAll_cons ok58 (okAll_cons ok47 (okAll_cons ok38 (okAll_cons ok12 (okAll_cons ok37 (okAll_cons ok23 (okAll_cons ok36 (okAll_cons ok57 (okAll_cons ok17 (okAll_cons ok56 (okAll_cons ok46 (okAll_cons ok35 (okAll_cons ok11 (okAll_cons ok34 (okAll_cons ok22 (okAll_cons ok33 (okAll_cons ok55 (okAll_cons ok16 (okAll_cons ok54 (okAll_cons ok45 (okAll_cons ok32 (okAll_cons ok10 (okAll_cons ok31 (okAll_cons ok21 (okAll_cons ok30 (okAll_cons ok53 (okAll_cons ok15 (okAll_cons ok52 (okAll_cons ok44 (okAll_cons ok61 (okAll_cons ok29 (okAll_cons ok9 (okAll_cons ok28 (okAll_cons ok20 (okAll_cons ok27 (okAll_cons ok51 (okAll_cons ok14 (okAll_cons ok50 (okAll_cons ok43 (okAll_cons ok60 (okAll_cons ok26 (okAll_cons ok8 (okAll_cons ok25 (okAll_cons ok19 (okAll_cons ok24 (okAll_cons ok49 (okAll_cons ok13 (okAll_cons ok48 (okAll_cons ok42 (okAll_cons ok40 (okAll_cons ok2 (okAll_cons ok1 (okAll_cons ok0 (okAll_cons ok6 (okAll_cons ok39 (okAll_cons ok4 (okAll_cons ok3 (okAll_cons ok5 (okAll_nil))))))))))))))))))))))))))))))))))))))))))))))))))))))))))))))) 200) run7)))))) a w hat
end Go.Proofs.YtkbjcbflnhgdladGreatDoor
