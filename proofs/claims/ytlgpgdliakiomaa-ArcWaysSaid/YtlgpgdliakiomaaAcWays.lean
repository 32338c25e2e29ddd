/- The statement ArcWays: how far any place lies ahead of any other one, whether any is met between, and where a power of two leads, is as the document has it. For every input. -/
import Derived.Test.YtlgpgdliakiomaaAcA
namespace Go.Proofs.Ytlgpgdliakiomaa
open Go.RowKit Go.ChangeShapes Go.WideShapes Go.ChangeAt

set_option maxRecDepth 100000 in
set_option maxHeartbeats 4000000 in
theorem ways_core (H : ArcIs) (a x b : Nat) (bit : Int) (ha : a < 18446744073709551616) (hx : x < 18446744073709551616) (hb : b < 18446744073709551616) (hw : (Lit.int .i64 bit).wf = true) (w : World) :
    Calls Try.prog 3 #[.int .u64 (a : Int), .int .u64 (x : Int), .int .u64 (b : Int), .int .i64 bit] w fun e w' => e = .returned (.bool true) ∧ Below w.heap.size w w' := by
  have C1 := fun w => Lib.hid (H.dist a b w ha hb)
  have C2 := fun w => Lib.hid (refDist_any a b ha hb w)
  have C3 := fun w => Lib.hid (H.within a x b w ha hx hb)
  have C4 := fun w => Lib.hid (refWithin_any a x b w)
  have C5 := fun w => Lib.hid (H.inside a x b w ha hx hb)
  have C6 := fun w => Lib.hid (refInside_any a x b w)
  have C7 := fun w => Lib.hid (H.start a bit w ha hw)
  have C8 := fun w => Lib.hid (refStart_any a bit ha w)
  generalize distN a b = d at C1 C2
  generalize withinB a x b = p at C3 C4
  generalize insideB a x b = q at C5 C6
  generalize startN a bit = s at C7 C8
  clear ha hx hb hw
  go_enter Try.func3, Try.ntmps3
  go_wp2_with fail
  refine (C1 w).out.mono ?_
  rintro e w1 ⟨rfl, b1⟩
  have B1 := Lib.hid b1
  clear b1
  go_wp2_with fail
  refine (C2 w1).out.mono ?_
  rintro e w2 ⟨rfl, rfl⟩
  go_wp2_with fail
  refine (C3 w1).out.mono ?_
  rintro e w3 ⟨rfl, b3⟩
  have B3 := Lib.hid (B1.out.trans (b3.mono B1.out.size))
  clear b3 B1
  go_wp2_with fail
  refine (C4 w3).out.mono ?_
  rintro e w4 ⟨rfl, rfl⟩
  go_wp2_with fail
  refine (C5 w3).out.mono ?_
  rintro e w5 ⟨rfl, b5⟩
  have B5 := Lib.hid (B3.out.trans (b5.mono B3.out.size))
  clear b5 B3
  go_wp2_with fail
  refine (C6 w5).out.mono ?_
  rintro e w6 ⟨rfl, rfl⟩
  go_wp2_with fail
  refine (C7 w5).out.mono ?_
  rintro e w7 ⟨rfl, b7⟩
  have B7 := Lib.hid (B5.out.trans (b7.mono B5.out.size))
  clear b7 B5
  go_wp2_with fail
  refine (C8 w7).out.mono ?_
  rintro e w8 ⟨rfl, b8⟩
  have B8 := Lib.hid (B7.out.trans (b8.mono B7.out.size))
  clear b8 B7
  have W := Lib.hid (works9 H w8)
  go_wp2_with fail
  refine W.out.mono ?_
  rintro e w9 ⟨rfl, b9⟩
  have B9 := Lib.hid (B8.out.trans (b9.mono B8.out.size))
  clear b9 B8
  go_wp2
  go_ret
  exact ⟨rfl, B9.out⟩
end Go.Proofs.Ytlgpgdliakiomaa
