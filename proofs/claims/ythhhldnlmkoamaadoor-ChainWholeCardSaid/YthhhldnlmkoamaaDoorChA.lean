/- What the texts of layer 12's statements lean on of package chain, as one thing to prove: each call's answer, where digest's table lies as it was laid. -/
import Derived.Test.YthhhldnlmkoamaaDoorChL
import Derived.Test.YthhhldnlmkoamaaDoorDgB
namespace Go.Proofs.YthhhldnlmkoamaaDoor
open Go.RowKit

structure ChainIs : Prop where
  step : ∀ (k : List UInt8) (w : World) (_ : k.length ≤ 4000) (_ : Tab w),
    Calls Tryd.prog 11 #[.string ⟨k.toArray⟩] w fun e w' => e = .returned (.string ⟨(stepL k).toArray⟩) ∧ Below w.heap.size w w'
  back : ∀ (k : List UInt8) (z : Int) (w : World) (_ : k.length ≤ 4000) (_ : Tab w),
    Calls Tryd.prog 9 #[.string ⟨k.toArray⟩, .int .i64 z] w fun e w' => e = .returned (.tuple #[.string ⟨(backA k z).toArray⟩, .int .i64 (backC z)]) ∧ Below w.heap.size w w'
  key : ∀ (seed : List UInt8) (len idx : Int) (w : World) (_ : seed.length ≤ 4000) (_ : Tab w),
    Calls Tryd.prog 7 #[.string ⟨seed.toArray⟩, .int .i64 len, .int .i64 idx] w fun e w' => e = .returned (.tuple #[.string ⟨(keyA seed len idx).toArray⟩, .int .i64 (chKeyC len idx)]) ∧ Below w.heap.size w w'
  leads : ∀ (yi oi : Int) (yk ok : List UInt8) (w : World) (_ : yi ≤ 9223372036854775807) (_ : -9223372036854775808 ≤ oi) (_ : oi ≤ 9223372036854775807) (_ : ok.length ≤ 4000) (_ : Tab w),
    Calls Tryd.prog 13 #[gateV yi yk, gateV oi ok] w fun e w' => e = .returned (.bool (leadsB yi yk oi ok)) ∧ Below w.heap.size w w'

def seedN : List UInt8 := [115, 101, 101, 100]
theorem ex_key0 : ∃ a b : List UInt8, keyA seedN 3 0 = a ∧ keyA seedN 3 2 = b ∧ a.length = 32 ∧ b.length = 32 ∧ stepL (stepL b) = a ∧ leadsB 2 b 0 a = true := by
  refine ⟨_, _, rfl, rfl, key_len _ _ _ (by decide), key_len _ _ _ (by decide), ?_, keys_lead seedN 3 2 0 (by decide) (by decide) (by decide)⟩
  rw [key_step seedN 3 2 (by decide) (by decide)]
  exact key_step seedN 3 1 (by decide) (by decide)

set_option maxRecDepth 100000 in
set_option maxHeartbeats 2000000 in
theorem works12 (H : ChainIs) (w : World) (T : Tab w) :
    Calls Tryd.prog 6 #[] w fun e w' => e = .returned (.bool true) ∧ Below w.heap.size w w' := by
  have HH := Lib.hid H
  have T0 := Lib.hid T
  obtain ⟨a, b, ea, eb, la, lb, es, el⟩ := ex_key0
  have C1 : Hid (Calls Tryd.prog 7 #[.string ⟨seedN.toArray⟩, .int .i64 3, .int .i64 0] w _) := Lib.hid (H.key seedN 3 0 w (by decide) T)
  have C2 : Hid (∀ w1, Tab w1 → Calls Tryd.prog 7 #[.string ⟨seedN.toArray⟩, .int .i64 3, .int .i64 2] w1 _) := Lib.hid (fun w1 t => H.key seedN 3 2 w1 (by decide) t)
  have C3 : Hid (∀ w1, Tab w1 → Calls Tryd.prog 7 #[.string ⟨seedN.toArray⟩, .int .i64 0, .int .i64 0] w1 _) := Lib.hid (fun w1 t => H.key seedN 0 0 w1 (by decide) t)
  rw [ea, show chKeyC 3 0 = 0 by decide] at C1
  rw [eb, show chKeyC 3 2 = 0 by decide] at C2
  rw [show keyA seedN 0 0 = [] by rfl, show chKeyC 0 0 = 2 by decide] at C3
  have LA := Lib.hid la
  have LB := Lib.hid lb
  have ES := Lib.hid es
  have EL := Lib.hid el
  clear H T ea eb la lb es el
  go_enter Tryd.func6, Tryd.ntmps6
  go_wp2_with fail
  refine C1.out.mono ?_
  rintro e w1 ⟨rfl, b1⟩
  have B1 := Lib.hid b1
  clear b1 C1
  go_wp2_with fail
  refine (C2.out w1 (T0.out.below B1.out T0.out.pos)).mono ?_
  rintro e w2 ⟨rfl, b2⟩
  have B2 := Lib.hid (B1.out.trans (b2.mono B1.out.size))
  clear b2 C2
  go_wp2_with fail
  refine (C3.out w2 (T0.out.below B2.out T0.out.pos)).mono ?_
  rintro e w3 ⟨rfl, b3⟩
  have B3 := Lib.hid (B2.out.trans (b3.mono B2.out.size))
  have la := LA.out
  clear b3 C3
  go_wp2_with fail
  refine (HH.out.step b w3 (by have := LB.out; omega) (T0.out.below B3.out T0.out.pos)).mono ?_
  rintro e w4 ⟨rfl, b4⟩
  have B4 := Lib.hid (B3.out.trans (b4.mono B3.out.size))
  have CS := Lib.hid (HH.out.step (stepL b) w4 (by rw [stepL_length]; decide) (T0.out.below B4.out T0.out.pos))
  rw [ES.out] at CS
  clear b4
  go_wp2_with fail
  refine CS.out.mono ?_
  rintro e w5 ⟨rfl, b5⟩
  have B5 := Lib.hid (B4.out.trans (b5.mono B4.out.size))
  have CL := Lib.hid (HH.out.leads 2 0 b a w5 (by decide) (by decide) (by decide) (by have := LA.out; omega) (T0.out.below B5.out T0.out.pos))
  rw [EL.out] at CL
  clear b5 CS
  go_wp2_with fail
  refine CL.out.mono ?_
  rintro e w6 ⟨rfl, b6⟩
  have B6 := Lib.hid (B5.out.trans (b6.mono B5.out.size))
  clear b6 CL
  go_wp2
  go_ret
  exact ⟨rfl, B6.out⟩
end Go.Proofs.YthhhldnlmkoamaaDoor
