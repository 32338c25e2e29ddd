/- Package label, as landed: span.has, Key. -/
import Derived.Test.YtkhiejdceefgfaaRecSp
import Derived.Test.YtkhiejdceefgfaaLbM
import Derived.Test.YtkhiejdceefgfaaStr
import Derived.Test.YtkhiejdceefgfaaGenS
import Derived.Test.YtkhiejdceefgfaaGenT
import Derived.Deep.DeepCutAuto
import Derived.Deep.LoopGhost
namespace Go.Proofs.Ytkhiejdceefgfaa
open Go.RowKit

/-- Does a byte lie in a span? -/
def Span.hasB (s : Span) (c : UInt8) : Bool := decide (s.lo ≤ c.toNat) && decide (c.toNat ≤ s.hi)

set_option maxHeartbeats 1000000 in
theorem has_any (s : Span) (c : UInt8) (w : World) :
    Calls Try.prog 39 #[s.val, .int .u8 (c.toNat : Int)] w fun e w' => e = .returned (.bool (s.hasB c)) ∧ Below w.heap.size w w' := by
  obtain ⟨b1, h1⟩ : ∃ b, b = decide (s.lo ≤ c.toNat) := ⟨_, rfl⟩
  obtain ⟨b2, h2⟩ : ∃ b, b = decide (c.toNat ≤ s.hi) := ⟨_, rfl⟩
  have d1 : decide ((s.lo : Int) ≤ (c.toNat : Int)) = b1 := by rw [h1]; congr 1; apply propext; omega
  have d2 : decide ((c.toNat : Int) ≤ (s.hi : Int)) = b2 := by rw [h2]; congr 1; apply propext; omega
  have HR : Hid (s.hasB c = (b1 && b2)) := Lib.hid (by rw [Span.hasB, h1, h2])
  have d1n := h1.symm
  have d2n := h2.symm
  clear h1 h2
  go_enter Try.func39, Try.ntmps39
  go_wp2_with (refine wpList_box_row rfl 54 _ rfl s.enc.toArray (by with_unfolding_all exact rfl) ?_)
  intro w1 b1 x1 z1
  obtain ⟨gS, hgS⟩ : ∃ g, g = w.heap.size := ⟨_, rfl⟩
  have M_S := Lib.hid (show w.heap.size ≤ gS from by rw [hgS]; exact Nat.le_refl _)
  have B1 := Lib.hid b1
  rw [← hgS] at x1 ⊢
  have S1 : Hid (Span.At w1 gS s) := Lib.hid x1
  clear b1 x1 z1 hgS 
  have c1 := Span.At.at_lo S1.out
  have c2 := Span.At.at_hi S1.out
  cases b1
  all_goals
    go_wp2
    go_ret
    exact ⟨by rw [HR.out]; rfl, B1.out⟩

def seenS : Span := ⟨33, 126⟩
theorem seen_is (c : UInt8) : seenS.hasB c = keyC c := by
  rw [Span.hasB, keyC]
  congr 1
  all_goals
    congr 1
    apply propext
    simp only [seenS]
    omega

end Go.Proofs.Ytkhiejdceefgfaa
