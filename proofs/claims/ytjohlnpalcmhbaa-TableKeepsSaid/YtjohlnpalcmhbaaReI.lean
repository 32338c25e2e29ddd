/- What package rekey's functions answer: all that layer 21's statements lean on (rekey_is). -/
import Derived.Test.YtjohlnpalcmhbaaReR
namespace Go.Proofs.Ytjohlnpalcmhbaa
set_option maxRecDepth 100000
open Go.RowKit

/-- How far now lies above Since; 0, where the ticks play no part. -/
def ticksS (s : Ses) (now : Int) : Int := if s.since < 0 ∨ now < s.since then 0 else now - s.since

set_option maxRecDepth 100000 in
set_option maxHeartbeats 1000000 in
theorem rkSpent_any (s : Ses) (w : World) : Calls Try.prog 35 #[s.val] w fun e w' => e = .returned (.bool (spentS s)) ∧ Below w.heap.size w w' := by
  obtain ⟨q, hq⟩ : ∃ q, q = spentS s := ⟨_, rfl⟩
  rw [← hq]
  have HQ := Lib.hid hq
  clear hq
  go_enter Try.func35, Try.ntmps35
  go_wp2_with (refine wpList_box_row rfl 36 _ rfl s.enc.toArray rfl ?_)
  intro w1 b1 x1 z1
  have B1 := Lib.hid b1
  have c1 := Ses.At.at_seq x1
  have c2 := Ses.At.at_epoch x1
  clear b1 x1 z1
  by_cases h1 : 4096 ≤ s.seq
  · go_wp2
    go_ret
    exact ⟨by rw [HQ.out, spentS]; simp; omega, B1.out⟩
  · by_cases h2 : 65535 ≤ s.epoch
    · go_wp2
      go_ret
      exact ⟨by rw [HQ.out, spentS]; simp; omega, B1.out⟩
    · go_wp2
      go_ret
      exact ⟨by rw [HQ.out, spentS]; simp; omega, B1.out⟩

end Go.Proofs.Ytjohlnpalcmhbaa
