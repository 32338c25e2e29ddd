/- Layer 21: when a sender takes its next key: plain functions, what the document's functions answer, what the statements lean on of package rekey. -/
import Derived.Test.YtjohlnpalcmhbaaRecSe
import Derived.Test.YtjohlnpalcmhbaaGenR
import Derived.IntWalk
namespace Go.Proofs.Ytjohlnpalcmhbaa
set_option maxRecDepth 100000
open Go.RowKit

def dueS (s : Ses) (now : Int) : Bool := decide (32 ≤ s.count) || (decide (0 ≤ s.since) && decide (s.since ≤ now) && decide (64 ≤ now - s.since))
def spentS (s : Ses) : Bool := decide (4096 ≤ s.seq) || decide (65535 ≤ s.epoch)
def nextS (s : Ses) (now : Int) : Ses := if dueS s now then { s with used := now, seq := s.seq + 1, epoch := s.epoch + 1, count := 1, since := now } else { s with used := now, seq := s.seq + 1, count := s.count + 1 }
/-- The session behind the next record, and the error. -/
def nextE (s : Ses) (now : Int) : Ses × Int := if spentS s then (Ses.zero, 24) else (nextS s now, 0)

set_option maxRecDepth 100000 in
set_option maxHeartbeats 1000000 in
theorem refSpent_any (s : Ses) (w : World) : Calls Try.prog 36 #[s.val] w fun e w' => e = .returned (.bool (spentS s)) ∧ Below w.heap.size w w' := by
  obtain ⟨q, hq⟩ : ∃ q, q = spentS s := ⟨_, rfl⟩
  rw [← hq]
  have HQ := Lib.hid hq
  clear hq
  go_enter Try.func36, Try.ntmps36
  go_wp2_with (refine wpList_box_row rfl 36 _ rfl s.enc.toArray rfl ?_)
  intro w1 b1 x1 z1
  have B1 := Lib.hid b1
  have c1 := Ses.At.at_seq x1
  have c2 := Ses.At.at_epoch x1
  clear b1 x1 z1
  by_cases h1 : 4095 < s.seq
  · go_wp2
    go_ret
    exact ⟨by rw [HQ.out, spentS]; simp; omega, B1.out⟩
  · by_cases h2 : 65534 < s.epoch
    · go_wp2
      go_ret
      exact ⟨by rw [HQ.out, spentS]; simp; omega, B1.out⟩
    · go_wp2
      go_ret
      exact ⟨by rw [HQ.out, spentS]; simp; omega, B1.out⟩

end Go.Proofs.Ytjohlnpalcmhbaa
