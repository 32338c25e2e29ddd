/- The statements' own Great. -/
import Derived.Test.YtjohlnpalcmhbaaEnV
namespace Go.Proofs.Ytjohlnpalcmhbaa
set_option maxRecDepth 100000
open Go.RowKit

def greatB (e : Ent) : Bool := decide (1000 < e.name.length) || decide (1000 < e.tag.length)

set_option maxHeartbeats 1000000 in
theorem great_any (a : Ent) (w : World) :
    Calls Try.prog 8 #[a.val] w fun e w' => e = .returned (.bool (greatB a)) ∧ Below w.heap.size w w' := by
  obtain ⟨n, i, f, u, x, t⟩ := a
  simp only [Ent.val, Ent.enc]
  obtain ⟨b1, h1⟩ : ∃ b, b = decide (1000 < n.length) := ⟨_, rfl⟩
  obtain ⟨b2, h2⟩ : ∃ b, b = decide (1000 < t.length) := ⟨_, rfl⟩
  have HB : Hid (greatB ⟨n, i, f, u, x, t⟩ = (b1 || b2)) := Lib.hid (by rw [greatB, ← h1, ← h2])
  have r1 : decide ((1000 : Int) < (n.length : Int)) = b1 := by rw [h1]; congr 1; apply propext; omega
  have r2 : decide ((1000 : Int) < (t.length : Int)) = b2 := by rw [h2]; congr 1; apply propext; omega
  have r3 := h1.symm
  have r4 := h2.symm
  clear h1 h2
  cases b1 <;> cases b2
  all_goals
    go_enter Try.func8, Try.ntmps8
    go_wp2
    go_ret
    exact ⟨by rw [HB.out]; rfl, (Below.refl _ _).alloc (Nat.le_refl _) _⟩
end Go.Proofs.Ytjohlnpalcmhbaa
