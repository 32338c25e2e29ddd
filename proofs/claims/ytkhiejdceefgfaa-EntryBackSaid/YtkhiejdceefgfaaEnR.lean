/- The document's Right. -/
import Derived.Test.YtkhiejdceefgfaaEnV
import Derived.Test.YtkhiejdceefgfaaLbL
namespace Go.Proofs.Ytkhiejdceefgfaa
open Go.RowKit

def entR (e : Ent) : Bool := nameB e.name && decide (e.tag.length = 32) && decide (0 ≤ e.since) && decide (e.since ≤ e.till) && decide (e.till ≤ 1073741824) && decide (0 ≤ e.index) && decide (e.index ≤ 64)

set_option maxHeartbeats 1000000 in
theorem refRight_any (a : Ent) (w : World) :
    Calls Try.prog 10 #[a.val] w fun e w' => e = .returned (.bool (entR a)) ∧ Below w.heap.size w w' := by
  obtain ⟨n, i, f, u, x, t⟩ := a
  simp only [Ent.val, Ent.enc]
  obtain ⟨b0, h0⟩ : ∃ b, b = nameB n := ⟨_, rfl⟩
  obtain ⟨b2, h2⟩ : ∃ b, b = decide (0 ≤ f) := ⟨_, rfl⟩
  obtain ⟨b3, h3⟩ : ∃ b, b = decide (f ≤ u) := ⟨_, rfl⟩
  obtain ⟨b4, h4⟩ : ∃ b, b = decide (u ≤ 1073741824) := ⟨_, rfl⟩
  obtain ⟨b5, h5⟩ : ∃ b, b = decide (0 ≤ x) := ⟨_, rfl⟩
  obtain ⟨b6, h6⟩ : ∃ b, b = decide (x ≤ 64) := ⟨_, rfl⟩
  have CN := fun w => Lib.hid (refName_any n w)
  rw [← h0] at CN
  have r2 := h2.symm
  have r3 := h3.symm
  have r4 := h4.symm
  have r5 := h5.symm
  have r6 := h6.symm
  by_cases ht : t.length = 32
  · have HB : Hid (entR ⟨n, i, f, u, x, t⟩ = (b0 && b2 && b3 && b4 && b5 && b6)) := Lib.hid (by
      rw [entR, ← h0, ← h2, ← h3, ← h4, ← h5, ← h6, decide_eq_true ht, Bool.and_true])
    have q1 : ((t.length : Int) != 32) = false := by rw [ht]; rfl
    have q2 : (t.length != 32) = false := by rw [ht]; rfl
    clear h0 h2 h3 h4 h5 h6 ht
    cases b0 <;> cases b2 <;> cases b3 <;> cases b4 <;> cases b5 <;> cases b6
    all_goals
      go_enter Try.func10, Try.ntmps10
      go_wp2_with fail
      refine (CN _).out.mono ?_
      rintro e w1 ⟨rfl, rfl⟩
      go_wp2
      go_ret
      exact ⟨by rw [HB.out]; rfl, (Below.refl _ _).alloc (Nat.le_refl _) _⟩
  · have HB : Hid (entR ⟨n, i, f, u, x, t⟩ = false) := Lib.hid (by
      rw [entR, decide_eq_false ht]
      simp)
    have q1 : ((t.length : Int) != 32) = true := by simp; omega
    have q2 : (t.length != 32) = true := by simp; omega
    clear h0 h2 h3 h4 h5 h6 ht
    cases b0
    all_goals
      go_enter Try.func10, Try.ntmps10
      go_wp2_with fail
      refine (CN _).out.mono ?_
      rintro e w1 ⟨rfl, rfl⟩
      go_wp2
      go_ret
      exact ⟨by rw [HB.out]; rfl, (Below.refl _ _).alloc (Nat.le_refl _) _⟩
end Go.Proofs.Ytkhiejdceefgfaa
