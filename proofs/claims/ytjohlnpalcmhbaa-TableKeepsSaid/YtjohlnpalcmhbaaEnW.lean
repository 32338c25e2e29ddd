/- The document's Who. -/
import Derived.Test.YtjohlnpalcmhbaaEnV
namespace Go.Proofs.Ytjohlnpalcmhbaa
set_option maxRecDepth 100000
open Go.RowKit

set_option maxHeartbeats 1000000 in
theorem refWho_any (a b : Ent) (w : World) :
    Calls Try.prog 34 #[a.val, b.val] w fun e w' => e = .returned (.bool (entW a b)) ∧ Below w.heap.size w w' := by
  obtain ⟨n1, i1, f1, u1, x1, t1⟩ := a
  obtain ⟨n2, i2, f2, u2, x2, t2⟩ := b
  simp only [Ent.val, Ent.enc]
  by_cases hn : n1 = n2
  · subst hn
    obtain ⟨B, hB⟩ : ∃ B, B = ((i1 : Int) == (i2 : Int)) := ⟨_, rfl⟩
    have HB : Hid (entW ⟨n1, i1, f1, u1, x1, t1⟩ ⟨n1, i2, f2, u2, x2, t2⟩ = B) := Lib.hid (by
      rw [hB, entW]
      by_cases h : i1 = i2
      · simp [h]
      · have e : ((i1 : Int) == (i2 : Int)) = false := by rw [beq_eq_false_iff_ne]; omega
        rw [e]
        simp [h])
    have r := hB.symm
    clear hB
    go_enter Try.func34, Try.ntmps34
    go_wp2
    go_ret
    exact ⟨by rw [HB.out]; rfl, ((Below.refl _ _).alloc (Nat.le_refl _) _).alloc (by simp) _⟩
  · have HB : Hid (entW ⟨n1, i1, f1, u1, x1, t1⟩ ⟨n2, i2, f2, u2, x2, t2⟩ = false) := Lib.hid (by
      rw [entW]
      simp [hn])
    go_enter Try.func34, Try.ntmps34
    have r : (n1 == n2) = false := by rw [beq_eq_false_iff_ne]; exact hn
    go_wp2
    go_ret
    exact ⟨by rw [HB.out]; rfl, ((Below.refl _ _).alloc (Nat.le_refl _) _).alloc (by simp) _⟩
end Go.Proofs.Ytjohlnpalcmhbaa
